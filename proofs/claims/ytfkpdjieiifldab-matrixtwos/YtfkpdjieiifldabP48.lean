
/- Frexp; Scale of a good matrix by a finite number. (Written by mkmta.py.) -/
import Derived.Test.YtfkpdjieiifldabP40
import Derived.Test.YtfkpdjieiifldabP33
import Derived.Test.YtfkpdjieiifldabP47
namespace Go.Proofs.Ytfkpdjieiifldab
open Go.RowKit Go.IntWalk

set_option maxRecDepth 4000 in
set_option maxHeartbeats 400000 in
theorem Frexp_any (x : Nat) (hx : x < 18446744073709551616) (fx : x % 9223372036854775808 < 9218868437227405312) (h0 : x % 9223372036854775808 ≠ 0) (w : World) : Calls Try.prog 37 #[.float .f64 x] w fun r w' => (∃ v e, r = .returned (.tuple #[.float .f64 v, .int .i64 e]) ∧ FrE x e) ∧ w' = w := by
  have HF : Hid (∀ W, Calls Try.prog 91 #[.float .f64 x] W fun r w' => (∃ v e, r = .returned (.tuple #[.float .f64 v, .int .i64 e]) ∧ FrE x e) ∧ w' = W) := fun W => by
    by_cases h : 4503599627370496 ≤ x % 9223372036854775808
    · refine (frexpq x x 0 hx fx h0 hx (by omega) W (normq_big x hx fx h)).mono ?_
      rintro r w' ⟨⟨v, rfl⟩, rfl⟩
      refine ⟨⟨v, _, rfl, ?_⟩, rfl⟩
      exact ⟨fun _ => by omega, fun hc => by omega, by omega, by omega⟩
    · obtain ⟨z, hz, hzl, hz2⟩ := sub_up x hx (by omega)
      refine (frexpq x z (-52) hx fx h0 hzl (by omega) W (normq_sub x z hx (by omega) hz)).mono ?_
      rintro r w' ⟨⟨v, rfl⟩, rfl⟩
      refine ⟨⟨v, _, rfl, ?_⟩, rfl⟩
      exact ⟨fun hc => absurd hc h, fun _ => by omega, by omega, by omega⟩
  clear hx fx h0
  go_enter Try.func37, Try.ntmps37
  go_wp2_with fail
  refine (HF.out _).mono ?_
  rintro r w1 ⟨⟨v, e, rfl, he⟩, rfl⟩
  have HE := hid he
  clear he
  go_wp2_with fail
  go_ret2
  exact ⟨⟨v, e, rfl, HE.out⟩, rfl⟩
/-- A variable that holds a number. -/
def FBox (s : Nat) : Obj := .cells #[.float .f64 s] 36
theorem fcell_of {w : World} {b s : Nat} (h : w.heap[b]? = some (FBox s)) : w.cell? ⟨b, 0, none⟩ = some (.float .f64 s) := by
  unfold FBox at h
  simp [World.cell?, h]
theorem mulq_some (x s : Nat) (hx : x < 18446744073709551616) (fx : x % 9223372036854775808 < 9218868437227405312) (hs : s < 18446744073709551616) (fs : s % 9223372036854775808 < 9218868437227405312) : ∃ z, FloatKind.f64.format.mul x s = some z ∧ z < 18446744073709551616 := by
  have h := mul_rndS x s hx hs fx fs
  have hle := (near_rnd false (nv (x % 9223372036854775808) * nv (s % 9223372036854775808)) (-2148)).2
  exact ⟨_, h, (signN_mod _ _ (by omega)).2.2⟩
set_option maxRecDepth 4000 in
set_option maxHeartbeats 1000000 in
theorem clo_Scale (i j : Nat) (p0 p1 : Nat) (ra ca s : Nat) (sa : Option Addr) (na ka : Nat) (f : Nat → Nat) (w : World) (h0 : w.heap[p0]? = some (MBox ra ca sa na ka)) (h1 : w.heap[p1]? = some (FBox s)) (ha : FnM w sa na ka f) (hc : ca ≤ 100) (hi : i ≤ 100) (hj : j ≤ 100) (hia : i * ca + j < na) (hs : s < 18446744073709551616) (fs : s % 9223372036854775808 < 9218868437227405312) (fx : f (i * ca + j) % 9223372036854775808 < 9218868437227405312) :
    Calls Try.prog 93 #[.int .i64 i, .int .i64 j, .pointer (some ⟨p0, 0, none⟩), .pointer (some ⟨p1, 0, none⟩)] w fun e w' => ∃ x : Nat, e = .returned (.float .f64 x) ∧ (FloatKind.f64.format.mul (f (i * ca + j)) s = some x ∧ x < 18446744073709551616) ∧ Below w.heap.size w w' := by
  obtain ⟨z, hz, hzl⟩ := mulq_some (f (i * ca + j)) s (fn_lt ha _ hia) fx hs fs
  have hmu := f_mul hz
  have HZ := hid (And.intro hz hzl)
  have HKS : Hid (∀ W, Hid (Below w.heap.size w W) → (W.cell? ⟨p0, 0, none⟩ = some (.int .i64 ra) ∧ W.cell? ⟨p0, 1, none⟩ = some (.int .i64 ca) ∧ W.cell? ⟨p0, 2, none⟩ = some (.slice sa na ka) ∧ W.cell? ⟨p1, 0, none⟩ = some (.float .f64 s)) ∧ Hid (Below w.heap.size w W)) := fun W hW => by
    obtain ⟨a0, a1, a2⟩ := mcells_of (w := W) ((hW.out.block _ (Array.getElem?_eq_some_iff.1 h0).1).trans h0)
    exact ⟨⟨a0, a1, a2, fcell_of (w := W) ((hW.out.block _ (Array.getElem?_eq_some_iff.1 h1).1).trans h1)⟩, hW⟩
  have HRA : Hid (∀ W, Hid (Below w.heap.size w W) → Calls Try.prog 65 #[.agg #[.int .i64 ra, .int .i64 ca, .slice sa na ka], .int .i64 i, .int .i64 j] W fun e w' => e = .returned (.float .f64 (f (i * ca + j))) ∧ Below W.heap.size W w') := fun W hW => at_fn ra sa ca na ka i j f W (ha.below hW.out) hi hc hj hia
  obtain ⟨X, hX⟩ : ∃ t, Hid (f (i * ca + j) = t) := ⟨_, rfl⟩
  rw [hX.out] at HRA HZ hmu ⊢
  have HQ0 : Hid (Below w.heap.size w w.drew) := (Below.refl _ _).drew
  clear h0 h1 ha hc hi hj hia hs fs fx hz hzl
  go_enter Try.func93, Try.ntmps93
  go_wp2_with fail
  refine wp_region_held_drew (S := fun W => (W.cell? ⟨p0, 0, none⟩ = some (.int .i64 ra) ∧ W.cell? ⟨p0, 1, none⟩ = some (.int .i64 ca) ∧ W.cell? ⟨p0, 2, none⟩ = some (.slice sa na ka) ∧ W.cell? ⟨p1, 0, none⟩ = some (.float .f64 s)) ∧ Hid (Below w.heap.size w W)) (by kernel_rfl) (HKS.out _ HQ0) (fun hHeld => ?_)
  refine take_at 0 7 (.agg #[.int .i64 ra, .int .i64 ca, .slice sa na ka]) rfl rfl (by kernel_rfl) (by kernel_rfl) (by kernel_rfl) (fun _ _ _ h => h) (Or.inl ⟨by rfl, fun w hSw => by (try dsimp only at hSw); go_simp⟩) (by assumption) ?_
  simp only [Act.put, List.setIfInBounds_toArray, List.set_cons_zero, List.set_cons_succ]
  refine take_at 1 8 (.int .i64 i) rfl rfl (by kernel_rfl) (by kernel_rfl) (by kernel_rfl) (fun _ _ _ h => h) (Or.inl ⟨by rfl, fun w hSw => by (try dsimp only at hSw); go_simp⟩) (by assumption) ?_
  simp only [Act.put, List.setIfInBounds_toArray, List.set_cons_zero, List.set_cons_succ]
  refine take_at 2 9 (.int .i64 j) rfl rfl (by kernel_rfl) (by kernel_rfl) (by kernel_rfl) (fun _ _ _ h => h) (Or.inl ⟨by rfl, fun w hSw => by (try dsimp only at hSw); go_simp⟩) (by assumption) ?_
  simp only [Act.put, List.setIfInBounds_toArray, List.set_cons_zero, List.set_cons_succ]
  refine take_at 4 11 (.float .f64 s) rfl rfl (by kernel_rfl) (by kernel_rfl) (by kernel_rfl) (fun _ _ _ h => h) (Or.inl ⟨by rfl, fun w hSw => by (try dsimp only at hSw); go_simp⟩) (by assumption) ?_
  simp only [Act.put, List.setIfInBounds_toArray, List.set_cons_zero, List.set_cons_succ]
  refine wpAnyH_ready (rs := [3]) (by kernel_rfl) (by simp) ?_
  refine AllReadyH.cons (o := _) rfl (fun K hK => ?_) AllReadyH.nil
  go_simp
  refine (HRA.out _ HQ0).mono ?_
  rintro e u1 ⟨rfl, hb1⟩
  have HG1 : Hid (Below w.heap.size w u1) := HQ0.out.trans (hb1.mono HQ0.out.size)
  clear hb1
  go_wp2_with fail
  refine hK.out _ _ (HKS.out _ HG1) (fun hHeld1 => ?_)
  clear hK K
  try simp only [Act.put, List.setIfInBounds_toArray, List.set_cons_zero, List.set_cons_succ]
  refine take_at 5 12 (.float .f64 z) rfl rfl (by kernel_rfl) (by kernel_rfl) (by kernel_rfl) (fun _ _ _ h => h) (Or.inl ⟨by rfl, fun w hSw => by (try dsimp only at hSw); go_simp⟩) (by assumption) ?_
  simp only [Act.put, List.setIfInBounds_toArray, List.set_cons_zero, List.set_cons_succ]
  refine take_at 6 6 (.float .f64 z) rfl rfl (by kernel_rfl) (by kernel_rfl) (by kernel_rfl) (fun _ _ _ h => h) (Or.inl ⟨by rfl, fun w hSw => by (try dsimp only at hSw); go_simp⟩) (by assumption) ?_
  simp only [Act.put, List.setIfInBounds_toArray, List.set_cons_zero, List.set_cons_succ]
  refine wpAnyH_done (by kernel_rfl) ?_ _
  go_wp2_with fail
  go_ret
  exact ⟨_, rfl, HZ.out, HG1.out⟩
set_option maxRecDepth 4000 in
set_option maxHeartbeats 2000000 in
theorem Scale_good (r c n s : Nat) (sa : Option Addr) (ka : Nat) (f : Nat → Nat) (w : World) (ha : Gd w r c sa n ka f) (hs : s < 18446744073709551616) (fs : s % 9223372036854775808 < 9218868437227405312) :
    Calls Try.prog 38 #[MV r c sa n ka, .float .f64 s] w fun e w' => (∃ (g : Nat) (o : Nat → Nat), e = .returned (AnsM r c (r * c) g o) ∧ FnM w' (some ⟨g, 0, none⟩) (r * c) (r * c) o ∧ ∀ i j, i < r → j < c → FloatKind.f64.format.mul (f (i * c + j)) s = some (o (i * c + j))) ∧ Below w.heap.size w w' := by
  obtain ⟨t1, t2, t3, t4, t5⟩ := three_b w (MBox r c sa n ka) (FBox s) (MBox 0 0 none 0 0)
  have HCB := hid (fun W (hW : Below w.heap.size w W) => Check_any r c sa n ka _ W ((ha.below hW).2.2.2.1.fl) (by have := ha.le; omega))
  rw [ha.chk] at HCB
  have HIS := hid (fun W => isfinq_any s W hs)
  rw [show finB s = true from decide_eq_true fs] at HIS
  have l1 := ha.1
  have l2 := ha.2.1
  have hm1 : r * c ≤ 144 := Nat.mul_le_mul l1 l2
  have HM1 : Hid (r * c ≤ 144) := hm1
  have HFI := hid (fun W (hW : Below (((w.alloc (MBox r c sa n ka)).alloc (FBox s)).alloc (MBox 0 0 none 0 0)).heap.size (((w.alloc (MBox r c sa n ka)).alloc (FBox s)).alloc (MBox 0 0 none 0 0)) W) => fill_Scale r c (by omega) (by omega) ⟨w.heap.size, 0, none⟩ ⟨w.heap.size + 1, 0, none⟩ (fun i j x => FloatKind.f64.format.mul (f (i * c + j)) s = some x) W (fun W2 i j hW2 hi hj => clo_Scale i j w.heap.size (w.heap.size + 1) r c s sa n ka f W2 (blkM (blkM t1 hW) hW2) (blkM (blkM t2 hW) hW2) (((ha.2.2.2.1.below t4).below hW).below hW2) (by omega) (by omega) (by omega) (by rw [ha.2.2.1]; exact place_lt hi hj) hs fs (gd_fin ha _ (place_lt hi hj)).2))
  obtain ⟨V, hV⟩ : ∃ V, Hid (((w.alloc (MBox r c sa n ka)).alloc (FBox s)).alloc (MBox 0 0 none 0 0) = V) := ⟨_, rfl⟩
  rw [hV.out] at HFI t1 t2 t3 t4 t5
  have hV' := hV.out
  have HB := hid t4
  have HR := hid t3
  have HA0 := hid t1
  have HA1 := hid t2
  obtain ⟨x0, x1, x2⟩ := mcells_of t1
  have v0 := fcell_of t2
  unfold MBox FBox at hV'
  unfold MV at HCB ⊢
  clear t1 t2 t3 t4 t5 ha hs fs l1 l2 hm1
  go_enter Try.func38, Try.ntmps38
  go_wp2_with fail
  refine (HCB.out _ HB.out).mono ?_
  rintro e w1 ⟨rfl, hb1⟩
  have HB1 := hid (HB.out.trans (hb1.mono HB.out.size))
  have HR1 := hid (blkM HR.out hb1)
  have HFF := hid (HFI.out _ hb1)
  obtain ⟨x0, x1, x2⟩ := mcells_of (blkM HA0.out hb1)
  have v0 := fcell_of (blkM HA1.out hb1)
  clear hb1
  go_wp2_with fail
  refine (HIS.out _).mono ?_
  rintro e w1' ⟨rfl, hw⟩
  subst hw
  go_wp2_with fail
  refine HFF.out.mono ?_
  rintro e w2 ⟨hfi, hb2⟩
  obtain ⟨g1, o1, rfl, hg1, hf1, hp1⟩ := hfi.fn (by have := HM1.out; omega)
  have HB2 := hid (HB1.out.trans (hb2.mono HB1.out.size))
  have HR2 := hid (blkM HR1.out hb2)
  have HF1 := hid hf1
  have HP1 := hid hp1
  clear hb2 hfi hg1 hf1 hp1
  have HAN := hid (answered_any r c (r * c) _ (r * c) o1 w2 HF1.out (by have := HM1.out; omega))
  obtain ⟨X0, X1, X2, X3, X4, hXX⟩ : ∃ a b s m k, Hid ((if finF (r * c) o1 = true then MV r c (some ⟨g1, 0, none⟩) (r * c) (r * c) else MV 0 0 none 0 0) = MV a b s m k) := by
    by_cases q : finF (r * c) o1 = true
    · exact ⟨r, c, _, _, _, by show _ = _; rw [if_pos q]⟩
    · exact ⟨0, 0, _, _, _, by show _ = _; rw [if_neg q]⟩
  obtain ⟨E, hE⟩ : ∃ E, Hid ((if finF (r * c) o1 = true then 0 else 5 : Int) = E) := ⟨_, rfl⟩
  rw [hXX.out, hE.out] at HAN
  unfold MV at HAN ⊢
  go_wp2_with fail
  refine HAN.out.mono ?_
  rintro e w3 ⟨rfl, hk3, hb3⟩
  have HB3 := hid (HB2.out.trans (hb3.mono HB2.out.size))
  have HR3 := hid (blkM HR2.out hb3)
  have HF3 := hid (hk3 _ _ _ _ HF1.out)
  obtain ⟨y0, y1, y2⟩ := mcells_of HR3.out
  have fz := frzM HR3.out
  clear hk3 hb3
  go_wp2_with fail
  exact bodyPost_ret (v := AnsM r c (r * c) g1 o1) (by unfold AnsM; rw [hXX.out, hE.out]; simp [results, Try.results38, go_sem, y0, y1, y2, MV]) rfl ⟨⟨g1, o1, rfl, StoM.fn HF3.out HR3.out, HP1.out⟩, StoM.below HB3.out (by omega)⟩
end Go.Proofs.Ytfkpdjieiifldab
