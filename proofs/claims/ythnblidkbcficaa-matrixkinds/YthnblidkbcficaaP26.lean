
/- matrix: checkSquare, Mean, Equal; the document's SameList; the law's alike and of. (Written by mkmxj.py.) -/
import Derived.Test.YthnblidkbcficaaP24
import Derived.Test.YthnblidkbcficaaP13
namespace Go.Proofs.Ythnblidkbcficaa
open Go.RowKit Go.IntWalk

/-- A quotient's bits; where there is none, a NaN that is drawn. -/
def quF (x y : Nat) (w : World) : Nat := (floatBits .quo .f64 x y).getD (nanF x y w)
def quG (x y : Nat) (w : World) : World := if (floatBits .quo .f64 x y).isSome then w else w.drew
theorem qu_run (x y : Nat) (w : World) : (binOp .quo 51 (.float .f64 x) (.float .f64 y)).run Try.prog w = .ok (.float .f64 (quF x y w)) (quG x y w) := by
  unfold quF quG
  cases h : floatBits .quo .f64 x y with
  | none =>
    have := nan_run .quo x y (by simp) h 51 w
    simpa using this
  | some z =>
    simp only [Option.getD_some, Option.isSome_some, if_true]
    exact run_float_arith w _ _ .f64 x y z h
theorem bl_qu {B : Nat} {w W : World} (h : Below B w W) (x y : Nat) : Below B w (quG x y W) := by
  unfold quG
  split
  · exact h
  · exact h.drew
theorem quF_lt (x y : Nat) (w : World) : quF x y w < 18446744073709551616 := by
  unfold quF
  cases h : floatBits .quo .f64 x y with
  | none => exact (nanF_nan x y w).1
  | some z =>
    have h1 : z < 2 ^ FloatKind.f64.format.width := Ieee.Format.div_lt _ h
    have h2 : (2 : Nat) ^ FloatKind.f64.format.width = 18446744073709551616 := by decide
    rw [h2] at h1
    exact h1
set_option maxRecDepth 4000 in
set_option maxHeartbeats 1000000 in
theorem square_good (r c n : Nat) (sa : Option Addr) (ka : Nat) (f : Nat → Nat) (w : World) (ha : Gd w r c sa n ka f) :
    Calls Try.prog 100 #[MV r c sa n ka] w fun e w' => e = .returned (.int .i64 (if r = c then 0 else 3)) ∧ Below w.heap.size w w' := by
  have HA0 : Hid ((w.alloc (MBox r c sa n ka)).heap[w.heap.size]? = some (MBox r c sa n ka)) := nblkM _ _
  have HB : Hid (Below w.heap.size w (w.alloc (MBox r c sa n ka))) := (Below.refl _ _).alloc (Nat.le_refl _) _
  have HCB := hid (fun W (hW : Below w.heap.size w W) => Check_any r c sa n ka _ W ((ha.below hW).2.2.2.1.fl) (by have := ha.le; omega))
  rw [ha.chk] at HCB
  obtain ⟨V, hV⟩ : ∃ V, Hid (w.alloc (MBox r c sa n ka) = V) := ⟨_, rfl⟩
  rw [hV.out] at HA0 HB
  have hV' := hV.out
  obtain ⟨x0, x1, x2⟩ := mcells_of HA0.out
  unfold MBox at hV'
  unfold MV at HCB ⊢
  clear ha
  by_cases h1 : r = c
  · have d1 : ((r : Int) != (c : Int)) = false := by rw [h1]; simp
    rw [if_pos h1]
    clear h1
    go_enter Try.func100, Try.ntmps100
    go_wp2_with fail
    refine (HCB.out _ HB.out).mono ?_
    rintro e w1 ⟨rfl, hb1⟩
    have HB1 := hid (HB.out.trans (hb1.mono HB.out.size))
    obtain ⟨x0, x1, x2⟩ := mcells_of (blkM HA0.out hb1)
    clear hb1
    go_wp2_with fail
    go_ret
    exact ⟨rfl, HB1.out⟩
  · have d1 : ((r : Int) != (c : Int)) = true := by simp; omega
    rw [if_neg h1]
    clear h1
    go_enter Try.func100, Try.ntmps100
    go_wp2_with fail
    refine (HCB.out _ HB.out).mono ?_
    rintro e w1 ⟨rfl, hb1⟩
    have HB1 := hid (HB.out.trans (hb1.mono HB.out.size))
    obtain ⟨x0, x1, x2⟩ := mcells_of (blkM HA0.out hb1)
    clear hb1
    go_wp2_with fail
    go_ret
    exact ⟨rfl, HB1.out⟩
/-- What Mean's closure answers. -/
def MeanP (f : Nat → Nat) (c i j x : Nat) : Prop := (i = j ∧ x = f (i * c + i)) ∨ (i ≠ j ∧ ∃ W W', x = quF (arF .add (f (i * c + j)) (f (j * c + i)) W) 4611686018427387904 W')
set_option maxRecDepth 4000 in
set_option maxHeartbeats 2000000 in
theorem clo_Mean (i j : Nat) (p0 : Nat) (ra ca : Nat) (sa : Option Addr) (na ka : Nat) (f : Nat → Nat) (w : World) (h0 : w.heap[p0]? = some (MBox ra ca sa na ka)) (ha : FnM w sa na ka f) (hc : ca ≤ 100) (hi : i ≤ 100) (hj : j ≤ 100) (hk : i * ca + j < na) (hk2 : j * ca + i < na) :
    Calls Try.prog 124 #[.int .i64 i, .int .i64 j, .pointer (some ⟨p0, 0, none⟩)] w fun e w' => ∃ x : Nat, e = .returned (.float .f64 x) ∧ (MeanP f ca i j x ∧ x < 18446744073709551616) ∧ Below w.heap.size w w' := by
  have r1 := ar_run .add ok_a
  have r2 := qu_run
  by_cases hij : i = j
  · subst hij
    obtain ⟨a0, a1, a2⟩ := mcells_of h0
    have HAT := hid (at_fn ra sa ca na ka i i f w ha hi hc hi hk)
    have HLT := hid (fn_lt ha _ hk)
    have heq : ((i : Int) == (i : Int)) = true := by simp
    unfold MV at HAT
    clear h0 ha hc hi hj hk hk2
    go_enter Try.func124, Try.ntmps124
    go_wp2_with fail
    refine HAT.out.mono ?_
    rintro e w1 ⟨rfl, hb1⟩
    go_wp2_with fail
    go_ret
    exact ⟨_, rfl, ⟨Or.inl ⟨rfl, rfl⟩, HLT.out⟩, hb1⟩
  · have HIJ := hid hij
    have heq : ((i : Int) == (j : Int)) = false := by simp; omega
    have HKS : Hid (∀ W, Hid (Below w.heap.size w W) → (W.cell? ⟨p0, 0, none⟩ = some (.int .i64 ra) ∧ W.cell? ⟨p0, 1, none⟩ = some (.int .i64 ca) ∧ W.cell? ⟨p0, 2, none⟩ = some (.slice sa na ka)) ∧ Hid (Below w.heap.size w W)) := fun W hW => by
      obtain ⟨a0, a1, a2⟩ := mcells_of (w := W) ((hW.out.block _ (Array.getElem?_eq_some_iff.1 h0).1).trans h0)
      exact ⟨⟨a0, a1, a2⟩, hW⟩
    have HRA : Hid (∀ W, Hid (Below w.heap.size w W) → Calls Try.prog 91 #[.agg #[.int .i64 ra, .int .i64 ca, .slice sa na ka], .int .i64 i, .int .i64 j] W fun e w' => e = .returned (.float .f64 (f (i * ca + j))) ∧ Below W.heap.size W w') := fun W hW => at_fn ra sa ca na ka i j f W (ha.below hW.out) hi hc hj hk
    have HRB : Hid (∀ W, Hid (Below w.heap.size w W) → Calls Try.prog 91 #[.agg #[.int .i64 ra, .int .i64 ca, .slice sa na ka], .int .i64 j, .int .i64 i] W fun e w' => e = .returned (.float .f64 (f (j * ca + i))) ∧ Below W.heap.size W w') := fun W hW => at_fn ra sa ca na ka j i f W (ha.below hW.out) hj hc hi hk2
    unfold MeanP
    obtain ⟨X, hX⟩ : ∃ t, Hid (f (i * ca + j) = t) := ⟨_, rfl⟩
    obtain ⟨Y, hY⟩ : ∃ t, Hid (f (j * ca + i) = t) := ⟨_, rfl⟩
    rw [hX.out] at HRA
    rw [hY.out] at HRB
    rw [hX.out, hY.out]
    have HQ0 : Hid (Below w.heap.size w w.drew) := (Below.refl _ _).drew
    clear h0 ha hc hi hj hk hk2 hij
    go_enter Try.func124, Try.ntmps124
    go_wp2_with fail
    refine wp_region_held_drew (S := fun W => (W.cell? ⟨p0, 0, none⟩ = some (.int .i64 ra) ∧ W.cell? ⟨p0, 1, none⟩ = some (.int .i64 ca) ∧ W.cell? ⟨p0, 2, none⟩ = some (.slice sa na ka)) ∧ Hid (Below w.heap.size w W)) (by kernel_rfl) (HKS.out _ HQ0) (fun hHeld => ?_)
    refine take_at 0 13 (.agg #[.int .i64 ra, .int .i64 ca, .slice sa na ka]) rfl rfl (by kernel_rfl) (by kernel_rfl) (by kernel_rfl) (fun _ _ _ h => h) (Or.inl ⟨by rfl, fun w hSw => by (try dsimp only at hSw); go_simp⟩) (by assumption) ?_
    simp only [Act.put, List.setIfInBounds_toArray, List.set_cons_zero, List.set_cons_succ]
    refine take_at 1 14 (.int .i64 i) rfl rfl (by kernel_rfl) (by kernel_rfl) (by kernel_rfl) (fun _ _ _ h => h) (Or.inl ⟨by rfl, fun w hSw => by (try dsimp only at hSw); go_simp⟩) (by assumption) ?_
    simp only [Act.put, List.setIfInBounds_toArray, List.set_cons_zero, List.set_cons_succ]
    refine take_at 2 15 (.int .i64 j) rfl rfl (by kernel_rfl) (by kernel_rfl) (by kernel_rfl) (fun _ _ _ h => h) (Or.inl ⟨by rfl, fun w hSw => by (try dsimp only at hSw); go_simp⟩) (by assumption) ?_
    simp only [Act.put, List.setIfInBounds_toArray, List.set_cons_zero, List.set_cons_succ]
    refine take_at 4 17 (.agg #[.int .i64 ra, .int .i64 ca, .slice sa na ka]) rfl rfl (by kernel_rfl) (by kernel_rfl) (by kernel_rfl) (fun _ _ _ h => h) (Or.inl ⟨by rfl, fun w hSw => by (try dsimp only at hSw); go_simp⟩) (by assumption) ?_
    simp only [Act.put, List.setIfInBounds_toArray, List.set_cons_zero, List.set_cons_succ]
    refine take_at 5 18 (.int .i64 j) rfl rfl (by kernel_rfl) (by kernel_rfl) (by kernel_rfl) (fun _ _ _ h => h) (Or.inl ⟨by rfl, fun w hSw => by (try dsimp only at hSw); go_simp⟩) (by assumption) ?_
    simp only [Act.put, List.setIfInBounds_toArray, List.set_cons_zero, List.set_cons_succ]
    refine take_at 6 19 (.int .i64 i) rfl rfl (by kernel_rfl) (by kernel_rfl) (by kernel_rfl) (fun _ _ _ h => h) (Or.inl ⟨by rfl, fun w hSw => by (try dsimp only at hSw); go_simp⟩) (by assumption) ?_
    simp only [Act.put, List.setIfInBounds_toArray, List.set_cons_zero, List.set_cons_succ]
    refine wpAnyH_ready (rs := [3]) (by kernel_rfl) (by simp) ?_
    refine AllReadyH.cons (o := _) rfl (fun K hK => ?_) AllReadyH.nil
    go_simp
    refine (HRA.out _ HQ0).mono ?_
    rintro e u1 ⟨rfl, hb1⟩
    have HG1 : Hid (Below w.heap.size w u1) := HQ0.out.trans (hb1.mono HQ0.out.size)
    clear hb1
    go_wp2_with fail
    refine hK.out _ _ (HKS.out _ HG1) (fun hHeld1 => ?_)
    clear hK K
    try simp only [Act.put, List.setIfInBounds_toArray, List.set_cons_zero, List.set_cons_succ]
    refine wpAnyH_ready (rs := [7]) (by kernel_rfl) (by simp) ?_
    refine AllReadyH.cons (o := _) rfl (fun K hK => ?_) AllReadyH.nil
    go_simp
    refine (HRB.out _ HG1).mono ?_
    rintro e u2 ⟨rfl, hb2⟩
    have HG2 : Hid (Below w.heap.size w u2) := HG1.out.trans (hb2.mono HG1.out.size)
    have HG3 : Hid (Below w.heap.size w (arG .add X Y u2)) := bl_ar HG2.out _ _ _
    have HG4 : Hid (Below w.heap.size w (quG (arF .add X Y u2) 4611686018427387904 (arG .add X Y u2))) := bl_qu HG3.out _ _
    clear hb2
    go_wp2_with fail
    refine hK.out _ _ (HKS.out _ HG2) (fun hHeld2 => ?_)
    clear hK K
    try simp only [Act.put, List.setIfInBounds_toArray, List.set_cons_zero, List.set_cons_succ]
    refine wpAnyH_ready (rs := [8]) (by kernel_rfl) (by simp) ?_
    refine AllReadyH.cons (o := _) rfl (fun K hK => ?_) AllReadyH.nil
    go_simp
    go_wp2_with fail
    refine hK.out _ _ (HKS.out _ HG3) (fun hHeld3 => ?_)
    clear hK K
    try simp only [Act.put, List.setIfInBounds_toArray, List.set_cons_zero, List.set_cons_succ]
    refine wpAnyH_ready (rs := [9]) (by kernel_rfl) (by simp) ?_
    refine AllReadyH.cons (o := _) rfl (fun K hK => ?_) AllReadyH.nil
    go_simp
    go_wp2_with fail
    refine hK.out _ _ (HKS.out _ HG4) (fun hHeld4 => ?_)
    clear hK K
    try simp only [Act.put, List.setIfInBounds_toArray, List.set_cons_zero, List.set_cons_succ]
    refine take_at 10 5 (.float .f64 (quF (arF .add X Y u2) 4611686018427387904 (arG .add X Y u2))) rfl rfl (by kernel_rfl) (by kernel_rfl) (by kernel_rfl) (fun _ _ _ h => h) (Or.inl ⟨by rfl, fun w hSw => by (try dsimp only at hSw); go_simp⟩) (by assumption) ?_
    simp only [Act.put, List.setIfInBounds_toArray, List.set_cons_zero, List.set_cons_succ]
    refine wpAnyH_done (by kernel_rfl) ?_ _
    go_wp2_with fail
    go_ret
    exact ⟨_, rfl, ⟨Or.inr ⟨HIJ.out, _, _, rfl⟩, quF_lt _ _ _⟩, HG4.out⟩
set_option maxRecDepth 4000 in
set_option maxHeartbeats 1000000 in
theorem Mean_ok (c n : Nat) (sa : Option Addr) (ka : Nat) (f : Nat → Nat) (w : World) (ha : Gd w c c sa n ka f) :
    Calls Try.prog 74 #[MV c c sa n ka] w fun e w' => (∃ (g : Nat) (o : Nat → Nat), e = .returned (AnsM c c (c * c) g o) ∧ FnM w' (some ⟨g, 0, none⟩) (c * c) (c * c) o ∧ (∀ i j, i < c → j < c → o (i * c + j) = o (j * c + i)) ∧ ∀ i j, i < c → j ≤ i → MeanP f c i j (o (i * c + j))) ∧ Below w.heap.size w w' := by
  obtain ⟨t1, t2, t3, t4⟩ := two_b w (MBox c c sa n ka) (MBox 0 0 none 0 0)
  have HCB := hid (fun W (hW : Below w.heap.size w W) => square_good c c n sa ka f W (ha.below hW))
  rw [if_pos rfl] at HCB
  have l1 := ha.1
  have hm1 : c * c ≤ 144 := Nat.mul_le_mul l1 l1
  have HM1 : Hid (c * c ≤ 144) := hm1
  have HFI := hid (fun W (hW : Below ((w.alloc (MBox c c sa n ka)).alloc (MBox 0 0 none 0 0)).heap.size ((w.alloc (MBox c c sa n ka)).alloc (MBox 0 0 none 0 0)) W) => mir_Mean c (by omega) ⟨w.heap.size, 0, none⟩ (fun i j x => MeanP f c i j x) W (fun W2 i j hW2 hi hj => clo_Mean i j w.heap.size c c sa n ka f W2 (blkM (blkM t1 hW) hW2) (((ha.2.2.2.1.below t3).below hW).below hW2) (by omega) (by omega) (by omega) (by rw [ha.2.2.1]; exact place_lt hi (by omega)) (by rw [ha.2.2.1]; exact place_lt (by omega) hi)))
  obtain ⟨V, hV⟩ : ∃ V, Hid ((w.alloc (MBox c c sa n ka)).alloc (MBox 0 0 none 0 0) = V) := ⟨_, rfl⟩
  rw [hV.out] at HFI t1 t2 t3 t4
  have hV' := hV.out
  have HB := hid t3
  have HR := hid t2
  have HA0 := hid t1
  obtain ⟨x0, x1, x2⟩ := mcells_of t1
  unfold MBox at hV'
  unfold MV at HCB ⊢
  clear t1 t2 t3 t4 ha l1 hm1
  go_enter Try.func74, Try.ntmps74
  go_wp2_with fail
  refine (HCB.out _ HB.out).mono ?_
  rintro e w1 ⟨rfl, hb1⟩
  have HB1 := hid (HB.out.trans (hb1.mono HB.out.size))
  have HR1 := hid (blkM HR.out hb1)
  have HFF := hid (HFI.out _ hb1)
  obtain ⟨x0, x1, x2⟩ := mcells_of (blkM HA0.out hb1)
  clear hb1
  go_wp2_with fail
  refine HFF.out.mono ?_
  rintro e w2 ⟨hfi, hb2⟩
  obtain ⟨g1, o1, rfl, hg1, hf1, hs1, hp1⟩ := hfi.fn (by have := HM1.out; omega)
  have HB2 := hid (HB1.out.trans (hb2.mono HB1.out.size))
  have HR2 := hid (blkM HR1.out hb2)
  have HF1 := hid hf1
  have HP1 := hid hp1
  have HS1 := hid hs1
  clear hb2 hfi hg1 hf1 hp1 hs1
  have HAN := hid (answered_any c c (c * c) _ (c * c) o1 w2 HF1.out (by have := HM1.out; omega))
  obtain ⟨X0, X1, X2, X3, X4, hXX⟩ : ∃ a b s m k, Hid ((if finF (c * c) o1 = true then MV c c (some ⟨g1, 0, none⟩) (c * c) (c * c) else MV 0 0 none 0 0) = MV a b s m k) := by
    by_cases q : finF (c * c) o1 = true
    · exact ⟨c, c, _, _, _, by show _ = _; rw [if_pos q]⟩
    · exact ⟨0, 0, _, _, _, by show _ = _; rw [if_neg q]⟩
  obtain ⟨E, hE⟩ : ∃ E, Hid ((if finF (c * c) o1 = true then 0 else 5 : Int) = E) := ⟨_, rfl⟩
  rw [hXX.out, hE.out] at HAN
  unfold MV at HAN ⊢
  go_wp2_with fail
  refine HAN.out.mono ?_
  rintro e w3 ⟨rfl, hk3, hb3⟩
  have HB3 := hid (HB2.out.trans (hb3.mono HB2.out.size))
  have HR3 := hid (blkM HR2.out hb3)
  have HF3 := hid (hk3 _ _ _ _ HF1.out)
  obtain ⟨y0, y1, y2⟩ := mcells_of HR3.out
  have fz := frzM HR3.out
  clear hk3 hb3
  go_wp2_with fail
  exact bodyPost_ret (v := AnsM c c (c * c) g1 o1) (by unfold AnsM; rw [hXX.out, hE.out]; simp [results, Try.results74, go_sem, y0, y1, y2, MV]) rfl ⟨⟨g1, o1, rfl, StoM.fn HF3.out HR3.out, HS1.out, HP1.out⟩, StoM.below HB3.out (by omega)⟩
end Go.Proofs.Ythnblidkbcficaa

namespace Go.Proofs.Ythnblidkbcficaa
open Go.RowKit Go.IntWalk

set_option maxHeartbeats 400000 in
theorem bitsM_any (x : Nat) (w : World) (hx : x < 18446744073709551616) :
    Calls Try.prog 93 #[.float .f64 x] w fun e w' => e = .returned (.int .u64 (canonOf x)) ∧ w' = w := by
  have h1 := f64bits
  have ho := order_self x hx
  by_cases h : 9218868437227405312 < x % 9223372036854775808
  · rw [decide_eq_true h] at ho
    have H : Hid (9218868437227405312 < x % 9223372036854775808) := h
    clear h
    go_enter Try.func93, Try.ntmps93
    go_wp2
    go_ret
    exact ⟨ret_int (by unfold canonOf; rw [if_pos H.out]; rfl), rfl⟩
  · rw [decide_eq_false h] at ho
    have H : Hid (¬ 9218868437227405312 < x % 9223372036854775808) := h
    clear h
    go_enter Try.func93, Try.ntmps93
    go_wp2
    go_ret
    exact ⟨ret_int (by unfold canonOf; rw [if_neg H.out]), rfl⟩
set_option maxHeartbeats 400000 in
theorem rsameM_any (x y : Nat) (w : World) (hx : x < 18446744073709551616) (hy : y < 18446744073709551616) :
    Calls Try.prog 121 #[.float .f64 x, .float .f64 y] w fun e w' => e = .returned (.bool (canonOf x == canonOf y)) ∧ w' = w := by
  go_enter Try.func121, Try.ntmps121
  go_wp2_with fail
  refine (bitsM_any x _ hx).mono ?_
  rintro e w' ⟨rfl, rfl⟩
  go_wp2_with fail
  refine (bitsM_any y _ hy).mono ?_
  rintro e w' ⟨rfl, rfl⟩
  go_wp2_with fail
  go_ret
  exact ⟨ret_bool (nat_beq _ _), rfl⟩
set_option maxHeartbeats 1000000 in
theorem SameL_yes (sa sb : Option Addr) (n ca cb : Nat) (f g : Nat → Nat) (w : World) (ha : FnM w sa n ca f) (hb : FnM w sb n cb g) (he : ∀ k, k < n → canonOf (f k) = canonOf (g k)) :
    Calls Try.prog 85 #[.slice sa n ca, .slice sb n cb] w fun e w' => e = .returned (.bool true) ∧ Below w.heap.size w w' := by
  have hne : ((n : Int) != (n : Int)) = false := by simp
  have HA := hid ha
  have HB := hid hb
  have HE := hid he
  clear ha hb he
  go_enter Try.func85, Try.ntmps85
  go_wp2_with fail
  go_loopw [13] (fun iv wr => ∃ k : Nat, k ≤ n ∧ iv = .int .i64 k ∧ Hid (Below w.heap.size w wr)) (fun iv _ => n - (intOf iv).toNat)
  case atStart => exact ⟨0, Nat.zero_le _, rfl, Below.refl _ _⟩
  case round =>
    obtain ⟨k, hk, rfl, HBW⟩ := hrel
    by_cases hlt : k < n
    · rcases HA.out with ⟨_, h2, _⟩ | ⟨b, off, rfl, q1, _, _, q4⟩
      · omega
      rcases HB.out with ⟨_, h2, _⟩ | ⟨b2, off2, rfl, q5, _, _, q8⟩
      · omega
      have HKS : Hid (∀ W, Hid (Below w.heap.size w W) → (W.cell? ⟨b, off + k, none⟩ = some (.float .f64 (f k)) ∧ W.cell? ⟨b2, off2 + k, none⟩ = some (.float .f64 (g k))) ∧ Hid (Below w.heap.size w W)) := fun W hW => ⟨⟨(hW.out.cell (p := ⟨b, off + k, none⟩) q1).trans (q4 k hlt).1, (hW.out.cell (p := ⟨b2, off2 + k, none⟩) q5).trans (q8 k hlt).1⟩, hW⟩
      have HSM : Hid (∀ W, Calls Try.prog 121 #[.float .f64 (f k), .float .f64 (g k)] W fun e w' => e = .returned (.bool true) ∧ w' = W) := fun W => by
        have := rsameM_any (f k) (g k) W (q4 k hlt).2 (q8 k hlt).2
        rw [HE.out k hlt] at this
        simpa using this
      obtain ⟨x, hxx⟩ : ∃ x, Hid (f k = x) := ⟨_, rfl⟩
      obtain ⟨y, hyy⟩ : ∃ y, Hid (g k = y) := ⟨_, rfl⟩
      rw [hxx.out, hyy.out] at HKS HSM
      have hkI : (k : Int) < (n : Int) := by omega
      have hk0 : (0 : Int) ≤ (k : Int) := by omega
      have HQ0 : Hid (Below w.heap.size w wr.drew) := HBW.out.drew
      have HK := hid hlt
      clear q1 q4 q5 q8 hlt
      go_wp2_with fail
      refine wp_region_held_drew (S := fun W => (W.cell? ⟨b, off + k, none⟩ = some (.float .f64 x) ∧ W.cell? ⟨b2, off2 + k, none⟩ = some (.float .f64 y)) ∧ Hid (Below w.heap.size w W)) (by kernel_rfl) (HKS.out _ HQ0) (fun hHeld => ?_)
      refine take_at 0 16 (.slice (some ⟨b, off, none⟩) n ca) rfl rfl (by kernel_rfl) (by kernel_rfl) (by kernel_rfl) (fun _ _ _ h => h) (Or.inl ⟨by rfl, fun w hSw => by (try dsimp only at hSw); go_simp⟩) (by assumption) ?_
      simp only [Act.put, List.setIfInBounds_toArray, List.set_cons_zero, List.set_cons_succ]
      refine take_at 1 17 (.int .i64 k) rfl rfl (by kernel_rfl) (by kernel_rfl) (by kernel_rfl) (fun _ _ _ h => h) (Or.inl ⟨by rfl, fun w hSw => by (try dsimp only at hSw); go_simp⟩) (by assumption) ?_
      simp only [Act.put, List.setIfInBounds_toArray, List.set_cons_zero, List.set_cons_succ]
      refine take_at 2 18 (.pointer (some ⟨b, off + k, none⟩)) rfl rfl (by kernel_rfl) (by kernel_rfl) (by kernel_rfl) (fun _ _ _ h => h) (Or.inl ⟨by rfl, fun w hSw => by (try dsimp only at hSw); go_simp⟩) (by assumption) ?_
      simp only [Act.put, List.setIfInBounds_toArray, List.set_cons_zero, List.set_cons_succ]
      refine take_at 3 19 (.float .f64 x) rfl rfl (by kernel_rfl) (by kernel_rfl) (by kernel_rfl) (fun _ _ _ h => h) (Or.inl ⟨by rfl, fun w hSw => by (try dsimp only at hSw); go_simp⟩) (by assumption) ?_
      simp only [Act.put, List.setIfInBounds_toArray, List.set_cons_zero, List.set_cons_succ]
      refine take_at 4 20 (.slice (some ⟨b2, off2, none⟩) n cb) rfl rfl (by kernel_rfl) (by kernel_rfl) (by kernel_rfl) (fun _ _ _ h => h) (Or.inl ⟨by rfl, fun w hSw => by (try dsimp only at hSw); go_simp⟩) (by assumption) ?_
      simp only [Act.put, List.setIfInBounds_toArray, List.set_cons_zero, List.set_cons_succ]
      refine take_at 5 21 (.int .i64 k) rfl rfl (by kernel_rfl) (by kernel_rfl) (by kernel_rfl) (fun _ _ _ h => h) (Or.inl ⟨by rfl, fun w hSw => by (try dsimp only at hSw); go_simp⟩) (by assumption) ?_
      simp only [Act.put, List.setIfInBounds_toArray, List.set_cons_zero, List.set_cons_succ]
      refine take_at 6 22 (.pointer (some ⟨b2, off2 + k, none⟩)) rfl rfl (by kernel_rfl) (by kernel_rfl) (by kernel_rfl) (fun _ _ _ h => h) (Or.inl ⟨by rfl, fun w hSw => by (try dsimp only at hSw); go_simp⟩) (by assumption) ?_
      simp only [Act.put, List.setIfInBounds_toArray, List.set_cons_zero, List.set_cons_succ]
      refine take_at 7 23 (.float .f64 y) rfl rfl (by kernel_rfl) (by kernel_rfl) (by kernel_rfl) (fun _ _ _ h => h) (Or.inl ⟨by rfl, fun w hSw => by (try dsimp only at hSw); go_simp⟩) (by assumption) ?_
      simp only [Act.put, List.setIfInBounds_toArray, List.set_cons_zero, List.set_cons_succ]
      refine wpAnyH_ready (rs := [8]) (by kernel_rfl) (by simp) ?_
      refine AllReadyH.cons (o := _) rfl (fun K hK => ?_) AllReadyH.nil
      go_simp
      refine (HSM.out _).mono ?_
      rintro e u1 ⟨rfl, rfl⟩
      go_wp2_with fail
      refine hK.out _ _ (HKS.out _ HQ0) (fun hHeld1 => ?_)
      clear hK K
      try simp only [Act.put, List.setIfInBounds_toArray, List.set_cons_zero, List.set_cons_succ]
      refine take_at 9 25 (.bool false) rfl rfl (by kernel_rfl) (by kernel_rfl) (by kernel_rfl) (fun _ _ _ h => h) (Or.inl ⟨by rfl, fun w hSw => by (try dsimp only at hSw); go_simp⟩) (by assumption) ?_
      simp only [Act.put, List.setIfInBounds_toArray, List.set_cons_zero, List.set_cons_succ]
      refine wpAnyH_done (by kernel_rfl) ?_ _
      go_wp2_with fail
      have hk1 := HK.out
      refine ⟨⟨k + 1, by omega, by go_num, HQ0⟩, ?_⟩
      simp [intOf]; omega
    · go_wp2_with fail
      go_ret
      exact ⟨rfl, HBW.out⟩
set_option maxHeartbeats 1000000 in
theorem Equal_yes (r c : Int) (sa sb : Option Addr) (n ca cb : Nat) (f g : Nat → Nat) (w : World) (ha : FnM w sa n ca f) (hb : FnM w sb n cb g) (he : ∀ k, k < n → canonOf (f k) = canonOf (g k)) :
    Calls Try.prog 69 #[MV r c sa n ca, MV r c sb n cb] w fun e w' => e = .returned (.bool true) ∧ Below w.heap.size w w' := by
  obtain ⟨t1, t2, t3, t4⟩ := two_b w (MBox r c sa n ca) (MBox r c sb n cb)
  have hne : ((n : Int) != (n : Int)) = false := by simp
  have hnr : ((r : Int) != (r : Int)) = false := by simp
  have hnc : ((c : Int) != (c : Int)) = false := by simp
  have HA := hid (ha.below t3)
  have HB := hid (hb.below t3)
  have HE := hid he
  obtain ⟨V, hV⟩ : ∃ V, Hid ((w.alloc (MBox r c sa n ca)).alloc (MBox r c sb n cb) = V) := ⟨_, rfl⟩
  rw [hV.out] at HA HB t1 t2 t3 t4
  have hV' := hV.out
  have HBV := hid t3
  have HA0 := hid t1
  have HA1 := hid t2
  obtain ⟨x0, x1, x2⟩ := mcells_of t1
  obtain ⟨v0, v1, v2⟩ := mcells_of t2
  unfold MBox at hV'
  unfold MV
  clear t1 t2 t3 t4 ha hb he
  go_enter Try.func69, Try.ntmps69
  go_wp2_with fail
  have HF0 : Hid (Fr3 V V w.heap.size (w.heap.size + 1) (MBox r c sa n ca) (MBox r c sb n cb)) := ⟨Below.refl _ _, HA0.out, HA1.out⟩
  go_loopw [30] (fun iv wr => ∃ k : Nat, k ≤ n ∧ iv = .int .i64 k ∧ Hid (Fr3 V wr w.heap.size (w.heap.size + 1) (MBox r c sa n ca) (MBox r c sb n cb))) (fun iv _ => n - (intOf iv).toNat)
  case atStart => exact ⟨0, Nat.zero_le _, rfl, HF0⟩
  case round =>
    obtain ⟨k, hk, rfl, HFW⟩ := hrel
    by_cases hlt : k < n
    · rcases HA.out with ⟨_, h2, _⟩ | ⟨b, off, rfl, q1, _, _, q4⟩
      · omega
      rcases HB.out with ⟨_, h2, _⟩ | ⟨b2, off2, rfl, q5, _, _, q8⟩
      · omega
      have HKS : Hid (∀ W, Hid (Fr3 V W w.heap.size (w.heap.size + 1) (MBox r c (some ⟨b, off, none⟩) n ca) (MBox r c (some ⟨b2, off2, none⟩) n cb)) → (W.cell? ⟨b, off + k, none⟩ = some (.float .f64 (f k)) ∧ W.cell? ⟨b2, off2 + k, none⟩ = some (.float .f64 (g k)) ∧ W.cell? ⟨w.heap.size, 2, none⟩ = some (.slice (some ⟨b, off, none⟩) n ca) ∧ W.cell? ⟨w.heap.size + 1, 2, none⟩ = some (.slice (some ⟨b2, off2, none⟩) n cb)) ∧ Hid (Fr3 V W w.heap.size (w.heap.size + 1) (MBox r c (some ⟨b, off, none⟩) n ca) (MBox r c (some ⟨b2, off2, none⟩) n cb))) := fun W hW => ⟨⟨(hW.out.1.cell (p := ⟨b, off + k, none⟩) q1).trans (q4 k hlt).1, (hW.out.1.cell (p := ⟨b2, off2 + k, none⟩) q5).trans (q8 k hlt).1, (mcells_of hW.out.2.1).2.2, (mcells_of hW.out.2.2).2.2⟩, hW⟩
      have HSM : Hid (∀ W, Calls Try.prog 122 #[.float .f64 (f k), .float .f64 (g k)] W fun e w' => e = .returned (.bool true) ∧ Below W.heap.size W w') := fun W => by
        have := Same_any (f k) (g k) W (q4 k hlt).2 (q8 k hlt).2
        rw [HE.out k hlt] at this
        simpa using this
      obtain ⟨x, hxx⟩ : ∃ x, Hid (f k = x) := ⟨_, rfl⟩
      obtain ⟨y, hyy⟩ : ∃ y, Hid (g k = y) := ⟨_, rfl⟩
      rw [hxx.out, hyy.out] at HKS
      rw [hxx.out, hyy.out] at HSM
      have hkI : (k : Int) < (n : Int) := by omega
      have hk0 : (0 : Int) ≤ (k : Int) := by omega
      have HQ0 : Hid (Fr3 V wr.drew w.heap.size (w.heap.size + 1) (MBox r c (some ⟨b, off, none⟩) n ca) (MBox r c (some ⟨b2, off2, none⟩) n cb)) := HFW.out.drew
      have HK := hid hlt
      clear q1 q4 q5 q8 hlt
      go_wp2_with fail
      refine wp_region_held_drew (S := fun W => (W.cell? ⟨b, off + k, none⟩ = some (.float .f64 x) ∧ W.cell? ⟨b2, off2 + k, none⟩ = some (.float .f64 y) ∧ W.cell? ⟨w.heap.size, 2, none⟩ = some (.slice (some ⟨b, off, none⟩) n ca) ∧ W.cell? ⟨w.heap.size + 1, 2, none⟩ = some (.slice (some ⟨b2, off2, none⟩) n cb)) ∧ Hid (Fr3 V W w.heap.size (w.heap.size + 1) (MBox r c (some ⟨b, off, none⟩) n ca) (MBox r c (some ⟨b2, off2, none⟩) n cb))) (by kernel_rfl) (HKS.out _ HQ0) (fun hHeld => ?_)
      refine take_at 0 33 (.pointer (some ⟨w.heap.size, 2, none⟩)) rfl rfl (by kernel_rfl) (by kernel_rfl) (by kernel_rfl) (fun _ _ _ h => h) (Or.inl ⟨by rfl, fun w hSw => by (try dsimp only at hSw); go_simp⟩) (by assumption) ?_
      simp only [Act.put, List.setIfInBounds_toArray, List.set_cons_zero, List.set_cons_succ]
      refine take_at 1 34 (.slice (some ⟨b, off, none⟩) n ca) rfl rfl (by kernel_rfl) (by kernel_rfl) (by kernel_rfl) (fun _ _ _ h => h) (Or.inl ⟨by rfl, fun w hSw => by (try dsimp only at hSw); go_simp⟩) (by assumption) ?_
      simp only [Act.put, List.setIfInBounds_toArray, List.set_cons_zero, List.set_cons_succ]
      refine take_at 2 35 (.int .i64 k) rfl rfl (by kernel_rfl) (by kernel_rfl) (by kernel_rfl) (fun _ _ _ h => h) (Or.inl ⟨by rfl, fun w hSw => by (try dsimp only at hSw); go_simp⟩) (by assumption) ?_
      simp only [Act.put, List.setIfInBounds_toArray, List.set_cons_zero, List.set_cons_succ]
      refine take_at 3 36 (.pointer (some ⟨b, off + k, none⟩)) rfl rfl (by kernel_rfl) (by kernel_rfl) (by kernel_rfl) (fun _ _ _ h => h) (Or.inl ⟨by rfl, fun w hSw => by (try dsimp only at hSw); go_simp⟩) (by assumption) ?_
      simp only [Act.put, List.setIfInBounds_toArray, List.set_cons_zero, List.set_cons_succ]
      refine take_at 4 37 (.float .f64 x) rfl rfl (by kernel_rfl) (by kernel_rfl) (by kernel_rfl) (fun _ _ _ h => h) (Or.inl ⟨by rfl, fun w hSw => by (try dsimp only at hSw); go_simp⟩) (by assumption) ?_
      simp only [Act.put, List.setIfInBounds_toArray, List.set_cons_zero, List.set_cons_succ]
      refine take_at 5 38 (.pointer (some ⟨w.heap.size + 1, 2, none⟩)) rfl rfl (by kernel_rfl) (by kernel_rfl) (by kernel_rfl) (fun _ _ _ h => h) (Or.inl ⟨by rfl, fun w hSw => by (try dsimp only at hSw); go_simp⟩) (by assumption) ?_
      simp only [Act.put, List.setIfInBounds_toArray, List.set_cons_zero, List.set_cons_succ]
      refine take_at 6 39 (.slice (some ⟨b2, off2, none⟩) n cb) rfl rfl (by kernel_rfl) (by kernel_rfl) (by kernel_rfl) (fun _ _ _ h => h) (Or.inl ⟨by rfl, fun w hSw => by (try dsimp only at hSw); go_simp⟩) (by assumption) ?_
      simp only [Act.put, List.setIfInBounds_toArray, List.set_cons_zero, List.set_cons_succ]
      refine take_at 7 40 (.int .i64 k) rfl rfl (by kernel_rfl) (by kernel_rfl) (by kernel_rfl) (fun _ _ _ h => h) (Or.inl ⟨by rfl, fun w hSw => by (try dsimp only at hSw); go_simp⟩) (by assumption) ?_
      simp only [Act.put, List.setIfInBounds_toArray, List.set_cons_zero, List.set_cons_succ]
      refine take_at 8 41 (.pointer (some ⟨b2, off2 + k, none⟩)) rfl rfl (by kernel_rfl) (by kernel_rfl) (by kernel_rfl) (fun _ _ _ h => h) (Or.inl ⟨by rfl, fun w hSw => by (try dsimp only at hSw); go_simp⟩) (by assumption) ?_
      simp only [Act.put, List.setIfInBounds_toArray, List.set_cons_zero, List.set_cons_succ]
      refine take_at 9 42 (.float .f64 y) rfl rfl (by kernel_rfl) (by kernel_rfl) (by kernel_rfl) (fun _ _ _ h => h) (Or.inl ⟨by rfl, fun w hSw => by (try dsimp only at hSw); go_simp⟩) (by assumption) ?_
      simp only [Act.put, List.setIfInBounds_toArray, List.set_cons_zero, List.set_cons_succ]
      refine wpAnyH_ready (rs := [10]) (by kernel_rfl) (by simp) ?_
      refine AllReadyH.cons (o := _) rfl (fun K hK => ?_) AllReadyH.nil
      go_simp
      refine (HSM.out _).mono ?_
      rintro e u1 ⟨rfl, hb1⟩
      have HG1 := hid (HQ0.out.call hb1)
      clear hb1
      go_wp2_with fail
      refine hK.out _ _ (HKS.out _ HG1) (fun hHeld1 => ?_)
      clear hK K
      try simp only [Act.put, List.setIfInBounds_toArray, List.set_cons_zero, List.set_cons_succ]
      refine take_at 11 44 (.bool false) rfl rfl (by kernel_rfl) (by kernel_rfl) (by kernel_rfl) (fun _ _ _ h => h) (Or.inl ⟨by rfl, fun w hSw => by (try dsimp only at hSw); go_simp⟩) (by assumption) ?_
      simp only [Act.put, List.setIfInBounds_toArray, List.set_cons_zero, List.set_cons_succ]
      refine wpAnyH_done (by kernel_rfl) ?_ _
      go_wp2_with fail
      have hk1 := HK.out
      refine ⟨⟨k + 1, by omega, by go_num, HG1⟩, ?_⟩
      simp [intOf]; omega
    · go_wp2_with fail
      go_ret
      exact ⟨rfl, HBV.out.trans (HFW.out.1.mono HBV.out.size)⟩
theorem l_any (sa : Option Addr) (sn sc : Nat) (xs : List Nat) (w : World) (hu : U64At w sa sn xs) (hn : sn ≤ 17592186043904) :
    Calls Try.prog 79 #[.slice sa sn sc] w fun r w' => ∃ ta cap, r = .returned (.slice ta sn cap) ∧ FlM w' ta sn cap xs ∧ Below w.heap.size w w' := by
  refine (Of64_any sa sn sc xs w hu hn).mono ?_
  rintro r w' ⟨v, rfl, h1, h2, h3⟩
  by_cases c : xs = []
  · obtain rfl := h2 c
    subst c
    have h0 : sn = 0 := hu.1.symm
    subst h0
    exact ⟨none, 0, rfl, ⟨rfl, fun x hx => (by cases hx), Or.inl ⟨rfl, rfl, rfl⟩⟩, h3⟩
  · rcases h1.2 with ⟨_, e⟩ | ⟨g, cap, cur, rfl, k1, k2, k3, k4, k5, k6⟩
    · exact absurd (List.length_eq_zero_iff.1 e) c
    · rw [hu.1] at k3 ⊢
      refine ⟨_, cap, rfl, ⟨hu.1, hu.2.1, Or.inr ⟨g, 0, rfl, (Array.getElem?_eq_some_iff.1 k2).1, k3, k4, fun j hj => ?_⟩⟩, h3⟩
      have e1 : (cur.toList.take (xs.length * 1))[j]? = (xs.map (Value.float .f64))[j]? := by rw [k6]
      have hj2 : j < xs.length := by rw [hu.1]; exact hj
      rw [List.getElem?_take, if_pos (by omega), List.getElem?_map, List.getElem?_eq_getElem hj2] at e1
      have e2 : cur[j]? = some (.float .f64 (xs.getD j 0)) := by
        rw [← Array.getElem?_toList, e1, List.getD_eq_getElem?_getD, List.getElem?_eq_getElem hj2]
        rfl
      rw [Nat.zero_add]
      simp [World.cell?, k2, e2]
set_option maxHeartbeats 1000000 in
theorem ll_any (sa : Option Addr) (sn sc : Nat) (xs : List Nat) (w : World) (hu : U64At w sa sn xs) (hn : sn ≤ 17592186043904) :
    Calls Try.prog 9 #[.slice sa sn sc] w fun r w' => ∃ ta cap, r = .returned (.slice ta sn cap) ∧ FlM w' ta sn cap xs ∧ Below w.heap.size w w' := by
  have HL := hid (l_any sa sn sc xs w hu hn)
  clear hu hn
  go_enter Try.func9, Try.ntmps9
  go_wp2_with fail
  refine HL.out.mono ?_
  rintro e w1 ⟨ta, cap, rfl, h1, h2⟩
  have H := hid (And.intro h1 h2)
  clear h1 h2
  go_wp2_with fail
  go_ret
  exact ⟨_, _, rfl, H.out.1, H.out.2⟩
/-- A matrix of bits, as a variable. -/
def BBox (r c : Int) (sa : Option Addr) (n cap : Nat) : Obj := .cells #[.int .i64 r, .int .i64 c, .slice sa n cap] 24
theorem bcells_of {w : World} {b : Nat} {r c : Int} {sa : Option Addr} {n cap : Nat} (h : w.heap[b]? = some (BBox r c sa n cap)) : w.cell? ⟨b, 0, none⟩ = some (.int .i64 r) ∧ w.cell? ⟨b, 1, none⟩ = some (.int .i64 c) ∧ w.cell? ⟨b, 2, none⟩ = some (.slice sa n cap) := by
  unfold BBox at h
  refine ⟨?_, ?_, ?_⟩ <;> simp [World.cell?, h]
theorem getD_map (n : Nat) (f : Nat → Nat) (k : Nat) (hk : k < n) : ((List.range n).map f).getD k 0 = f k := by
  rw [List.getD_eq_getElem?_getD, List.getElem?_map, List.getElem?_range hk]
  rfl
theorem FnM.toFl {w : World} {sa : Option Addr} {n cap : Nat} {xs : List Nat} (hl : xs.length = n) (h : FnM w sa n cap (fun j => xs.getD j 0)) : FlM w sa n cap xs := by
  have h1 := h.fl
  have e : (List.range n).map (fun j => xs.getD j 0) = xs := by
    apply List.ext_getElem?
    intro i
    by_cases hi : i < n
    · rw [List.getElem?_map, List.getElem?_range hi, List.getElem?_eq_getElem (by omega)]
      simp [List.getD_eq_getElem?_getD, List.getElem?_eq_getElem (show i < xs.length by omega)]
    · rw [List.getElem?_eq_none (by simp; omega), List.getElem?_eq_none (by omega)]
  rw [e] at h1
  exact h1
theorem sto_fl {W : World} {b : Nat} {r c r0 c0 : Int} {sa sb s0 : Option Addr} {n cap m k n0 k0 : Nat} {xs : List Nat} (h : FlM W sb m k xs) (hb : W.heap[b]? = some (MBox r0 c0 s0 n0 k0)) : FlM (StoM W b r c sa n cap) sb m k xs := FnM.toFl h.1 (StoM.fn h.fn hb)
set_option maxHeartbeats 1000000 in
theorem of_any (r c : Int) (sa : Option Addr) (sn sc : Nat) (xs : List Nat) (w : World) (hu : U64At w sa sn xs) (hn : sn ≤ 17592186043904) :
    Calls Try.prog 11 #[.agg #[.int .i64 r, .int .i64 c, .slice sa sn sc]] w fun e w' => (∃ ta cap, e = .returned (MV r c ta sn cap) ∧ FlM w' ta sn cap xs) ∧ Below w.heap.size w w' := by
  obtain ⟨t1, t2, t3, t4⟩ := two_b w (BBox r c sa sn sc) (MBox 0 0 none 0 0)
  obtain ⟨V, hV⟩ : ∃ V, Hid ((w.alloc (BBox r c sa sn sc)).alloc (MBox 0 0 none 0 0) = V) := ⟨_, rfl⟩
  rw [hV.out] at t1 t2 t3 t4
  have hV' := hV.out
  have HBV := hid t3
  have HR := hid t2
  have HA0 := hid t1
  obtain ⟨x0, x1, x2⟩ := bcells_of t1
  have HLD := hid (ll_any sa sn sc xs V.drew ((hu.below t3).below ((Below.refl _ _).drew)) hn)
  unfold MBox BBox at hV'
  unfold MV
  clear hu hn t1 t2 t3 t4
  go_enter Try.func11, Try.ntmps11
  go_wp2_with fail
  have HQ0 : Hid (Fr3 w V.drew w.heap.size (w.heap.size + 1) (BBox r c sa sn sc) (MBox 0 0 none 0 0)) := (show Fr3 w V w.heap.size (w.heap.size + 1) (BBox r c sa sn sc) (MBox 0 0 none 0 0) from ⟨HBV.out, HA0.out, HR.out⟩).drew
  have HKS : Hid (∀ W, Hid (Fr3 w W w.heap.size (w.heap.size + 1) (BBox r c sa sn sc) (MBox 0 0 none 0 0)) → (W.cell? ⟨w.heap.size, 0, none⟩ = some (.int .i64 r) ∧ W.cell? ⟨w.heap.size, 1, none⟩ = some (.int .i64 c) ∧ W.cell? ⟨w.heap.size, 2, none⟩ = some (.slice sa sn sc))) := fun W hW => bcells_of hW.out.2.1
  have HST : Hid (∀ W, Hid (Fr3 w W w.heap.size (w.heap.size + 1) (BBox r c sa sn sc) (MBox 0 0 none 0 0)) → ∀ r2 c2 s2 n2 k2, ((((W.setCell ⟨w.heap.size + 1, 0, none⟩ (.int .i64 r2)).setCell ⟨w.heap.size + 1, 1, none⟩ (.int .i64 c2)).setCell ⟨w.heap.size + 1, 2, none⟩ (.slice s2 n2 k2)).cell? ⟨w.heap.size, 0, none⟩ = some (.int .i64 r) ∧ (((W.setCell ⟨w.heap.size + 1, 0, none⟩ (.int .i64 r2)).setCell ⟨w.heap.size + 1, 1, none⟩ (.int .i64 c2)).setCell ⟨w.heap.size + 1, 2, none⟩ (.slice s2 n2 k2)).cell? ⟨w.heap.size, 1, none⟩ = some (.int .i64 c) ∧ (((W.setCell ⟨w.heap.size + 1, 0, none⟩ (.int .i64 r2)).setCell ⟨w.heap.size + 1, 1, none⟩ (.int .i64 c2)).setCell ⟨w.heap.size + 1, 2, none⟩ (.slice s2 n2 k2)).cell? ⟨w.heap.size, 2, none⟩ = some (.slice sa sn sc))) := fun W hW r2 c2 s2 n2 k2 => bcells_of (w := StoM W (w.heap.size + 1) r2 c2 s2 n2 k2) ((StoM.keep (by omega)).trans hW.out.2.1)
  refine wp_region_held_drew (S := fun W => W.cell? ⟨w.heap.size, 0, none⟩ = some (.int .i64 r) ∧ W.cell? ⟨w.heap.size, 1, none⟩ = some (.int .i64 c) ∧ W.cell? ⟨w.heap.size, 2, none⟩ = some (.slice sa sn sc)) (by kernel_rfl) (HKS.out _ HQ0) (fun hHeld => ?_)
  refine take_at 0 3 (.pointer (some ⟨w.heap.size, 0, none⟩)) rfl rfl (by kernel_rfl) (by kernel_rfl) (by kernel_rfl) (fun _ _ _ h => h) (Or.inl ⟨by rfl, fun w hSw => by (try dsimp only at hSw); go_simp⟩) (by assumption) ?_
  simp only [Act.put, List.setIfInBounds_toArray, List.set_cons_zero, List.set_cons_succ]
  refine take_at 1 4 (.int .i64 r) rfl rfl (by kernel_rfl) (by kernel_rfl) (by kernel_rfl) (fun _ _ _ h => h) (Or.inl ⟨by rfl, fun w hSw => by (try dsimp only at hSw); go_simp⟩) (by assumption) ?_
  simp only [Act.put, List.setIfInBounds_toArray, List.set_cons_zero, List.set_cons_succ]
  refine take_at 2 5 (.pointer (some ⟨w.heap.size, 1, none⟩)) rfl rfl (by kernel_rfl) (by kernel_rfl) (by kernel_rfl) (fun _ _ _ h => h) (Or.inl ⟨by rfl, fun w hSw => by (try dsimp only at hSw); go_simp⟩) (by assumption) ?_
  simp only [Act.put, List.setIfInBounds_toArray, List.set_cons_zero, List.set_cons_succ]
  refine take_at 3 6 (.int .i64 c) rfl rfl (by kernel_rfl) (by kernel_rfl) (by kernel_rfl) (fun _ _ _ h => h) (Or.inl ⟨by rfl, fun w hSw => by (try dsimp only at hSw); go_simp⟩) (by assumption) ?_
  simp only [Act.put, List.setIfInBounds_toArray, List.set_cons_zero, List.set_cons_succ]
  refine take_at 4 7 (.pointer (some ⟨w.heap.size, 2, none⟩)) rfl rfl (by kernel_rfl) (by kernel_rfl) (by kernel_rfl) (fun _ _ _ h => h) (Or.inl ⟨by rfl, fun w hSw => by (try dsimp only at hSw); go_simp⟩) (by assumption) ?_
  simp only [Act.put, List.setIfInBounds_toArray, List.set_cons_zero, List.set_cons_succ]
  refine take_at 5 8 (.slice sa sn sc) rfl rfl (by kernel_rfl) (by kernel_rfl) (by kernel_rfl) (fun _ _ _ h => h) (Or.inl ⟨by rfl, fun w hSw => by (try dsimp only at hSw); go_simp⟩) (by assumption) ?_
  simp only [Act.put, List.setIfInBounds_toArray, List.set_cons_zero, List.set_cons_succ]
  refine wpAnyH_ready (rs := [6]) (by kernel_rfl) (by simp) ?_
  refine AllReadyH.cons (o := _) rfl (fun K hK => ?_) AllReadyH.nil
  go_simp
  refine HLD.out.mono ?_
  rintro e u1 ⟨ta, cap, rfl, hf1, hb1⟩
  have HG1 := hid (HQ0.out.call hb1)
  have HF1 := hid hf1
  clear hf1 hb1
  go_wp2_with fail
  refine hK.out _ _ (HKS.out _ HG1) (fun hHeld1 => ?_)
  clear hK K
  try simp only [Act.put, List.setIfInBounds_toArray, List.set_cons_zero, List.set_cons_succ]
  refine take_at 7 10 (.agg #[.int .i64 r, .int .i64 c, .slice ta sn cap]) rfl rfl (by kernel_rfl) (by kernel_rfl) (by kernel_rfl) (fun _ _ _ h => h) (Or.inl ⟨by rfl, fun w hSw => by (try dsimp only at hSw); go_simp⟩) (by assumption) ?_
  simp only [Act.put, List.setIfInBounds_toArray, List.set_cons_zero, List.set_cons_succ]
  obtain ⟨y0, y1, y2⟩ := mcells_of HG1.out.2.2
  have fz := frzM HG1.out.2.2
  refine wpAnyH_ready (rs := [8]) (by kernel_rfl) (by simp) ?_
  refine AllReadyH.cons (o := _) rfl (fun K hK => ?_) AllReadyH.nil
  go_simp
  go_wp2_with fail
  refine hK.out _ _ (HST.out _ HG1 _ _ _ _ _) (fun hHeld2 => ?_)
  clear hK K
  try simp only [Act.put, List.setIfInBounds_toArray, List.set_cons_zero, List.set_cons_succ]
  refine wpAnyH_done (by kernel_rfl) ?_ _
  go_wp2_with fail
  exact bodyPost_ret (v := MV r c ta sn cap) (by simp [results, Try.results11, go_sem, y0, y1, y2, MV]) rfl ⟨⟨ta, cap, rfl, sto_fl HF1.out HG1.out.2.2⟩, StoM.below HG1.out.1 (by omega)⟩
end Go.Proofs.Ythnblidkbcficaa
