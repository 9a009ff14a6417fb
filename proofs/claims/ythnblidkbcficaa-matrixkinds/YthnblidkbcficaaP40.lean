
/- The document's Add. (Written by mknbb.py.) -/
import Derived.Test.YthnblidkbcficaaP39
import Derived.Test.YthnblidkbcficaaP31
namespace Go.Proofs.Ythnblidkbcficaa
open Go.RowKit Go.IntWalk

theorem fin_some {op : BinOp} (hop : op = .add ∨ op = .sub ∨ op = .mul) (w : World) (x y : Nat) (hx : x < 18446744073709551616) (hy : y < 18446744073709551616) (fx : x % 9223372036854775808 < 9218868437227405312) (fy : y % 9223372036854775808 < 9218868437227405312) : ∃ z, floatBits op .f64 x y = some z ∧ z < 18446744073709551616 ∧ canonOf z = caf op (canonOf x) (canonOf y) := by
  have h : ∃ z, floatBits op .f64 x y = some z := by
    obtain ⟨m, p, ex, _⟩ := read_fin x hx fx
    obtain ⟨n, q, ey, _⟩ := read_fin y hy fy
    rcases hop with rfl | rfl | rfl
    · show ∃ z, FloatKind.f64.format.add x y = some z
      unfold Ieee.Format.add
      rw [ex, ey]
      exact ⟨_, rfl⟩
    · show ∃ z, FloatKind.f64.format.sub x y = some z
      unfold Ieee.Format.sub
      rw [ex, ey]
      exact ⟨_, rfl⟩
    · show ∃ z, FloatKind.f64.format.mul x y = some z
      unfold Ieee.Format.mul
      rw [ex, ey]
      exact ⟨_, rfl⟩
  obtain ⟨z, hz⟩ := h
  have hc := canon_ar hop x y w hx hy
  have hl := arF_lt hop x y w
  have e : arF op x y w = z := by unfold arF; rw [hz]; rfl
  rw [e] at hc hl
  exact ⟨z, hz, hl, hc⟩
theorem rowF {W : World} {g N : Nat} {o : Nat → Nat} (h : W.rowIs g 51 N (fun k => .float .f64 (o k))) (ho : ∀ k, k < N → o k < 18446744073709551616) (hN : N ≤ 144) : FnM W (some ⟨g, 0, none⟩) N N o :=
  Or.inr ⟨g, 0, rfl, h.lt, Nat.le_refl _, by omega, fun j hj => by rw [Nat.zero_add]; exact ⟨h.cell hj, ho j hj⟩⟩
set_option maxRecDepth 4000 in
set_option maxHeartbeats 2000000 in
theorem rAdd_ok (r c n n2 : Nat) (sa sb : Option Addr) (ka kb : Nat) (f f2 : Nat → Nat) (w : World) (ha : Gd w r c sa n ka f) (hb : Gd w r c sb n2 kb f2) :
    Calls Try.prog 50 #[MV r c sa n ka, MV r c sb n2 kb, .bool false] w fun e w' => (∃ (g : Nat) (o : Nat → Nat), e = .returned (AnsM r c (r * c) g o) ∧ FnM w' (some ⟨g, 0, none⟩) (r * c) (r * c) o ∧ ∀ i j, i < r → j < c → canonOf (o (i * c + j)) = caf .add (canonOf (f (i * c + j))) (canonOf (f2 (i * c + j)))) ∧ Below w.heap.size w w' := by
  obtain ⟨t1, t2, t3, t4, t5⟩ := three_b w (MBox r c sa n ka) (MBox r c sb n2 kb) (MBox 0 0 none 0 0)
  have HZ0 := hid (fun W => rRaw_any r c (by have := ha.1; omega) (by have := ha.2.1; omega) W)
  have HNN : Hid (n = r * c ∧ n2 = r * c ∧ r * c ≤ 144) := ⟨ha.2.2.1, hb.2.2.1, by have := ha.le; rw [ha.2.2.1] at this; exact this⟩
  have HFA := hid ha.2.2.2.1
  have HFB := hid hb.2.2.2.1
  have HXA := hid (fun i (hi : i < r * c) => gd_fin ha i hi)
  have HXB := hid (fun i (hi : i < r * c) => gd_fin hb i hi)
  obtain ⟨N, hN⟩ : ∃ p, Hid (r * c = p) := ⟨_, rfl⟩
  rw [hN.out] at HZ0 HNN HXA HXB
  have HOV := hid (fun W o (h : FnM W (some ⟨w.heap.size + 3 + 1, 0, none⟩) N N o) => Over_any r c N _ N o W h (by have := HNN.out.2.2; omega))
  rw [hN.out]
  have hnn := HNN.out.1.symm
  have hnn2 := HNN.out.2.1.symm
  subst hnn hnn2
  obtain ⟨V, hV⟩ : ∃ V, Hid (((w.alloc (MBox r c sa N ka)).alloc (MBox r c sb N kb)).alloc (MBox 0 0 none 0 0) = V) := ⟨_, rfl⟩
  rw [hV.out] at t1 t2 t3 t4 t5
  have hV' := hV.out
  unfold MBox at hV'
  obtain ⟨g, hg⟩ : ∃ t, Hid (V.heap.size + 1 = t) := ⟨_, rfl⟩
  have hgg : w.heap.size + 3 + 1 = g := by rw [← t5, hg.out]
  rw [hgg] at HOV
  have HZ := hid (HZ0.out V)
  rw [hg.out] at HZ
  clear HZ0 hgg
  obtain ⟨p0, hp0⟩ : ∃ t, Hid (w.heap.size = t) := ⟨_, rfl⟩
  obtain ⟨p1, hp1⟩ : ∃ t, Hid (p0 + 1 = t) := ⟨_, rfl⟩
  obtain ⟨rb, hrb⟩ : ∃ t, Hid (p1 + 1 = t) := ⟨_, rfl⟩
  rw [hp0.out] at t1 t2 t3
  rw [hp1.out] at t2 t3
  rw [hrb.out] at t3
  have HT1 := hid t1
  have HT2 := hid t2
  have HT3 := hid t3
  have HT4 := hid t4
  have HT5 := hid t5
  have hp0' := hp0.out
  have hp1' := hp1.out
  have hrb' := hrb.out
  obtain ⟨x0, x1, x2⟩ := mcells_of t1
  obtain ⟨v0, v1, v2⟩ := mcells_of t2
  unfold MV
  clear t1 t2 t3 t4 t5 ha hb
  have hst := fstoreM
  go_enter Try.func50, Try.ntmps50
  go_wp2_with fail
  refine HZ.out.mono ?_
  rintro e w1 ⟨rfl, h1, h2⟩
  have hal : Below w1.heap.size w1 (w1.alloc (MBox r c (some ⟨g, 0, none⟩) N N)) := (Below.refl _ _).alloc (Nat.le_refl _) _
  have hlt : g < w1.heap.size := h1.lt
  obtain ⟨mb, hmb⟩ : ∃ t, Hid (w1.heap.size = t) := ⟨_, rfl⟩
  have HFR : Hid (Fr5 w (w1.alloc (MBox r c (some ⟨g, 0, none⟩) N N)) p0 p1 rb mb (MBox r c sa N ka) (MBox r c sb N kb) (MBox 0 0 none 0 0) (MBox r c (some ⟨g, 0, none⟩) N N)) := by
    refine ⟨(HT4.out.trans (h2.mono HT4.out.size)).trans (hal.mono (Nat.le_trans HT4.out.size h2.size)), blkM (blkM HT1.out h2) hal, blkM (blkM HT2.out h2) hal, blkM (blkM HT3.out h2) hal, ?_⟩
    rw [← hmb.out]
    exact nblkM _ _
  have HR0 : Hid ((w1.alloc (MBox r c (some ⟨g, 0, none⟩) N N)).rowIs g 51 N (fun _ => .float .f64 0)) := h1.of_block (hal.block _ hlt)
  have HNE : Hid (p0 ≠ g ∧ p1 ≠ g ∧ rb ≠ g ∧ mb ≠ g ∧ w.heap.size ≤ g) := by
    have e1 := hp0.out; have e2 := hp1.out; have e3 := hrb.out; have e4 := hmb.out; have e5 := hg.out; have e6 := HT5.out
    show _ ∧ _ ∧ _ ∧ _ ∧ _
    omega
  have HRB : Hid (w.heap.size ≤ rb) := by
    have e1 := hp0.out; have e2 := hp1.out; have e3 := hrb.out
    show _ ≤ _
    omega
  obtain ⟨V1, hV1⟩ : ∃ V, Hid (w1.alloc (MBox r c (some ⟨g, 0, none⟩) N N) = V) := ⟨_, rfl⟩
  rw [hV1.out] at HFR HR0
  have hW1 := hV1.out
  have hmb' := hmb.out
  unfold MBox at hW1
  unfold MV
  clear h1 h2 hal HZ hlt x0 x1 x2 v0 v1 v2
  go_wp2_with fail
  go_loopw [9] (fun iv wr => ∃ (i : Nat) (o : Nat → Nat), i ≤ N ∧ iv = .int .i64 i ∧ Hid (wr.rowIs g 51 N (fun k => .float .f64 (o k))) ∧ Hid (∀ k, k < i → canonOf (o k) = caf .add (canonOf (f k)) (canonOf (f2 k)) ∧ o k < 18446744073709551616) ∧ Hid (Fr5 w wr p0 p1 rb mb (MBox r c sa N ka) (MBox r c sb N kb) (MBox 0 0 none 0 0) (MBox r c (some ⟨g, 0, none⟩) N N))) (fun iv _ => N - (intOf iv).toNat)
  case atStart => exact ⟨0, fun _ => 0, Nat.zero_le _, rfl, HR0, fun k hk => absurd hk (Nat.not_lt_zero k), HFR⟩
  case round =>
    obtain ⟨i, o, hi, rfl, HR, HP, HFW⟩ := hrel
    obtain ⟨m0, m1, m2⟩ := mcells_of HFW.out.2.2.2.2
    have h144 := HNN.out.2.2
    by_cases hlt : i < N
    · have hiI : (i : Int) < (N : Int) := by omega
      have hi0 : (0 : Int) ≤ (i : Int) := by omega
      obtain ⟨ba, oa, hsa, hba, _, _, hca⟩ : ∃ b off, sa = some ⟨b, off, none⟩ ∧ b < w.heap.size ∧ N ≤ ka ∧ ka ≤ 9223372036854775807 ∧ ∀ j, j < N → w.cell? ⟨b, off + j, none⟩ = some (.float .f64 (f j)) ∧ f j < 18446744073709551616 := by
        rcases HFA.out with ⟨_, h, _⟩ | h
        · omega
        · exact h
      obtain ⟨bb, ob, hsb, hbb, _, _, hcb⟩ : ∃ b off, sb = some ⟨b, off, none⟩ ∧ b < w.heap.size ∧ N ≤ kb ∧ kb ≤ 9223372036854775807 ∧ ∀ j, j < N → w.cell? ⟨b, off + j, none⟩ = some (.float .f64 (f2 j)) ∧ f2 j < 18446744073709551616 := by
        rcases HFB.out with ⟨_, h, _⟩ | h
        · omega
        · exact h
      subst hsa hsb
      obtain ⟨z, hz, hzl, hzc⟩ := fin_some ok_a w (f i) (f2 i) (hca i hlt).2 (hcb i hlt).2 (HXA.out i hlt).2 (HXB.out i hlt).2
      have HKS : Hid (∀ W, Hid (Fr5 w W p0 p1 rb mb (MBox r c (some ⟨ba, oa, none⟩) N ka) (MBox r c (some ⟨bb, ob, none⟩) N kb) (MBox 0 0 none 0 0) (MBox r c (some ⟨g, 0, none⟩) N N)) → (W.cell? ⟨mb, 0, none⟩ = some (.int .i64 r) ∧ W.cell? ⟨mb, 1, none⟩ = some (.int .i64 c) ∧ W.cell? ⟨mb, 2, none⟩ = some (.slice (some ⟨g, 0, none⟩) N N) ∧ W.cell? ⟨p0, 2, none⟩ = some (.slice (some ⟨ba, oa, none⟩) N ka) ∧ W.cell? ⟨p1, 2, none⟩ = some (.slice (some ⟨bb, ob, none⟩) N kb) ∧ W.cell? ⟨ba, oa + i, none⟩ = some (.float .f64 (f i)) ∧ W.cell? ⟨bb, ob + i, none⟩ = some (.float .f64 (f2 i))) ∧ Hid (Fr5 w W p0 p1 rb mb (MBox r c (some ⟨ba, oa, none⟩) N ka) (MBox r c (some ⟨bb, ob, none⟩) N kb) (MBox 0 0 none 0 0) (MBox r c (some ⟨g, 0, none⟩) N N))) := fun W hW => by
        obtain ⟨a0, a1, a2⟩ := mcells_of hW.out.2.1
        obtain ⟨b0, b1, b2⟩ := mcells_of hW.out.2.2.1
        obtain ⟨n0, n1, n2⟩ := mcells_of hW.out.2.2.2.2
        exact ⟨⟨n0, n1, n2, a2, b2, (hW.out.1.cell (p := ⟨ba, oa + i, none⟩) hba).trans (hca i hlt).1, (hW.out.1.cell (p := ⟨bb, ob + i, none⟩) hbb).trans (hcb i hlt).1⟩, hW⟩
      have HCELL : Hid (wr.drew.cell? ⟨g, i, none⟩ = some (.float .f64 (o i))) := HR.out.cell hlt
      have HFRZ : Hid (wr.drew.frozen? ⟨g, i, none⟩ = false) := HR.out.frozen _
      have HQ0 : Hid (Fr5 w wr.drew p0 p1 rb mb (MBox r c (some ⟨ba, oa, none⟩) N ka) (MBox r c (some ⟨bb, ob, none⟩) N kb) (MBox 0 0 none 0 0) (MBox r c (some ⟨g, 0, none⟩) N N)) := HFW.out.drew
      have HG4 : Hid (Fr5 w (wr.drew.setCell ⟨g, i, none⟩ (.float .f64 z)) p0 p1 rb mb (MBox r c (some ⟨ba, oa, none⟩) N ka) (MBox r c (some ⟨bb, ob, none⟩) N kb) (MBox 0 0 none 0 0) (MBox r c (some ⟨g, 0, none⟩) N N)) := HQ0.out.set HNE.out.1 HNE.out.2.1 HNE.out.2.2.1 HNE.out.2.2.2.1 HNE.out.2.2.2.2 _
      have HRD : Hid (wr.drew.rowIs g 51 N (fun k => .float .f64 (o k))) := HR.out.of_block rfl
      have HR4 : Hid ((wr.drew.setCell ⟨g, i, none⟩ (.float .f64 z)).rowIs g 51 N (fun t => .float .f64 (if t = i then z else o t))) := by
        refine (HRD.out.set i _).congr (fun t _ => ?_)
        by_cases ht : t = i <;> simp [ht]
      have HP4 : Hid (∀ k, k < i + 1 → canonOf (if k = i then z else o k) = caf .add (canonOf (f k)) (canonOf (f2 k)) ∧ (if k = i then z else o k) < 18446744073709551616) := fun k hk => by
        by_cases hki : k = i
        · rw [if_pos hki, hki]; exact ⟨hzc, hzl⟩
        · rw [if_neg hki]; exact HP.out k (by omega)
      have hrun := f_add hz
      have HLT := hid hlt
      obtain ⟨x, hx⟩ : ∃ t, Hid (f i = t) := ⟨_, rfl⟩
      obtain ⟨y, hy⟩ : ∃ t, Hid (f2 i = t) := ⟨_, rfl⟩
      rw [hx.out, hy.out] at HKS hrun
      clear hz hzl hzc hca hcb hba hbb hlt
      go_wp2_with fail
      refine wp_region_held_drew (S := fun W => (W.cell? ⟨mb, 0, none⟩ = some (.int .i64 r) ∧ W.cell? ⟨mb, 1, none⟩ = some (.int .i64 c) ∧ W.cell? ⟨mb, 2, none⟩ = some (.slice (some ⟨g, 0, none⟩) N N) ∧ W.cell? ⟨p0, 2, none⟩ = some (.slice (some ⟨ba, oa, none⟩) N ka) ∧ W.cell? ⟨p1, 2, none⟩ = some (.slice (some ⟨bb, ob, none⟩) N kb) ∧ W.cell? ⟨ba, oa + i, none⟩ = some (.float .f64 x) ∧ W.cell? ⟨bb, ob + i, none⟩ = some (.float .f64 y)) ∧ Hid (Fr5 w W p0 p1 rb mb (MBox r c (some ⟨ba, oa, none⟩) N ka) (MBox r c (some ⟨bb, ob, none⟩) N kb) (MBox 0 0 none 0 0) (MBox r c (some ⟨g, 0, none⟩) N N))) (by kernel_rfl) (HKS.out _ HQ0) (fun hHeld => ?_)
      refine take_at 0 51 (.pointer (some ⟨mb, 2, none⟩)) rfl rfl (by kernel_rfl) (by kernel_rfl) (by kernel_rfl) (fun _ _ _ h => h) (Or.inl ⟨by rfl, fun w hSw => by (try dsimp only at hSw); go_simp⟩) (by assumption) ?_
      simp only [Act.put, List.setIfInBounds_toArray, List.set_cons_zero, List.set_cons_succ]
      refine take_at 1 52 (.slice (some ⟨g, 0, none⟩) N N) rfl rfl (by kernel_rfl) (by kernel_rfl) (by kernel_rfl) (fun _ _ _ h => h) (Or.inl ⟨by rfl, fun w hSw => by (try dsimp only at hSw); go_simp⟩) (by assumption) ?_
      simp only [Act.put, List.setIfInBounds_toArray, List.set_cons_zero, List.set_cons_succ]
      refine take_at 2 53 (.int .i64 i) rfl rfl (by kernel_rfl) (by kernel_rfl) (by kernel_rfl) (fun _ _ _ h => h) (Or.inl ⟨by rfl, fun w hSw => by (try dsimp only at hSw); go_simp⟩) (by assumption) ?_
      simp only [Act.put, List.setIfInBounds_toArray, List.set_cons_zero, List.set_cons_succ]
      refine take_at 3 54 (.pointer (some ⟨p0, 2, none⟩)) rfl rfl (by kernel_rfl) (by kernel_rfl) (by kernel_rfl) (fun _ _ _ h => h) (Or.inl ⟨by rfl, fun w hSw => by (try dsimp only at hSw); go_simp⟩) (by assumption) ?_
      simp only [Act.put, List.setIfInBounds_toArray, List.set_cons_zero, List.set_cons_succ]
      refine take_at 4 55 (.slice (some ⟨ba, oa, none⟩) N ka) rfl rfl (by kernel_rfl) (by kernel_rfl) (by kernel_rfl) (fun _ _ _ h => h) (Or.inl ⟨by rfl, fun w hSw => by (try dsimp only at hSw); go_simp⟩) (by assumption) ?_
      simp only [Act.put, List.setIfInBounds_toArray, List.set_cons_zero, List.set_cons_succ]
      refine take_at 5 56 (.int .i64 i) rfl rfl (by kernel_rfl) (by kernel_rfl) (by kernel_rfl) (fun _ _ _ h => h) (Or.inl ⟨by rfl, fun w hSw => by (try dsimp only at hSw); go_simp⟩) (by assumption) ?_
      simp only [Act.put, List.setIfInBounds_toArray, List.set_cons_zero, List.set_cons_succ]
      refine take_at 6 57 (.pointer (some ⟨ba, oa + i, none⟩)) rfl rfl (by kernel_rfl) (by kernel_rfl) (by kernel_rfl) (fun _ _ _ h => h) (Or.inl ⟨by rfl, fun w hSw => by (try dsimp only at hSw); go_simp⟩) (by assumption) ?_
      simp only [Act.put, List.setIfInBounds_toArray, List.set_cons_zero, List.set_cons_succ]
      refine take_at 7 58 (.float .f64 x) rfl rfl (by kernel_rfl) (by kernel_rfl) (by kernel_rfl) (fun _ _ _ h => h) (Or.inl ⟨by rfl, fun w hSw => by (try dsimp only at hSw); go_simp⟩) (by assumption) ?_
      simp only [Act.put, List.setIfInBounds_toArray, List.set_cons_zero, List.set_cons_succ]
      refine take_at 8 59 (.pointer (some ⟨p1, 2, none⟩)) rfl rfl (by kernel_rfl) (by kernel_rfl) (by kernel_rfl) (fun _ _ _ h => h) (Or.inl ⟨by rfl, fun w hSw => by (try dsimp only at hSw); go_simp⟩) (by assumption) ?_
      simp only [Act.put, List.setIfInBounds_toArray, List.set_cons_zero, List.set_cons_succ]
      refine take_at 9 60 (.slice (some ⟨bb, ob, none⟩) N kb) rfl rfl (by kernel_rfl) (by kernel_rfl) (by kernel_rfl) (fun _ _ _ h => h) (Or.inl ⟨by rfl, fun w hSw => by (try dsimp only at hSw); go_simp⟩) (by assumption) ?_
      simp only [Act.put, List.setIfInBounds_toArray, List.set_cons_zero, List.set_cons_succ]
      refine take_at 10 61 (.int .i64 i) rfl rfl (by kernel_rfl) (by kernel_rfl) (by kernel_rfl) (fun _ _ _ h => h) (Or.inl ⟨by rfl, fun w hSw => by (try dsimp only at hSw); go_simp⟩) (by assumption) ?_
      simp only [Act.put, List.setIfInBounds_toArray, List.set_cons_zero, List.set_cons_succ]
      refine take_at 11 62 (.pointer (some ⟨bb, ob + i, none⟩)) rfl rfl (by kernel_rfl) (by kernel_rfl) (by kernel_rfl) (fun _ _ _ h => h) (Or.inl ⟨by rfl, fun w hSw => by (try dsimp only at hSw); go_simp⟩) (by assumption) ?_
      simp only [Act.put, List.setIfInBounds_toArray, List.set_cons_zero, List.set_cons_succ]
      refine take_at 12 63 (.float .f64 y) rfl rfl (by kernel_rfl) (by kernel_rfl) (by kernel_rfl) (fun _ _ _ h => h) (Or.inl ⟨by rfl, fun w hSw => by (try dsimp only at hSw); go_simp⟩) (by assumption) ?_
      simp only [Act.put, List.setIfInBounds_toArray, List.set_cons_zero, List.set_cons_succ]
      refine take_at 13 64 (.float .f64 z) rfl rfl (by kernel_rfl) (by kernel_rfl) (by kernel_rfl) (fun _ _ _ h => h) (Or.inl ⟨by rfl, fun w hSw => by (try dsimp only at hSw); go_simp⟩) (by assumption) ?_
      simp only [Act.put, List.setIfInBounds_toArray, List.set_cons_zero, List.set_cons_succ]
      refine take_at 14 65 (.pointer (some ⟨g, i, none⟩)) rfl rfl (by kernel_rfl) (by kernel_rfl) (by kernel_rfl) (fun _ _ _ h => h) (Or.inl ⟨by rfl, fun w hSw => by (try dsimp only at hSw); go_simp⟩) (by assumption) ?_
      simp only [Act.put, List.setIfInBounds_toArray, List.set_cons_zero, List.set_cons_succ]
      refine wpAnyH_ready (rs := [15]) (by kernel_rfl) (by simp) ?_
      refine AllReadyH.cons (o := _) rfl (fun K hK => ?_) AllReadyH.nil
      have zc := HCELL.out
      have fzz := HFRZ.out
      go_simp
      go_wp2_with fail
      refine hK.out _ _ (HKS.out _ HG4) (fun hHeld4 => ?_)
      clear hK K
      try simp only [Act.put, List.setIfInBounds_toArray, List.set_cons_zero, List.set_cons_succ]
      refine wpAnyH_done (by kernel_rfl) ?_ _
      go_wp2_with fail
      have hi1 := HLT.out
      refine ⟨⟨i + 1, fun t => if t = i then z else o t, by omega, by go_num, HR4, HP4, HG4⟩, ?_⟩
      simp [intOf]; omega
    · obtain rfl : i = N := by omega
      have HFO := hid (HOV.out wr o (rowF (HR.out) (fun k hk => (HP.out k hk).2) h144))
      obtain ⟨X0, X1, X2, X3, X4, hXX⟩ : ∃ a b s m k, Hid ((if finF i o = true then MV r c (some ⟨g, 0, none⟩) i i else MV 0 0 none 0 0) = MV a b s m k) := by
        by_cases q : finF i o = true
        · exact ⟨r, c, _, _, _, by show _ = _; rw [if_pos q]⟩
        · exact ⟨0, 0, _, _, _, by show _ = _; rw [if_neg q]⟩
      obtain ⟨E, hE⟩ : ∃ E, Hid ((if finF i o = true then 0 else 5 : Int) = E) := ⟨_, rfl⟩
      have HFN := hid (rowF (HR.out) (fun k hk => (HP.out k hk).2) h144)
      rw [hXX.out, hE.out] at HFO
      unfold MV at HFO
      go_wp2_with fail
      refine HFO.out.mono ?_
      rintro e w3 ⟨rfl, hk3, hb3⟩
      have HFR3 := hid (HFW.out.call hb3)
      have HFN3 := hid (hk3 _ _ _ _ HFN.out)
      obtain ⟨y0, y1, y2⟩ := mcells_of HFR3.out.2.2.2.1
      have fz := frzM HFR3.out.2.2.2.1
      clear hb3 hk3
      go_wp2_with fail
      refine bodyPost_ret (v := AnsM r c i g o) (by unfold AnsM; rw [hXX.out, hE.out]; simp [results, Try.results50, go_sem, y0, y1, y2, MV]) rfl ⟨⟨g, o, rfl, StoM.fn HFN3.out HFR3.out.2.2.2.1, fun a b ha hb => ?_⟩, StoM.below HFR3.out.1 HRB.out⟩
      exact (HP.out _ (by rw [← hN.out]; exact place_lt ha hb)).1
set_option maxRecDepth 4000 in
set_option maxHeartbeats 2000000 in
theorem rSub_ok (r c n n2 : Nat) (sa sb : Option Addr) (ka kb : Nat) (f f2 : Nat → Nat) (w : World) (ha : Gd w r c sa n ka f) (hb : Gd w r c sb n2 kb f2) :
    Calls Try.prog 50 #[MV r c sa n ka, MV r c sb n2 kb, .bool true] w fun e w' => (∃ (g : Nat) (o : Nat → Nat), e = .returned (AnsM r c (r * c) g o) ∧ FnM w' (some ⟨g, 0, none⟩) (r * c) (r * c) o ∧ ∀ i j, i < r → j < c → canonOf (o (i * c + j)) = caf .sub (canonOf (f (i * c + j))) (canonOf (f2 (i * c + j)))) ∧ Below w.heap.size w w' := by
  obtain ⟨t1, t2, t3, t4, t5⟩ := three_b w (MBox r c sa n ka) (MBox r c sb n2 kb) (MBox 0 0 none 0 0)
  have HZ0 := hid (fun W => rRaw_any r c (by have := ha.1; omega) (by have := ha.2.1; omega) W)
  have HNN : Hid (n = r * c ∧ n2 = r * c ∧ r * c ≤ 144) := ⟨ha.2.2.1, hb.2.2.1, by have := ha.le; rw [ha.2.2.1] at this; exact this⟩
  have HFA := hid ha.2.2.2.1
  have HFB := hid hb.2.2.2.1
  have HXA := hid (fun i (hi : i < r * c) => gd_fin ha i hi)
  have HXB := hid (fun i (hi : i < r * c) => gd_fin hb i hi)
  obtain ⟨N, hN⟩ : ∃ p, Hid (r * c = p) := ⟨_, rfl⟩
  rw [hN.out] at HZ0 HNN HXA HXB
  have HOV := hid (fun W o (h : FnM W (some ⟨w.heap.size + 3 + 1, 0, none⟩) N N o) => Over_any r c N _ N o W h (by have := HNN.out.2.2; omega))
  rw [hN.out]
  have hnn := HNN.out.1.symm
  have hnn2 := HNN.out.2.1.symm
  subst hnn hnn2
  obtain ⟨V, hV⟩ : ∃ V, Hid (((w.alloc (MBox r c sa N ka)).alloc (MBox r c sb N kb)).alloc (MBox 0 0 none 0 0) = V) := ⟨_, rfl⟩
  rw [hV.out] at t1 t2 t3 t4 t5
  have hV' := hV.out
  unfold MBox at hV'
  obtain ⟨g, hg⟩ : ∃ t, Hid (V.heap.size + 1 = t) := ⟨_, rfl⟩
  have hgg : w.heap.size + 3 + 1 = g := by rw [← t5, hg.out]
  rw [hgg] at HOV
  have HZ := hid (HZ0.out V)
  rw [hg.out] at HZ
  clear HZ0 hgg
  obtain ⟨p0, hp0⟩ : ∃ t, Hid (w.heap.size = t) := ⟨_, rfl⟩
  obtain ⟨p1, hp1⟩ : ∃ t, Hid (p0 + 1 = t) := ⟨_, rfl⟩
  obtain ⟨rb, hrb⟩ : ∃ t, Hid (p1 + 1 = t) := ⟨_, rfl⟩
  rw [hp0.out] at t1 t2 t3
  rw [hp1.out] at t2 t3
  rw [hrb.out] at t3
  have HT1 := hid t1
  have HT2 := hid t2
  have HT3 := hid t3
  have HT4 := hid t4
  have HT5 := hid t5
  have hp0' := hp0.out
  have hp1' := hp1.out
  have hrb' := hrb.out
  obtain ⟨x0, x1, x2⟩ := mcells_of t1
  obtain ⟨v0, v1, v2⟩ := mcells_of t2
  unfold MV
  clear t1 t2 t3 t4 t5 ha hb
  have hst := fstoreM
  go_enter Try.func50, Try.ntmps50
  go_wp2_with fail
  refine HZ.out.mono ?_
  rintro e w1 ⟨rfl, h1, h2⟩
  have hal : Below w1.heap.size w1 (w1.alloc (MBox r c (some ⟨g, 0, none⟩) N N)) := (Below.refl _ _).alloc (Nat.le_refl _) _
  have hlt : g < w1.heap.size := h1.lt
  obtain ⟨mb, hmb⟩ : ∃ t, Hid (w1.heap.size = t) := ⟨_, rfl⟩
  have HFR : Hid (Fr5 w (w1.alloc (MBox r c (some ⟨g, 0, none⟩) N N)) p0 p1 rb mb (MBox r c sa N ka) (MBox r c sb N kb) (MBox 0 0 none 0 0) (MBox r c (some ⟨g, 0, none⟩) N N)) := by
    refine ⟨(HT4.out.trans (h2.mono HT4.out.size)).trans (hal.mono (Nat.le_trans HT4.out.size h2.size)), blkM (blkM HT1.out h2) hal, blkM (blkM HT2.out h2) hal, blkM (blkM HT3.out h2) hal, ?_⟩
    rw [← hmb.out]
    exact nblkM _ _
  have HR0 : Hid ((w1.alloc (MBox r c (some ⟨g, 0, none⟩) N N)).rowIs g 51 N (fun _ => .float .f64 0)) := h1.of_block (hal.block _ hlt)
  have HNE : Hid (p0 ≠ g ∧ p1 ≠ g ∧ rb ≠ g ∧ mb ≠ g ∧ w.heap.size ≤ g) := by
    have e1 := hp0.out; have e2 := hp1.out; have e3 := hrb.out; have e4 := hmb.out; have e5 := hg.out; have e6 := HT5.out
    show _ ∧ _ ∧ _ ∧ _ ∧ _
    omega
  have HRB : Hid (w.heap.size ≤ rb) := by
    have e1 := hp0.out; have e2 := hp1.out; have e3 := hrb.out
    show _ ≤ _
    omega
  obtain ⟨V1, hV1⟩ : ∃ V, Hid (w1.alloc (MBox r c (some ⟨g, 0, none⟩) N N) = V) := ⟨_, rfl⟩
  rw [hV1.out] at HFR HR0
  have hW1 := hV1.out
  have hmb' := hmb.out
  unfold MBox at hW1
  unfold MV
  clear h1 h2 hal HZ hlt x0 x1 x2 v0 v1 v2
  go_wp2_with fail
  go_loopw [9] (fun iv wr => ∃ (i : Nat) (o : Nat → Nat), i ≤ N ∧ iv = .int .i64 i ∧ Hid (wr.rowIs g 51 N (fun k => .float .f64 (o k))) ∧ Hid (∀ k, k < i → canonOf (o k) = caf .sub (canonOf (f k)) (canonOf (f2 k)) ∧ o k < 18446744073709551616) ∧ Hid (Fr5 w wr p0 p1 rb mb (MBox r c sa N ka) (MBox r c sb N kb) (MBox 0 0 none 0 0) (MBox r c (some ⟨g, 0, none⟩) N N))) (fun iv _ => N - (intOf iv).toNat)
  case atStart => exact ⟨0, fun _ => 0, Nat.zero_le _, rfl, HR0, fun k hk => absurd hk (Nat.not_lt_zero k), HFR⟩
  case round =>
    obtain ⟨i, o, hi, rfl, HR, HP, HFW⟩ := hrel
    obtain ⟨m0, m1, m2⟩ := mcells_of HFW.out.2.2.2.2
    have h144 := HNN.out.2.2
    by_cases hlt : i < N
    · have hiI : (i : Int) < (N : Int) := by omega
      have hi0 : (0 : Int) ≤ (i : Int) := by omega
      obtain ⟨ba, oa, hsa, hba, _, _, hca⟩ : ∃ b off, sa = some ⟨b, off, none⟩ ∧ b < w.heap.size ∧ N ≤ ka ∧ ka ≤ 9223372036854775807 ∧ ∀ j, j < N → w.cell? ⟨b, off + j, none⟩ = some (.float .f64 (f j)) ∧ f j < 18446744073709551616 := by
        rcases HFA.out with ⟨_, h, _⟩ | h
        · omega
        · exact h
      obtain ⟨bb, ob, hsb, hbb, _, _, hcb⟩ : ∃ b off, sb = some ⟨b, off, none⟩ ∧ b < w.heap.size ∧ N ≤ kb ∧ kb ≤ 9223372036854775807 ∧ ∀ j, j < N → w.cell? ⟨b, off + j, none⟩ = some (.float .f64 (f2 j)) ∧ f2 j < 18446744073709551616 := by
        rcases HFB.out with ⟨_, h, _⟩ | h
        · omega
        · exact h
      subst hsa hsb
      obtain ⟨z, hz, hzl, hzc⟩ := fin_some ok_s w (f i) (f2 i) (hca i hlt).2 (hcb i hlt).2 (HXA.out i hlt).2 (HXB.out i hlt).2
      have HKS : Hid (∀ W, Hid (Fr5 w W p0 p1 rb mb (MBox r c (some ⟨ba, oa, none⟩) N ka) (MBox r c (some ⟨bb, ob, none⟩) N kb) (MBox 0 0 none 0 0) (MBox r c (some ⟨g, 0, none⟩) N N)) → (W.cell? ⟨mb, 0, none⟩ = some (.int .i64 r) ∧ W.cell? ⟨mb, 1, none⟩ = some (.int .i64 c) ∧ W.cell? ⟨mb, 2, none⟩ = some (.slice (some ⟨g, 0, none⟩) N N) ∧ W.cell? ⟨p0, 2, none⟩ = some (.slice (some ⟨ba, oa, none⟩) N ka) ∧ W.cell? ⟨p1, 2, none⟩ = some (.slice (some ⟨bb, ob, none⟩) N kb) ∧ W.cell? ⟨ba, oa + i, none⟩ = some (.float .f64 (f i)) ∧ W.cell? ⟨bb, ob + i, none⟩ = some (.float .f64 (f2 i))) ∧ Hid (Fr5 w W p0 p1 rb mb (MBox r c (some ⟨ba, oa, none⟩) N ka) (MBox r c (some ⟨bb, ob, none⟩) N kb) (MBox 0 0 none 0 0) (MBox r c (some ⟨g, 0, none⟩) N N))) := fun W hW => by
        obtain ⟨a0, a1, a2⟩ := mcells_of hW.out.2.1
        obtain ⟨b0, b1, b2⟩ := mcells_of hW.out.2.2.1
        obtain ⟨n0, n1, n2⟩ := mcells_of hW.out.2.2.2.2
        exact ⟨⟨n0, n1, n2, a2, b2, (hW.out.1.cell (p := ⟨ba, oa + i, none⟩) hba).trans (hca i hlt).1, (hW.out.1.cell (p := ⟨bb, ob + i, none⟩) hbb).trans (hcb i hlt).1⟩, hW⟩
      have HCELL : Hid (wr.drew.cell? ⟨g, i, none⟩ = some (.float .f64 (o i))) := HR.out.cell hlt
      have HFRZ : Hid (wr.drew.frozen? ⟨g, i, none⟩ = false) := HR.out.frozen _
      have HQ0 : Hid (Fr5 w wr.drew p0 p1 rb mb (MBox r c (some ⟨ba, oa, none⟩) N ka) (MBox r c (some ⟨bb, ob, none⟩) N kb) (MBox 0 0 none 0 0) (MBox r c (some ⟨g, 0, none⟩) N N)) := HFW.out.drew
      have HG4 : Hid (Fr5 w (wr.drew.setCell ⟨g, i, none⟩ (.float .f64 z)) p0 p1 rb mb (MBox r c (some ⟨ba, oa, none⟩) N ka) (MBox r c (some ⟨bb, ob, none⟩) N kb) (MBox 0 0 none 0 0) (MBox r c (some ⟨g, 0, none⟩) N N)) := HQ0.out.set HNE.out.1 HNE.out.2.1 HNE.out.2.2.1 HNE.out.2.2.2.1 HNE.out.2.2.2.2 _
      have HRD : Hid (wr.drew.rowIs g 51 N (fun k => .float .f64 (o k))) := HR.out.of_block rfl
      have HR4 : Hid ((wr.drew.setCell ⟨g, i, none⟩ (.float .f64 z)).rowIs g 51 N (fun t => .float .f64 (if t = i then z else o t))) := by
        refine (HRD.out.set i _).congr (fun t _ => ?_)
        by_cases ht : t = i <;> simp [ht]
      have HP4 : Hid (∀ k, k < i + 1 → canonOf (if k = i then z else o k) = caf .sub (canonOf (f k)) (canonOf (f2 k)) ∧ (if k = i then z else o k) < 18446744073709551616) := fun k hk => by
        by_cases hki : k = i
        · rw [if_pos hki, hki]; exact ⟨hzc, hzl⟩
        · rw [if_neg hki]; exact HP.out k (by omega)
      have hrun := f_sub hz
      have HLT := hid hlt
      obtain ⟨x, hx⟩ : ∃ t, Hid (f i = t) := ⟨_, rfl⟩
      obtain ⟨y, hy⟩ : ∃ t, Hid (f2 i = t) := ⟨_, rfl⟩
      rw [hx.out, hy.out] at HKS hrun
      clear hz hzl hzc hca hcb hba hbb hlt
      go_wp2_with fail
      refine wp_region_held_drew (S := fun W => (W.cell? ⟨mb, 0, none⟩ = some (.int .i64 r) ∧ W.cell? ⟨mb, 1, none⟩ = some (.int .i64 c) ∧ W.cell? ⟨mb, 2, none⟩ = some (.slice (some ⟨g, 0, none⟩) N N) ∧ W.cell? ⟨p0, 2, none⟩ = some (.slice (some ⟨ba, oa, none⟩) N ka) ∧ W.cell? ⟨p1, 2, none⟩ = some (.slice (some ⟨bb, ob, none⟩) N kb) ∧ W.cell? ⟨ba, oa + i, none⟩ = some (.float .f64 x) ∧ W.cell? ⟨bb, ob + i, none⟩ = some (.float .f64 y)) ∧ Hid (Fr5 w W p0 p1 rb mb (MBox r c (some ⟨ba, oa, none⟩) N ka) (MBox r c (some ⟨bb, ob, none⟩) N kb) (MBox 0 0 none 0 0) (MBox r c (some ⟨g, 0, none⟩) N N))) (by kernel_rfl) (HKS.out _ HQ0) (fun hHeld => ?_)
      refine take_at 0 36 (.pointer (some ⟨mb, 2, none⟩)) rfl rfl (by kernel_rfl) (by kernel_rfl) (by kernel_rfl) (fun _ _ _ h => h) (Or.inl ⟨by rfl, fun w hSw => by (try dsimp only at hSw); go_simp⟩) (by assumption) ?_
      simp only [Act.put, List.setIfInBounds_toArray, List.set_cons_zero, List.set_cons_succ]
      refine take_at 1 37 (.slice (some ⟨g, 0, none⟩) N N) rfl rfl (by kernel_rfl) (by kernel_rfl) (by kernel_rfl) (fun _ _ _ h => h) (Or.inl ⟨by rfl, fun w hSw => by (try dsimp only at hSw); go_simp⟩) (by assumption) ?_
      simp only [Act.put, List.setIfInBounds_toArray, List.set_cons_zero, List.set_cons_succ]
      refine take_at 2 38 (.int .i64 i) rfl rfl (by kernel_rfl) (by kernel_rfl) (by kernel_rfl) (fun _ _ _ h => h) (Or.inl ⟨by rfl, fun w hSw => by (try dsimp only at hSw); go_simp⟩) (by assumption) ?_
      simp only [Act.put, List.setIfInBounds_toArray, List.set_cons_zero, List.set_cons_succ]
      refine take_at 3 39 (.pointer (some ⟨p0, 2, none⟩)) rfl rfl (by kernel_rfl) (by kernel_rfl) (by kernel_rfl) (fun _ _ _ h => h) (Or.inl ⟨by rfl, fun w hSw => by (try dsimp only at hSw); go_simp⟩) (by assumption) ?_
      simp only [Act.put, List.setIfInBounds_toArray, List.set_cons_zero, List.set_cons_succ]
      refine take_at 4 40 (.slice (some ⟨ba, oa, none⟩) N ka) rfl rfl (by kernel_rfl) (by kernel_rfl) (by kernel_rfl) (fun _ _ _ h => h) (Or.inl ⟨by rfl, fun w hSw => by (try dsimp only at hSw); go_simp⟩) (by assumption) ?_
      simp only [Act.put, List.setIfInBounds_toArray, List.set_cons_zero, List.set_cons_succ]
      refine take_at 5 41 (.int .i64 i) rfl rfl (by kernel_rfl) (by kernel_rfl) (by kernel_rfl) (fun _ _ _ h => h) (Or.inl ⟨by rfl, fun w hSw => by (try dsimp only at hSw); go_simp⟩) (by assumption) ?_
      simp only [Act.put, List.setIfInBounds_toArray, List.set_cons_zero, List.set_cons_succ]
      refine take_at 6 42 (.pointer (some ⟨ba, oa + i, none⟩)) rfl rfl (by kernel_rfl) (by kernel_rfl) (by kernel_rfl) (fun _ _ _ h => h) (Or.inl ⟨by rfl, fun w hSw => by (try dsimp only at hSw); go_simp⟩) (by assumption) ?_
      simp only [Act.put, List.setIfInBounds_toArray, List.set_cons_zero, List.set_cons_succ]
      refine take_at 7 43 (.float .f64 x) rfl rfl (by kernel_rfl) (by kernel_rfl) (by kernel_rfl) (fun _ _ _ h => h) (Or.inl ⟨by rfl, fun w hSw => by (try dsimp only at hSw); go_simp⟩) (by assumption) ?_
      simp only [Act.put, List.setIfInBounds_toArray, List.set_cons_zero, List.set_cons_succ]
      refine take_at 8 44 (.pointer (some ⟨p1, 2, none⟩)) rfl rfl (by kernel_rfl) (by kernel_rfl) (by kernel_rfl) (fun _ _ _ h => h) (Or.inl ⟨by rfl, fun w hSw => by (try dsimp only at hSw); go_simp⟩) (by assumption) ?_
      simp only [Act.put, List.setIfInBounds_toArray, List.set_cons_zero, List.set_cons_succ]
      refine take_at 9 45 (.slice (some ⟨bb, ob, none⟩) N kb) rfl rfl (by kernel_rfl) (by kernel_rfl) (by kernel_rfl) (fun _ _ _ h => h) (Or.inl ⟨by rfl, fun w hSw => by (try dsimp only at hSw); go_simp⟩) (by assumption) ?_
      simp only [Act.put, List.setIfInBounds_toArray, List.set_cons_zero, List.set_cons_succ]
      refine take_at 10 46 (.int .i64 i) rfl rfl (by kernel_rfl) (by kernel_rfl) (by kernel_rfl) (fun _ _ _ h => h) (Or.inl ⟨by rfl, fun w hSw => by (try dsimp only at hSw); go_simp⟩) (by assumption) ?_
      simp only [Act.put, List.setIfInBounds_toArray, List.set_cons_zero, List.set_cons_succ]
      refine take_at 11 47 (.pointer (some ⟨bb, ob + i, none⟩)) rfl rfl (by kernel_rfl) (by kernel_rfl) (by kernel_rfl) (fun _ _ _ h => h) (Or.inl ⟨by rfl, fun w hSw => by (try dsimp only at hSw); go_simp⟩) (by assumption) ?_
      simp only [Act.put, List.setIfInBounds_toArray, List.set_cons_zero, List.set_cons_succ]
      refine take_at 12 48 (.float .f64 y) rfl rfl (by kernel_rfl) (by kernel_rfl) (by kernel_rfl) (fun _ _ _ h => h) (Or.inl ⟨by rfl, fun w hSw => by (try dsimp only at hSw); go_simp⟩) (by assumption) ?_
      simp only [Act.put, List.setIfInBounds_toArray, List.set_cons_zero, List.set_cons_succ]
      refine take_at 13 49 (.float .f64 z) rfl rfl (by kernel_rfl) (by kernel_rfl) (by kernel_rfl) (fun _ _ _ h => h) (Or.inl ⟨by rfl, fun w hSw => by (try dsimp only at hSw); go_simp⟩) (by assumption) ?_
      simp only [Act.put, List.setIfInBounds_toArray, List.set_cons_zero, List.set_cons_succ]
      refine take_at 14 50 (.pointer (some ⟨g, i, none⟩)) rfl rfl (by kernel_rfl) (by kernel_rfl) (by kernel_rfl) (fun _ _ _ h => h) (Or.inl ⟨by rfl, fun w hSw => by (try dsimp only at hSw); go_simp⟩) (by assumption) ?_
      simp only [Act.put, List.setIfInBounds_toArray, List.set_cons_zero, List.set_cons_succ]
      refine wpAnyH_ready (rs := [15]) (by kernel_rfl) (by simp) ?_
      refine AllReadyH.cons (o := _) rfl (fun K hK => ?_) AllReadyH.nil
      have zc := HCELL.out
      have fzz := HFRZ.out
      go_simp
      go_wp2_with fail
      refine hK.out _ _ (HKS.out _ HG4) (fun hHeld4 => ?_)
      clear hK K
      try simp only [Act.put, List.setIfInBounds_toArray, List.set_cons_zero, List.set_cons_succ]
      refine wpAnyH_done (by kernel_rfl) ?_ _
      go_wp2_with fail
      have hi1 := HLT.out
      refine ⟨⟨i + 1, fun t => if t = i then z else o t, by omega, by go_num, HR4, HP4, HG4⟩, ?_⟩
      simp [intOf]; omega
    · obtain rfl : i = N := by omega
      have HFO := hid (HOV.out wr o (rowF (HR.out) (fun k hk => (HP.out k hk).2) h144))
      obtain ⟨X0, X1, X2, X3, X4, hXX⟩ : ∃ a b s m k, Hid ((if finF i o = true then MV r c (some ⟨g, 0, none⟩) i i else MV 0 0 none 0 0) = MV a b s m k) := by
        by_cases q : finF i o = true
        · exact ⟨r, c, _, _, _, by show _ = _; rw [if_pos q]⟩
        · exact ⟨0, 0, _, _, _, by show _ = _; rw [if_neg q]⟩
      obtain ⟨E, hE⟩ : ∃ E, Hid ((if finF i o = true then 0 else 5 : Int) = E) := ⟨_, rfl⟩
      have HFN := hid (rowF (HR.out) (fun k hk => (HP.out k hk).2) h144)
      rw [hXX.out, hE.out] at HFO
      unfold MV at HFO
      go_wp2_with fail
      refine HFO.out.mono ?_
      rintro e w3 ⟨rfl, hk3, hb3⟩
      have HFR3 := hid (HFW.out.call hb3)
      have HFN3 := hid (hk3 _ _ _ _ HFN.out)
      obtain ⟨y0, y1, y2⟩ := mcells_of HFR3.out.2.2.2.1
      have fz := frzM HFR3.out.2.2.2.1
      clear hb3 hk3
      go_wp2_with fail
      refine bodyPost_ret (v := AnsM r c i g o) (by unfold AnsM; rw [hXX.out, hE.out]; simp [results, Try.results50, go_sem, y0, y1, y2, MV]) rfl ⟨⟨g, o, rfl, StoM.fn HFN3.out HFR3.out.2.2.2.1, fun a b ha hb => ?_⟩, StoM.below HFR3.out.1 HRB.out⟩
      exact (HP.out _ (by rw [← hN.out]; exact place_lt ha hb)).1
set_option maxRecDepth 4000 in
set_option maxHeartbeats 1000000 in
theorem rAdd_shape (r c r2 c2 : Int) (n n2 : Nat) (sa sb : Option Addr) (ka kb : Nat) (d : Bool) (w : World) (hs : r ≠ r2 ∨ c ≠ c2) :
    Calls Try.prog 50 #[MV r c sa n ka, MV r2 c2 sb n2 kb, .bool d] w fun e w' => e = .returned (NonM 3) ∧ Below w.heap.size w w' := by
  obtain ⟨t1, t2, t3, t4, t5⟩ := three_b w (MBox r c sa n ka) (MBox r2 c2 sb n2 kb) (MBox 0 0 none 0 0)
  obtain ⟨V, hV⟩ : ∃ V, Hid (((w.alloc (MBox r c sa n ka)).alloc (MBox r2 c2 sb n2 kb)).alloc (MBox 0 0 none 0 0) = V) := ⟨_, rfl⟩
  rw [hV.out] at t1 t2 t3 t4 t5
  have hV' := hV.out
  have HB := hid t4
  obtain ⟨x0, x1, x2⟩ := mcells_of t1
  obtain ⟨v0, v1, v2⟩ := mcells_of t2
  obtain ⟨r0, r1, r2'⟩ := mcells_of t3
  have fz := frzM t3
  unfold MBox at hV'
  unfold NonM
  unfold MV
  clear t1 t2 t3 t4 t5
  by_cases h1 : r = r2
  · have hne : (c != c2) = true := by simp; rcases hs with h | h <;> omega
    have hn1 : (r != r2) = false := by simp; omega
    clear hs h1
    go_enter Try.func50, Try.ntmps50
    go_wp2_with fail
    exact bodyPost_ret (v := .tuple #[MV 0 0 none 0 0, .int .i64 3]) (by simp [results, Try.results50, go_sem, r0, r1, r2', MV]) rfl ⟨rfl, StoM.below HB.out (by omega)⟩
  · have hne : (r != r2) = true := by simp; omega
    clear hs h1
    go_enter Try.func50, Try.ntmps50
    go_wp2_with fail
    exact bodyPost_ret (v := .tuple #[MV 0 0 none 0 0, .int .i64 3]) (by simp [results, Try.results50, go_sem, r0, r1, r2', MV]) rfl ⟨rfl, StoM.below HB.out (by omega)⟩
theorem rAdd_tot (rx cx : Int) (sa : Option Addr) (n ka : Nat) (xs : List Nat) (ry cy : Int) (sb : Option Addr) (m kb : Nat) (ys : List Nat) (w : World) (ha : FlM w sa n ka xs) (hb : FlM w sb m kb ys) (h : first2 (chkM rx cx n xs) (chkM ry cy m ys) = 0) :
    Calls Try.prog 50 #[.agg #[.int .i64 rx, .int .i64 cx, .slice sa n ka], .agg #[.int .i64 ry, .int .i64 cy, .slice sb m kb], .bool false] w fun e w' => (∃ X0 X1 X2 X3 X4, e = .returned (.tuple #[.agg #[.int .i64 X0, .int .i64 X1, .slice X2 X3 X4], .int .i64 (addT .add rx cx n xs ry cy m ys)]) ∧ ResM (addT .add rx cx n xs ry cy m ys) rx.toNat cx.toNat (addV .add xs ys cx.toNat) w' X0 X1 X2 X3 X4) ∧ Below w.heap.size w w' := by
  unfold addT
  rw [if_pos h]
  obtain ⟨h1, h2⟩ := first2_zero h
  obtain ⟨r, c, rfl, rfl, hga⟩ := gd_of ha h1
  obtain ⟨r2, c2, rfl, rfl, hgb⟩ := gd_of hb h2
  show Calls _ _ _ _ (fun e w' => (∃ X0 X1 X2 X3 X4, e = .returned (.tuple #[.agg #[.int .i64 X0, .int .i64 X1, .slice X2 X3 X4], .int .i64 (addE r c r2 c2 (addV .add xs ys c))]) ∧ ResM (addE r c r2 c2 (addV .add xs ys c)) r c (addV .add xs ys c) w' X0 X1 X2 X3 X4) ∧ Below w.heap.size w w')
  by_cases hs : r = r2 ∧ c = c2
  · obtain ⟨rfl, rfl⟩ := hs
    refine (rAdd_ok r c n m sa sb ka kb _ _ w hga hgb).mono ?_
    rintro e w' ⟨⟨g, o, rfl, hf, hv2⟩, hbb⟩
    obtain ⟨X0, X1, X2, X3, X4, e1, e2⟩ := res_of r c g o (addV .add xs ys c) (addE r c r c (addV .add xs ys c)) w' (by unfold addE; rw [if_neg (fun h => h ⟨rfl, rfl⟩)]) hf hv2
    exact ⟨⟨X0, X1, X2, X3, X4, by rw [e1], e2⟩, hbb⟩
  · refine (rAdd_shape r c r2 c2 n m sa sb ka kb false w (by
      by_cases q : r = r2
      · exact Or.inr (fun hc => hs ⟨q, by omega⟩)
      · exact Or.inl (by omega))).mono ?_
    rintro e w' ⟨rfl, hbb⟩
    have e3 : addE r c r2 c2 (addV .add xs ys c) = 3 := by unfold addE; rw [if_pos hs]
    obtain ⟨X0, X1, X2, X3, X4, e1, e2⟩ := res_non r c (addV .add xs ys c) (addE r c r2 c2 (addV .add xs ys c)) w' (by rw [e3]; decide)
    exact ⟨⟨X0, X1, X2, X3, X4, by rw [← e1, e3], e2⟩, hbb⟩
theorem rSub_tot (rx cx : Int) (sa : Option Addr) (n ka : Nat) (xs : List Nat) (ry cy : Int) (sb : Option Addr) (m kb : Nat) (ys : List Nat) (w : World) (ha : FlM w sa n ka xs) (hb : FlM w sb m kb ys) (h : first2 (chkM rx cx n xs) (chkM ry cy m ys) = 0) :
    Calls Try.prog 50 #[.agg #[.int .i64 rx, .int .i64 cx, .slice sa n ka], .agg #[.int .i64 ry, .int .i64 cy, .slice sb m kb], .bool true] w fun e w' => (∃ X0 X1 X2 X3 X4, e = .returned (.tuple #[.agg #[.int .i64 X0, .int .i64 X1, .slice X2 X3 X4], .int .i64 (addT .sub rx cx n xs ry cy m ys)]) ∧ ResM (addT .sub rx cx n xs ry cy m ys) rx.toNat cx.toNat (addV .sub xs ys cx.toNat) w' X0 X1 X2 X3 X4) ∧ Below w.heap.size w w' := by
  unfold addT
  rw [if_pos h]
  obtain ⟨h1, h2⟩ := first2_zero h
  obtain ⟨r, c, rfl, rfl, hga⟩ := gd_of ha h1
  obtain ⟨r2, c2, rfl, rfl, hgb⟩ := gd_of hb h2
  show Calls _ _ _ _ (fun e w' => (∃ X0 X1 X2 X3 X4, e = .returned (.tuple #[.agg #[.int .i64 X0, .int .i64 X1, .slice X2 X3 X4], .int .i64 (addE r c r2 c2 (addV .sub xs ys c))]) ∧ ResM (addE r c r2 c2 (addV .sub xs ys c)) r c (addV .sub xs ys c) w' X0 X1 X2 X3 X4) ∧ Below w.heap.size w w')
  by_cases hs : r = r2 ∧ c = c2
  · obtain ⟨rfl, rfl⟩ := hs
    refine (rSub_ok r c n m sa sb ka kb _ _ w hga hgb).mono ?_
    rintro e w' ⟨⟨g, o, rfl, hf, hv2⟩, hbb⟩
    obtain ⟨X0, X1, X2, X3, X4, e1, e2⟩ := res_of r c g o (addV .sub xs ys c) (addE r c r c (addV .sub xs ys c)) w' (by unfold addE; rw [if_neg (fun h => h ⟨rfl, rfl⟩)]) hf hv2
    exact ⟨⟨X0, X1, X2, X3, X4, by rw [e1], e2⟩, hbb⟩
  · refine (rAdd_shape r c r2 c2 n m sa sb ka kb true w (by
      by_cases q : r = r2
      · exact Or.inr (fun hc => hs ⟨q, by omega⟩)
      · exact Or.inl (by omega))).mono ?_
    rintro e w' ⟨rfl, hbb⟩
    have e3 : addE r c r2 c2 (addV .sub xs ys c) = 3 := by unfold addE; rw [if_pos hs]
    obtain ⟨X0, X1, X2, X3, X4, e1, e2⟩ := res_non r c (addV .sub xs ys c) (addE r c r2 c2 (addV .sub xs ys c)) w' (by rw [e3]; decide)
    exact ⟨⟨X0, X1, X2, X3, X4, by rw [← e1, e3], e2⟩, hbb⟩
end Go.Proofs.Ythnblidkbcficaa
