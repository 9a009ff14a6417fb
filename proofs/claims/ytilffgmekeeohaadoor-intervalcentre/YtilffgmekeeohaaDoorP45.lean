
/- interval's product at the chapter's first examples. (Written by mkivj.py.) -/
import Derived.Test.YtilffgmekeeohaaDoorP44
namespace Go.Proofs.YtilffgmekeeohaaDoor
open Go.RowKit Go.IntWalk

theorem pcells_of {W : World} {b : Nat} {v0 v1 v2 : Value} {T : TypeId} (h : W.heap[b]? = some (.cells #[v0, v1, v2] T)) : W.cell? ⟨b, 0, none⟩ = some v0 ∧ W.cell? ⟨b, 1, none⟩ = some v1 ∧ W.cell? ⟨b, 2, none⟩ = some v2 :=
  ⟨by simp [World.cell?, h], by simp [World.cell?, h], by simp [World.cell?, h]⟩
set_option maxHeartbeats 1000000 in
theorem mul64_1_1 (w : World) : Calls Tryd.prog 57 #[.int .u64 1, .int .u64 1] w fun r w' => r = .returned (.tuple #[.int .u64 0, .int .u64 1]) ∧ w' = w := by
  have m1 : bits .and .u64 1 4294967295 = 1 := by decide +kernel
  have m2 : bits .and .u64 1 4294967295 = 1 := by decide +kernel
  have m3 : bits .and .u64 0 4294967295 = 0 := by decide +kernel
  have m4 : bits .and .u64 1 4294967295 = 1 := by decide +kernel
  go_enter Tryd.func57, Tryd.ntmps57
  go_wp2
  go_ret2
  exact ⟨by first | rfl | simp, rfl⟩
set_option maxHeartbeats 1000000 in
theorem mul64_1_3 (w : World) : Calls Tryd.prog 57 #[.int .u64 1, .int .u64 3] w fun r w' => r = .returned (.tuple #[.int .u64 0, .int .u64 3]) ∧ w' = w := by
  have m1 : bits .and .u64 1 4294967295 = 1 := by decide +kernel
  have m2 : bits .and .u64 3 4294967295 = 3 := by decide +kernel
  have m3 : bits .and .u64 0 4294967295 = 0 := by decide +kernel
  have m4 : bits .and .u64 3 4294967295 = 3 := by decide +kernel
  go_enter Tryd.func57, Tryd.ntmps57
  go_wp2
  go_ret2
  exact ⟨by first | rfl | simp, rfl⟩
set_option maxHeartbeats 2000000 in
theorem product_m1_m3 (to : Bool) (w : World) (hT : Tab w) (hs : 1 < w.heap.size) : Calls Tryd.prog 37 #[.float .f64 13830554455654793216, .float .f64 13837309855095848960, .bool to] w fun r w' => r = .returned (.float .f64 4613937818241073152) ∧ Below w.heap.size w w' := by
  have o1 : (FloatKind.f64.format.order 13830554455654793216 0 == some .eq) = false := by decide +kernel
  have o2 : (FloatKind.f64.format.order 13837309855095848960 0 == some .eq) = false := by decide +kernel
  have HP := hid (fun (W : World) hT hs => Parts_any 13830554455654793216 W (by decide) hT hs)
  have HQ := hid (fun (W : World) hT hs => Parts_any 13837309855095848960 W (by decide) hT hs)
  rw [show pNeg 13830554455654793216 = true by decide +kernel, show pMant 13830554455654793216 = 1 by decide +kernel, show pExp 13830554455654793216 = 0 by decide +kernel, show pErr 13830554455654793216 = 0 by decide +kernel] at HP
  rw [show pNeg 13837309855095848960 = true by decide +kernel, show pMant 13837309855095848960 = 3 by decide +kernel, show pExp 13837309855095848960 = 0 by decide +kernel, show pErr 13837309855095848960 = 0 by decide +kernel] at HQ
  have HT : Hid (∀ W, Below w.heap.size w W → Tab W ∧ 1 < W.heap.size) := fun W hW => ⟨hT.below hs hW, Nat.lt_of_lt_of_le hs hW.size⟩
  clear hT hs
  go_enter Tryd.func37, Tryd.ntmps37
  go_wp2_with fail
  refine (HP.out _ (HT.out _ (Below.refl _ _)).1 (HT.out _ (Below.refl _ _)).2).mono ?_
  rintro r w1 ⟨rfl, hb1⟩
  have HB1 := hid hb1
  clear hb1
  have HG1 := hid (inew w1 (.cells #[.bool true, .int .u64 1, .int .i64 0] 57))
  have HBV := hid (HB1.out.alloc HB1.out.size (.cells #[.bool true, .int .u64 1, .int .i64 0] 57))
  go_wp2_with fail
  refine (HQ.out _ (HT.out _ HBV.out).1 (HT.out _ HBV.out).2).mono ?_
  rintro r w2 ⟨rfl, hb2⟩
  have HB2 := hid (HBV.out.trans (hb2.mono HBV.out.size))
  have k1 : w2.heap[w1.heap.size]? = some (.cells #[.bool true, .int .u64 1, .int .i64 0] 57) := (hb2.block _ (Array.getElem?_eq_some_iff.1 HG1.out).1).trans HG1.out
  obtain ⟨c0, c1, c2⟩ := pcells_of k1
  have HBW := hid (HB2.out.alloc HB2.out.size (.cells #[.bool true, .int .u64 3, .int .i64 0] 57))
  have hlt : w1.heap.size < w2.heap.size := (Array.getElem?_eq_some_iff.1 k1).1
  have hne : ¬ w1.heap.size = w2.heap.size := by omega
  clear hb2 k1
  go_wp2_with fail
  refine (mul64_1_3 _).mono ?_
  rintro r w3 ⟨rfl, rfl⟩
  go_wp2_with fail
  have HBX := hid (HBW.out.alloc HBW.out.size (.cells #[.int .u64 3, .int .u64 0] 22))
  obtain ⟨t0, t1, _⟩ := icells_of (show ((w2.alloc (.cells #[.bool true, .int .u64 3, .int .i64 0] 57)).alloc (.cells #[.int .u64 3, .int .u64 0] 22)).heap[w2.heap.size + 1]? = some (.cells #[.int .u64 3, .int .u64 0] 22) from (iblk2 w2 _ _).2)
  refine (rounded_3_0_false (w2.heap.size + 1) to _ t0 t1 (HT.out _ HBX.out).1 (HT.out _ HBX.out).2).mono ?_
  rintro r w4 ⟨rfl, hb4⟩
  have HB4 := hid (HBX.out.trans (hb4.mono HBX.out.size))
  clear hb4 t0 t1
  go_wp2
  go_ret
  exact ⟨by first | rfl | simp, HB4.out⟩
set_option maxHeartbeats 2000000 in
theorem product_m1_4 (to : Bool) (w : World) (hT : Tab w) (hs : 1 < w.heap.size) : Calls Tryd.prog 37 #[.float .f64 13830554455654793216, .float .f64 4616189618054758400, .bool to] w fun r w' => r = .returned (.float .f64 13839561654909534208) ∧ Below w.heap.size w w' := by
  have o1 : (FloatKind.f64.format.order 13830554455654793216 0 == some .eq) = false := by decide +kernel
  have o2 : (FloatKind.f64.format.order 4616189618054758400 0 == some .eq) = false := by decide +kernel
  have HP := hid (fun (W : World) hT hs => Parts_any 13830554455654793216 W (by decide) hT hs)
  have HQ := hid (fun (W : World) hT hs => Parts_any 4616189618054758400 W (by decide) hT hs)
  rw [show pNeg 13830554455654793216 = true by decide +kernel, show pMant 13830554455654793216 = 1 by decide +kernel, show pExp 13830554455654793216 = 0 by decide +kernel, show pErr 13830554455654793216 = 0 by decide +kernel] at HP
  rw [show pNeg 4616189618054758400 = false by decide +kernel, show pMant 4616189618054758400 = 1 by decide +kernel, show pExp 4616189618054758400 = 2 by decide +kernel, show pErr 4616189618054758400 = 0 by decide +kernel] at HQ
  have HT : Hid (∀ W, Below w.heap.size w W → Tab W ∧ 1 < W.heap.size) := fun W hW => ⟨hT.below hs hW, Nat.lt_of_lt_of_le hs hW.size⟩
  clear hT hs
  go_enter Tryd.func37, Tryd.ntmps37
  go_wp2_with fail
  refine (HP.out _ (HT.out _ (Below.refl _ _)).1 (HT.out _ (Below.refl _ _)).2).mono ?_
  rintro r w1 ⟨rfl, hb1⟩
  have HB1 := hid hb1
  clear hb1
  have HG1 := hid (inew w1 (.cells #[.bool true, .int .u64 1, .int .i64 0] 57))
  have HBV := hid (HB1.out.alloc HB1.out.size (.cells #[.bool true, .int .u64 1, .int .i64 0] 57))
  go_wp2_with fail
  refine (HQ.out _ (HT.out _ HBV.out).1 (HT.out _ HBV.out).2).mono ?_
  rintro r w2 ⟨rfl, hb2⟩
  have HB2 := hid (HBV.out.trans (hb2.mono HBV.out.size))
  have k1 : w2.heap[w1.heap.size]? = some (.cells #[.bool true, .int .u64 1, .int .i64 0] 57) := (hb2.block _ (Array.getElem?_eq_some_iff.1 HG1.out).1).trans HG1.out
  obtain ⟨c0, c1, c2⟩ := pcells_of k1
  have HBW := hid (HB2.out.alloc HB2.out.size (.cells #[.bool false, .int .u64 1, .int .i64 2] 57))
  have hlt : w1.heap.size < w2.heap.size := (Array.getElem?_eq_some_iff.1 k1).1
  have hne : ¬ w1.heap.size = w2.heap.size := by omega
  clear hb2 k1
  go_wp2_with fail
  refine (mul64_1_1 _).mono ?_
  rintro r w3 ⟨rfl, rfl⟩
  go_wp2_with fail
  have HBX := hid (HBW.out.alloc HBW.out.size (.cells #[.int .u64 1, .int .u64 0] 22))
  obtain ⟨t0, t1, _⟩ := icells_of (show ((w2.alloc (.cells #[.bool false, .int .u64 1, .int .i64 2] 57)).alloc (.cells #[.int .u64 1, .int .u64 0] 22)).heap[w2.heap.size + 1]? = some (.cells #[.int .u64 1, .int .u64 0] 22) from (iblk2 w2 _ _).2)
  refine (rounded_1_2_true (w2.heap.size + 1) to _ t0 t1 (HT.out _ HBX.out).1 (HT.out _ HBX.out).2).mono ?_
  rintro r w4 ⟨rfl, hb4⟩
  have HB4 := hid (HBX.out.trans (hb4.mono HBX.out.size))
  clear hb4 t0 t1
  go_wp2
  go_ret
  exact ⟨by first | rfl | simp, HB4.out⟩
set_option maxHeartbeats 2000000 in
theorem product_2_m3 (to : Bool) (w : World) (hT : Tab w) (hs : 1 < w.heap.size) : Calls Tryd.prog 37 #[.float .f64 4611686018427387904, .float .f64 13837309855095848960, .bool to] w fun r w' => r = .returned (.float .f64 13841813454723219456) ∧ Below w.heap.size w w' := by
  have o1 : (FloatKind.f64.format.order 4611686018427387904 0 == some .eq) = false := by decide +kernel
  have o2 : (FloatKind.f64.format.order 13837309855095848960 0 == some .eq) = false := by decide +kernel
  have HP := hid (fun (W : World) hT hs => Parts_any 4611686018427387904 W (by decide) hT hs)
  have HQ := hid (fun (W : World) hT hs => Parts_any 13837309855095848960 W (by decide) hT hs)
  rw [show pNeg 4611686018427387904 = false by decide +kernel, show pMant 4611686018427387904 = 1 by decide +kernel, show pExp 4611686018427387904 = 1 by decide +kernel, show pErr 4611686018427387904 = 0 by decide +kernel] at HP
  rw [show pNeg 13837309855095848960 = true by decide +kernel, show pMant 13837309855095848960 = 3 by decide +kernel, show pExp 13837309855095848960 = 0 by decide +kernel, show pErr 13837309855095848960 = 0 by decide +kernel] at HQ
  have HT : Hid (∀ W, Below w.heap.size w W → Tab W ∧ 1 < W.heap.size) := fun W hW => ⟨hT.below hs hW, Nat.lt_of_lt_of_le hs hW.size⟩
  clear hT hs
  go_enter Tryd.func37, Tryd.ntmps37
  go_wp2_with fail
  refine (HP.out _ (HT.out _ (Below.refl _ _)).1 (HT.out _ (Below.refl _ _)).2).mono ?_
  rintro r w1 ⟨rfl, hb1⟩
  have HB1 := hid hb1
  clear hb1
  have HG1 := hid (inew w1 (.cells #[.bool false, .int .u64 1, .int .i64 1] 57))
  have HBV := hid (HB1.out.alloc HB1.out.size (.cells #[.bool false, .int .u64 1, .int .i64 1] 57))
  go_wp2_with fail
  refine (HQ.out _ (HT.out _ HBV.out).1 (HT.out _ HBV.out).2).mono ?_
  rintro r w2 ⟨rfl, hb2⟩
  have HB2 := hid (HBV.out.trans (hb2.mono HBV.out.size))
  have k1 : w2.heap[w1.heap.size]? = some (.cells #[.bool false, .int .u64 1, .int .i64 1] 57) := (hb2.block _ (Array.getElem?_eq_some_iff.1 HG1.out).1).trans HG1.out
  obtain ⟨c0, c1, c2⟩ := pcells_of k1
  have HBW := hid (HB2.out.alloc HB2.out.size (.cells #[.bool true, .int .u64 3, .int .i64 0] 57))
  have hlt : w1.heap.size < w2.heap.size := (Array.getElem?_eq_some_iff.1 k1).1
  have hne : ¬ w1.heap.size = w2.heap.size := by omega
  clear hb2 k1
  go_wp2_with fail
  refine (mul64_1_3 _).mono ?_
  rintro r w3 ⟨rfl, rfl⟩
  go_wp2_with fail
  have HBX := hid (HBW.out.alloc HBW.out.size (.cells #[.int .u64 3, .int .u64 0] 22))
  obtain ⟨t0, t1, _⟩ := icells_of (show ((w2.alloc (.cells #[.bool true, .int .u64 3, .int .i64 0] 57)).alloc (.cells #[.int .u64 3, .int .u64 0] 22)).heap[w2.heap.size + 1]? = some (.cells #[.int .u64 3, .int .u64 0] 22) from (iblk2 w2 _ _).2)
  refine (rounded_3_1_true (w2.heap.size + 1) to _ t0 t1 (HT.out _ HBX.out).1 (HT.out _ HBX.out).2).mono ?_
  rintro r w4 ⟨rfl, hb4⟩
  have HB4 := hid (HBX.out.trans (hb4.mono HBX.out.size))
  clear hb4 t0 t1
  go_wp2
  go_ret
  exact ⟨by first | rfl | simp, HB4.out⟩
set_option maxHeartbeats 2000000 in
theorem product_2_4 (to : Bool) (w : World) (hT : Tab w) (hs : 1 < w.heap.size) : Calls Tryd.prog 37 #[.float .f64 4611686018427387904, .float .f64 4616189618054758400, .bool to] w fun r w' => r = .returned (.float .f64 4620693217682128896) ∧ Below w.heap.size w w' := by
  have o1 : (FloatKind.f64.format.order 4611686018427387904 0 == some .eq) = false := by decide +kernel
  have o2 : (FloatKind.f64.format.order 4616189618054758400 0 == some .eq) = false := by decide +kernel
  have HP := hid (fun (W : World) hT hs => Parts_any 4611686018427387904 W (by decide) hT hs)
  have HQ := hid (fun (W : World) hT hs => Parts_any 4616189618054758400 W (by decide) hT hs)
  rw [show pNeg 4611686018427387904 = false by decide +kernel, show pMant 4611686018427387904 = 1 by decide +kernel, show pExp 4611686018427387904 = 1 by decide +kernel, show pErr 4611686018427387904 = 0 by decide +kernel] at HP
  rw [show pNeg 4616189618054758400 = false by decide +kernel, show pMant 4616189618054758400 = 1 by decide +kernel, show pExp 4616189618054758400 = 2 by decide +kernel, show pErr 4616189618054758400 = 0 by decide +kernel] at HQ
  have HT : Hid (∀ W, Below w.heap.size w W → Tab W ∧ 1 < W.heap.size) := fun W hW => ⟨hT.below hs hW, Nat.lt_of_lt_of_le hs hW.size⟩
  clear hT hs
  go_enter Tryd.func37, Tryd.ntmps37
  go_wp2_with fail
  refine (HP.out _ (HT.out _ (Below.refl _ _)).1 (HT.out _ (Below.refl _ _)).2).mono ?_
  rintro r w1 ⟨rfl, hb1⟩
  have HB1 := hid hb1
  clear hb1
  have HG1 := hid (inew w1 (.cells #[.bool false, .int .u64 1, .int .i64 1] 57))
  have HBV := hid (HB1.out.alloc HB1.out.size (.cells #[.bool false, .int .u64 1, .int .i64 1] 57))
  go_wp2_with fail
  refine (HQ.out _ (HT.out _ HBV.out).1 (HT.out _ HBV.out).2).mono ?_
  rintro r w2 ⟨rfl, hb2⟩
  have HB2 := hid (HBV.out.trans (hb2.mono HBV.out.size))
  have k1 : w2.heap[w1.heap.size]? = some (.cells #[.bool false, .int .u64 1, .int .i64 1] 57) := (hb2.block _ (Array.getElem?_eq_some_iff.1 HG1.out).1).trans HG1.out
  obtain ⟨c0, c1, c2⟩ := pcells_of k1
  have HBW := hid (HB2.out.alloc HB2.out.size (.cells #[.bool false, .int .u64 1, .int .i64 2] 57))
  have hlt : w1.heap.size < w2.heap.size := (Array.getElem?_eq_some_iff.1 k1).1
  have hne : ¬ w1.heap.size = w2.heap.size := by omega
  clear hb2 k1
  go_wp2_with fail
  refine (mul64_1_1 _).mono ?_
  rintro r w3 ⟨rfl, rfl⟩
  go_wp2_with fail
  have HBX := hid (HBW.out.alloc HBW.out.size (.cells #[.int .u64 1, .int .u64 0] 22))
  obtain ⟨t0, t1, _⟩ := icells_of (show ((w2.alloc (.cells #[.bool false, .int .u64 1, .int .i64 2] 57)).alloc (.cells #[.int .u64 1, .int .u64 0] 22)).heap[w2.heap.size + 1]? = some (.cells #[.int .u64 1, .int .u64 0] 22) from (iblk2 w2 _ _).2)
  refine (rounded_1_3_false (w2.heap.size + 1) to _ t0 t1 (HT.out _ HBX.out).1 (HT.out _ HBX.out).2).mono ?_
  rintro r w4 ⟨rfl, hb4⟩
  have HB4 := hid (HBX.out.trans (hb4.mono HBX.out.size))
  clear hb4 t0 t1
  go_wp2
  go_ret
  exact ⟨by first | rfl | simp, HB4.out⟩
set_option maxHeartbeats 2000000 in
theorem product_1_1 (to : Bool) (w : World) (hT : Tab w) (hs : 1 < w.heap.size) : Calls Tryd.prog 37 #[.float .f64 4607182418800017408, .float .f64 4607182418800017408, .bool to] w fun r w' => r = .returned (.float .f64 4607182418800017408) ∧ Below w.heap.size w w' := by
  have o1 : (FloatKind.f64.format.order 4607182418800017408 0 == some .eq) = false := by decide +kernel
  have o2 : (FloatKind.f64.format.order 4607182418800017408 0 == some .eq) = false := by decide +kernel
  have HP := hid (fun (W : World) hT hs => Parts_any 4607182418800017408 W (by decide) hT hs)
  have HQ := hid (fun (W : World) hT hs => Parts_any 4607182418800017408 W (by decide) hT hs)
  rw [show pNeg 4607182418800017408 = false by decide +kernel, show pMant 4607182418800017408 = 1 by decide +kernel, show pExp 4607182418800017408 = 0 by decide +kernel, show pErr 4607182418800017408 = 0 by decide +kernel] at HP
  rw [show pNeg 4607182418800017408 = false by decide +kernel, show pMant 4607182418800017408 = 1 by decide +kernel, show pExp 4607182418800017408 = 0 by decide +kernel, show pErr 4607182418800017408 = 0 by decide +kernel] at HQ
  have HT : Hid (∀ W, Below w.heap.size w W → Tab W ∧ 1 < W.heap.size) := fun W hW => ⟨hT.below hs hW, Nat.lt_of_lt_of_le hs hW.size⟩
  clear hT hs
  go_enter Tryd.func37, Tryd.ntmps37
  go_wp2_with fail
  refine (HP.out _ (HT.out _ (Below.refl _ _)).1 (HT.out _ (Below.refl _ _)).2).mono ?_
  rintro r w1 ⟨rfl, hb1⟩
  have HB1 := hid hb1
  clear hb1
  have HG1 := hid (inew w1 (.cells #[.bool false, .int .u64 1, .int .i64 0] 57))
  have HBV := hid (HB1.out.alloc HB1.out.size (.cells #[.bool false, .int .u64 1, .int .i64 0] 57))
  go_wp2_with fail
  refine (HQ.out _ (HT.out _ HBV.out).1 (HT.out _ HBV.out).2).mono ?_
  rintro r w2 ⟨rfl, hb2⟩
  have HB2 := hid (HBV.out.trans (hb2.mono HBV.out.size))
  have k1 : w2.heap[w1.heap.size]? = some (.cells #[.bool false, .int .u64 1, .int .i64 0] 57) := (hb2.block _ (Array.getElem?_eq_some_iff.1 HG1.out).1).trans HG1.out
  obtain ⟨c0, c1, c2⟩ := pcells_of k1
  have HBW := hid (HB2.out.alloc HB2.out.size (.cells #[.bool false, .int .u64 1, .int .i64 0] 57))
  have hlt : w1.heap.size < w2.heap.size := (Array.getElem?_eq_some_iff.1 k1).1
  have hne : ¬ w1.heap.size = w2.heap.size := by omega
  clear hb2 k1
  go_wp2_with fail
  refine (mul64_1_1 _).mono ?_
  rintro r w3 ⟨rfl, rfl⟩
  go_wp2_with fail
  have HBX := hid (HBW.out.alloc HBW.out.size (.cells #[.int .u64 1, .int .u64 0] 22))
  obtain ⟨t0, t1, _⟩ := icells_of (show ((w2.alloc (.cells #[.bool false, .int .u64 1, .int .i64 0] 57)).alloc (.cells #[.int .u64 1, .int .u64 0] 22)).heap[w2.heap.size + 1]? = some (.cells #[.int .u64 1, .int .u64 0] 22) from (iblk2 w2 _ _).2)
  refine (rounded_1_0_false (w2.heap.size + 1) to _ t0 t1 (HT.out _ HBX.out).1 (HT.out _ HBX.out).2).mono ?_
  rintro r w4 ⟨rfl, hb4⟩
  have HB4 := hid (HBX.out.trans (hb4.mono HBX.out.size))
  clear hb4 t0 t1
  go_wp2
  go_ret
  exact ⟨by first | rfl | simp, HB4.out⟩
set_option maxHeartbeats 2000000 in
theorem product_2_2 (to : Bool) (w : World) (hT : Tab w) (hs : 1 < w.heap.size) : Calls Tryd.prog 37 #[.float .f64 4611686018427387904, .float .f64 4611686018427387904, .bool to] w fun r w' => r = .returned (.float .f64 4616189618054758400) ∧ Below w.heap.size w w' := by
  have o1 : (FloatKind.f64.format.order 4611686018427387904 0 == some .eq) = false := by decide +kernel
  have o2 : (FloatKind.f64.format.order 4611686018427387904 0 == some .eq) = false := by decide +kernel
  have HP := hid (fun (W : World) hT hs => Parts_any 4611686018427387904 W (by decide) hT hs)
  have HQ := hid (fun (W : World) hT hs => Parts_any 4611686018427387904 W (by decide) hT hs)
  rw [show pNeg 4611686018427387904 = false by decide +kernel, show pMant 4611686018427387904 = 1 by decide +kernel, show pExp 4611686018427387904 = 1 by decide +kernel, show pErr 4611686018427387904 = 0 by decide +kernel] at HP
  rw [show pNeg 4611686018427387904 = false by decide +kernel, show pMant 4611686018427387904 = 1 by decide +kernel, show pExp 4611686018427387904 = 1 by decide +kernel, show pErr 4611686018427387904 = 0 by decide +kernel] at HQ
  have HT : Hid (∀ W, Below w.heap.size w W → Tab W ∧ 1 < W.heap.size) := fun W hW => ⟨hT.below hs hW, Nat.lt_of_lt_of_le hs hW.size⟩
  clear hT hs
  go_enter Tryd.func37, Tryd.ntmps37
  go_wp2_with fail
  refine (HP.out _ (HT.out _ (Below.refl _ _)).1 (HT.out _ (Below.refl _ _)).2).mono ?_
  rintro r w1 ⟨rfl, hb1⟩
  have HB1 := hid hb1
  clear hb1
  have HG1 := hid (inew w1 (.cells #[.bool false, .int .u64 1, .int .i64 1] 57))
  have HBV := hid (HB1.out.alloc HB1.out.size (.cells #[.bool false, .int .u64 1, .int .i64 1] 57))
  go_wp2_with fail
  refine (HQ.out _ (HT.out _ HBV.out).1 (HT.out _ HBV.out).2).mono ?_
  rintro r w2 ⟨rfl, hb2⟩
  have HB2 := hid (HBV.out.trans (hb2.mono HBV.out.size))
  have k1 : w2.heap[w1.heap.size]? = some (.cells #[.bool false, .int .u64 1, .int .i64 1] 57) := (hb2.block _ (Array.getElem?_eq_some_iff.1 HG1.out).1).trans HG1.out
  obtain ⟨c0, c1, c2⟩ := pcells_of k1
  have HBW := hid (HB2.out.alloc HB2.out.size (.cells #[.bool false, .int .u64 1, .int .i64 1] 57))
  have hlt : w1.heap.size < w2.heap.size := (Array.getElem?_eq_some_iff.1 k1).1
  have hne : ¬ w1.heap.size = w2.heap.size := by omega
  clear hb2 k1
  go_wp2_with fail
  refine (mul64_1_1 _).mono ?_
  rintro r w3 ⟨rfl, rfl⟩
  go_wp2_with fail
  have HBX := hid (HBW.out.alloc HBW.out.size (.cells #[.int .u64 1, .int .u64 0] 22))
  obtain ⟨t0, t1, _⟩ := icells_of (show ((w2.alloc (.cells #[.bool false, .int .u64 1, .int .i64 1] 57)).alloc (.cells #[.int .u64 1, .int .u64 0] 22)).heap[w2.heap.size + 1]? = some (.cells #[.int .u64 1, .int .u64 0] 22) from (iblk2 w2 _ _).2)
  refine (rounded_1_2_false (w2.heap.size + 1) to _ t0 t1 (HT.out _ HBX.out).1 (HT.out _ HBX.out).2).mono ?_
  rintro r w4 ⟨rfl, hb4⟩
  have HB4 := hid (HBX.out.trans (hb4.mono HBX.out.size))
  clear hb4 t0 t1
  go_wp2
  go_ret
  exact ⟨by first | rfl | simp, HB4.out⟩
set_option maxHeartbeats 1000000 in
theorem product_0 (y : Nat) (to : Bool) (w : World) : Calls Tryd.prog 37 #[.float .f64 0, .float .f64 y, .bool to] w fun r w' => r = .returned (.float .f64 0) ∧ w' = w := by
  have o1 : FloatKind.f64.format.order 0 0 = some .eq := by decide +kernel
  go_enter Tryd.func37, Tryd.ntmps37
  go_wp2
  go_ret
  exact ⟨rfl, rfl⟩
set_option maxHeartbeats 1000000 in
theorem product_inf (to : Bool) (w : World) : Calls Tryd.prog 37 #[.float .f64 9218868437227405312, .float .f64 0, .bool to] w fun r w' => r = .returned (.float .f64 0) ∧ w' = w := by
  have o1 : (FloatKind.f64.format.order 9218868437227405312 0 == some .eq) = false := by decide +kernel
  have o2 : FloatKind.f64.format.order 0 0 = some .eq := by decide +kernel
  go_enter Tryd.func37, Tryd.ntmps37
  go_wp2
  go_ret
  exact ⟨rfl, rfl⟩
end Go.Proofs.YtilffgmekeeohaaDoor
