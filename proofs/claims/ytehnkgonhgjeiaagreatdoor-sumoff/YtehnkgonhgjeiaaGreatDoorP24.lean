
/- What partsOf and Parts do. -/
import Derived.Test.YtehnkgonhgjeiaaGreatDoorP7
import Derived.Test.YtehnkgonhgjeiaaGreatDoorP21
import Derived.Test.YtehnkgonhgjeiaaGreatDoorP5
namespace Go.Proofs.YtehnkgonhgjeiaaGreatDoor
open Go.RowKit

set_option maxHeartbeats 400000 in
theorem partsOf_bad (x : Nat) (w : World) (hx : x < 18446744073709551616) (he : expOf x = 2047) :
    Calls Tryz.prog 146 #[.agg #[.int .i64 52, .int .u64 4503599627370495, .int .u64 2047, .int .u64 9223372036854775808, .int .u64 9218868437227405312, .int .u64 9221120237041090561, .int .i64 1075], .int .u64 x] w fun r w' => r = .returned (.tuple #[.agg #[.bool false, .int .u64 0, .int .i64 0], .int .i64 4]) ∧ Below w.heap.size w w' := by
  have H : Hid (expOf x = 2047) := he
  clear he
  go_enter Tryz.func146, Tryz.ntmps146
  go_wp2_with fail
  refine (split64_any x _ hx).mono ?_
  rintro e w1 ⟨rfl, hb⟩
  obtain ⟨hc, hf⟩ := bcell hb
  have hz : w.heap.size + 1 < w1.heap.size := by have := hb.size; simp at this; omega
  rw [H.out]
  go_wp2_with fail
  refine bodyPost_ret (v := .tuple #[.agg #[.bool false, .int .u64 0, .int .i64 0], .int .i64 4]) (by simp [results, Tryz.results146, go_sem, hc]) rfl ⟨rfl, ?_⟩
  repeat (first | exact bl_alloc2 hb | refine Below.setCell ?_ (by simp) _)
set_option maxHeartbeats 400000 in
theorem partsOf_zero (x : Nat) (w : World) (hx : x < 18446744073709551616) (he : expOf x = 0) (hm : fracOf x = 0) :
    Calls Tryz.prog 146 #[.agg #[.int .i64 52, .int .u64 4503599627370495, .int .u64 2047, .int .u64 9223372036854775808, .int .u64 9218868437227405312, .int .u64 9221120237041090561, .int .i64 1075], .int .u64 x] w fun r w' => r = .returned (.tuple #[.agg #[.bool (negOf x), .int .u64 0, .int .i64 0], .int .i64 0]) ∧ Below w.heap.size w w' := by
  have H : Hid (expOf x = 0) := he
  have H2 : Hid (fracOf x = 0) := hm
  clear he hm
  go_enter Tryz.func146, Tryz.ntmps146
  go_wp2_with fail
  refine (split64_any x _ hx).mono ?_
  rintro e w1 ⟨rfl, hb⟩
  obtain ⟨hc, hf⟩ := bcell hb
  have hz : w.heap.size + 1 < w1.heap.size := by have := hb.size; simp at this; omega
  rw [H.out, H2.out]
  go_wp2_with fail
  refine bodyPost_ret (v := .tuple #[.agg #[.bool (negOf x), .int .u64 0, .int .i64 0], .int .i64 0]) (by simp [results, Tryz.results146, go_sem, hc]) rfl ⟨rfl, ?_⟩
  repeat (first | exact bl_alloc2 hb | refine Below.setCell ?_ (by simp) _)
set_option maxHeartbeats 400000 in
theorem partsOf_norm (x : Nat) (w : World) (hx : x < 18446744073709551616) (he : 0 < expOf x) (he2 : expOf x < 2047) (hT : Tab w) (hs : 3 < w.heap.size) :
    Calls Tryz.prog 146 #[.agg #[.int .i64 52, .int .u64 4503599627370495, .int .u64 2047, .int .u64 9223372036854775808, .int .u64 9218868437227405312, .int .u64 9221120237041090561, .int .i64 1075], .int .u64 x] w fun r w' => r = .returned (.tuple #[.agg #[.bool (negOf x), .int .u64 ((mantOf x / 2 ^ tzOf (mantOf x) : Nat) : Int), .int .i64 ((expOf x : Int) - 1075 + (tzOf (mantOf x) : Int))], .int .i64 0]) ∧ Below w.heap.size w w' := by
  have hor := or_hidden he
  have hml : mantOf x < 18446744073709551616 := by have := mant_lt x; omega
  have hm0 : mantOf x ≠ 0 := by unfold mantOf; rw [if_pos he]; omega
  have htz : (tzOf (mantOf x) : Int) ≤ 63 := by have := (tz_spec (mantOf x) hm0 hml).1; omega
  have HML : Hid (mantOf x < 18446744073709551616) := hml
  clear hml hm0
  go_enter Tryz.func146, Tryz.ntmps146
  go_wp2_with fail
  refine (split64_any x _ hx).mono ?_
  rintro e w1 ⟨rfl, hb⟩
  obtain ⟨hc, hf⟩ := bcell hb
  have hz : w.heap.size + 1 < w1.heap.size := by have := hb.size; simp at this; omega
  have hT1 : Tab w1 := hT.below hs (bl_alloc2 hb)
  have hcells : (w1.cell? ⟨w.heap.size, 0, none⟩ = some (.int .i64 52) ∧ w1.cell? ⟨w.heap.size, 1, none⟩ = some (.int .u64 4503599627370495) ∧ w1.cell? ⟨w.heap.size, 2, none⟩ = some (.int .u64 2047) ∧ w1.cell? ⟨w.heap.size, 3, none⟩ = some (.int .u64 9223372036854775808) ∧ w1.cell? ⟨w.heap.size, 4, none⟩ = some (.int .u64 9218868437227405312) ∧ w1.cell? ⟨w.heap.size, 5, none⟩ = some (.int .u64 9221120237041090561) ∧ w1.cell? ⟨w.heap.size, 6, none⟩ = some (.int .i64 1075)) := by
    refine ⟨?_, ?_, ?_, ?_, ?_, ?_, ?_⟩ <;> (rw [hc _ _ (by simp; omega)]; simp [go_sem])
  obtain ⟨q0, q1, q2, q3, q4, q5, q6⟩ := hcells
  have hr : w1.cell? ⟨w.heap.size + 1, 0, none⟩ = some (.bool false) ∧ w1.cell? ⟨w.heap.size + 1, 1, none⟩ = some (.int .u64 0) ∧ w1.cell? ⟨w.heap.size + 1, 2, none⟩ = some (.int .i64 0) := by
    refine ⟨?_, ?_, ?_⟩ <;> (rw [hc _ _ (by simp)]; simp [go_sem])
  obtain ⟨r0, r1, r2⟩ := hr
  have hfz : ∀ (o : Obj) (i : Nat), (w1.alloc o).frozen? ⟨w.heap.size + 1, i, none⟩ = false := fun o i => by
    rw [((Below.refl w1.heap.size w1).alloc (Nat.le_refl _) o).frozen (p := ⟨w.heap.size + 1, i, none⟩) hz, hf _ _ (by simp)]; simp [go_sem]
  go_wp2_with fail
  refine (tz_any (mantOf x) _ HML.out hT1).mono ?_
  rintro e w2 ⟨rfl, rfl⟩
  go_wp2_with fail
  go_region_held3 (fun w' => (w'.cell? ⟨w.heap.size, 0, none⟩ = some (.int .i64 52) ∧ w'.cell? ⟨w.heap.size, 1, none⟩ = some (.int .u64 4503599627370495) ∧ w'.cell? ⟨w.heap.size, 2, none⟩ = some (.int .u64 2047) ∧ w'.cell? ⟨w.heap.size, 3, none⟩ = some (.int .u64 9223372036854775808) ∧ w'.cell? ⟨w.heap.size, 4, none⟩ = some (.int .u64 9218868437227405312) ∧ w'.cell? ⟨w.heap.size, 5, none⟩ = some (.int .u64 9221120237041090561) ∧ w'.cell? ⟨w.heap.size, 6, none⟩ = some (.int .i64 1075))) (go_keep)
    (first | (go_at_call 175; refine (lowest_any _ _ ?_ ?_).mono ?_; omega; omega; rintro e w' ⟨rfl, rfl⟩))
  go_wp2
  refine bodyPost_ret (v := .tuple #[.agg #[.bool (negOf x), .int .u64 ((mantOf x : Int) / 2 ^ tzOf (mantOf x)), .int .i64 (IntKind.i64.wrap (max (expOf x : Int) 1 - 1075 + (tzOf (mantOf x) : Int)))], .int .i64 0]) (by simp [results, Tryz.results146, go_sem, hz, r0, r1, r2]) rfl ⟨?_, ?_⟩
  · rw [IntWalk.i64_in _ (by omega)]
    exact ret_parts rfl (by rw [Int.natCast_ediv, Int.natCast_pow]; rfl) (by omega) rfl
  · exact Below.drew (Below.alloc (Below.setCell (Below.setCell (Below.setCell (bl_alloc2 hb) (by simp) _) (by simp) _) (by simp) _) (by simp; omega) _)

set_option maxHeartbeats 400000 in
theorem Parts_norm (x : Nat) (w : World) (hx : x < 18446744073709551616) (he : 0 < expOf x) (he2 : expOf x < 2047) (hT : Tab w) (hs : 3 < w.heap.size) :
    Calls Tryz.prog 110 #[.float .f64 x] w fun r w' => r = .returned (.tuple #[.agg #[.bool (negOf x), .int .u64 ((mantOf x / 2 ^ tzOf (mantOf x) : Nat) : Int), .int .i64 ((expOf x : Int) - 1075 + (tzOf (mantOf x) : Int))], .int .i64 0]) ∧ Below w.heap.size w w' := by
  have h1 := f64bits
  go_enter Tryz.func110, Tryz.ntmps110
  go_wp2_with fail
  refine (layout64_any _).mono ?_
  rintro r w1 ⟨rfl, hb⟩
  go_wp2_with fail
  refine (partsOf_norm x _ hx he he2 (hT.below hs (bl_alloc hb)) (by have := hb.size; simp at this; omega)).mono ?_
  rintro r w2 ⟨rfl, hb2⟩
  obtain ⟨hc, hf⟩ := bcell hb
  obtain ⟨hc2, hf2⟩ := bcell hb2
  have hz : w.heap.size < w1.heap.size := by have := hb.size; simp at this; omega
  have hz2 : w.heap.size < w2.heap.size := Nat.lt_of_lt_of_le hz hb2.size
  have hr : w2.cell? ⟨w.heap.size, 0, none⟩ = some (.bool false) ∧ w2.cell? ⟨w.heap.size, 1, none⟩ = some (.int .u64 0) ∧ w2.cell? ⟨w.heap.size, 2, none⟩ = some (.int .i64 0) := by
    refine ⟨?_, ?_, ?_⟩ <;> (rw [hc2 _ _ hz, hc _ _ (by simp)]; simp [go_sem])
  have hfz : ∀ i, w2.frozen? ⟨w.heap.size, i, none⟩ = false := fun i => by rw [hf2 _ _ hz, hf _ _ (by simp)]; simp [go_sem]
  obtain ⟨r0, r1, r2⟩ := hr
  have hbb : Hid (Below w.heap.size w w2) := bl_then (bl_alloc hb) hb2
  clear hc hf hc2 hf2 hb hb2
  obtain ⟨M, HM⟩ : ∃ M : Nat, Hid ((mantOf x / 2 ^ tzOf (mantOf x) : Nat) = M) := ⟨_, rfl⟩
  obtain ⟨E, HE⟩ : ∃ E : Int, Hid ((expOf x : Int) - 1075 + (tzOf (mantOf x) : Int) = E) := ⟨_, rfl⟩
  rw [HM.out, HE.out]
  go_wp2_with fail
  refine bodyPost_ret (v := .tuple #[.agg #[.bool (negOf x), .int .u64 M, .int .i64 E], .int .i64 0]) (by simp [results, Tryz.results110, go_sem, r0, r1, r2]) rfl ⟨by rw [HM.out, HE.out], ?_⟩
  repeat (first | exact hbb.out | refine Below.setCell ?_ (by simp) _)
end Go.Proofs.YtehnkgonhgjeiaaGreatDoor

namespace Go.Proofs.YtehnkgonhgjeiaaGreatDoor
open Go.RowKit Go.IntWalk

set_option maxHeartbeats 400000 in
theorem partsOf_sub (x : Nat) (w : World) (hx : x < 18446744073709551616) (he : expOf x = 0) (hfz : fracOf x ≠ 0) (hT : Tab w) (hs : 3 < w.heap.size) :
    Calls Tryz.prog 146 #[.agg #[.int .i64 52, .int .u64 4503599627370495, .int .u64 2047, .int .u64 9223372036854775808, .int .u64 9218868437227405312, .int .u64 9221120237041090561, .int .i64 1075], .int .u64 x] w fun r w' => r = .returned (.tuple #[.agg #[.bool (negOf x), .int .u64 ((mantOf x / 2 ^ tzOf (mantOf x) : Nat) : Int), .int .i64 ((tzOf (mantOf x) : Int) - 1074)], .int .i64 0]) ∧ Below w.heap.size w w' := by
  have HE : Hid (expOf x = 0) := he
  have hmf : mantOf x = fracOf x := by unfold mantOf; rw [if_neg (by omega)]
  have HMF : Hid (fracOf x = mantOf x) := hmf.symm
  have hne0 : ((mantOf x : Int) == 0) = false := by rw [hmf]; simpa using hfz
  have hml : mantOf x < 18446744073709551616 := by have := mant_lt x; omega
  have hm0 : mantOf x ≠ 0 := by rw [hmf]; exact hfz
  have htz : (tzOf (mantOf x) : Int) ≤ 63 := by have := (tz_spec (mantOf x) hm0 hml).1; omega
  have HML : Hid (mantOf x < 18446744073709551616) := hml
  clear hml hm0 he hmf hfz
  go_enter Tryz.func146, Tryz.ntmps146
  go_wp2_with fail
  refine (split64_any x _ hx).mono ?_
  rw [HE.out, HMF.out]
  rintro e w1 ⟨rfl, hb⟩
  obtain ⟨hc, hf⟩ := bcell hb
  have hz : w.heap.size + 1 < w1.heap.size := by have := hb.size; simp at this; omega
  have hT1 : Tab w1 := hT.below hs (bl_alloc2 hb)
  have hcells : (w1.cell? ⟨w.heap.size, 0, none⟩ = some (.int .i64 52) ∧ w1.cell? ⟨w.heap.size, 1, none⟩ = some (.int .u64 4503599627370495) ∧ w1.cell? ⟨w.heap.size, 2, none⟩ = some (.int .u64 2047) ∧ w1.cell? ⟨w.heap.size, 3, none⟩ = some (.int .u64 9223372036854775808) ∧ w1.cell? ⟨w.heap.size, 4, none⟩ = some (.int .u64 9218868437227405312) ∧ w1.cell? ⟨w.heap.size, 5, none⟩ = some (.int .u64 9221120237041090561) ∧ w1.cell? ⟨w.heap.size, 6, none⟩ = some (.int .i64 1075)) := by
    refine ⟨?_, ?_, ?_, ?_, ?_, ?_, ?_⟩ <;> (rw [hc _ _ (by simp; omega)]; simp [go_sem])
  obtain ⟨q0, q1, q2, q3, q4, q5, q6⟩ := hcells
  have hr : w1.cell? ⟨w.heap.size + 1, 0, none⟩ = some (.bool false) ∧ w1.cell? ⟨w.heap.size + 1, 1, none⟩ = some (.int .u64 0) ∧ w1.cell? ⟨w.heap.size + 1, 2, none⟩ = some (.int .i64 0) := by
    refine ⟨?_, ?_, ?_⟩ <;> (rw [hc _ _ (by simp)]; simp [go_sem])
  obtain ⟨r0, r1, r2⟩ := hr
  have hfz : ∀ (o : Obj) (i : Nat), (w1.alloc o).frozen? ⟨w.heap.size + 1, i, none⟩ = false := fun o i => by
    rw [((Below.refl w1.heap.size w1).alloc (Nat.le_refl _) o).frozen (p := ⟨w.heap.size + 1, i, none⟩) hz, hf _ _ (by simp)]; simp [go_sem]
  go_wp2_with fail
  refine (tz_any (mantOf x) _ HML.out hT1).mono ?_
  rintro e w2 ⟨rfl, rfl⟩
  go_wp2_with fail
  go_region_held3 (fun w' => (w'.cell? ⟨w.heap.size, 0, none⟩ = some (.int .i64 52) ∧ w'.cell? ⟨w.heap.size, 1, none⟩ = some (.int .u64 4503599627370495) ∧ w'.cell? ⟨w.heap.size, 2, none⟩ = some (.int .u64 2047) ∧ w'.cell? ⟨w.heap.size, 3, none⟩ = some (.int .u64 9223372036854775808) ∧ w'.cell? ⟨w.heap.size, 4, none⟩ = some (.int .u64 9218868437227405312) ∧ w'.cell? ⟨w.heap.size, 5, none⟩ = some (.int .u64 9221120237041090561) ∧ w'.cell? ⟨w.heap.size, 6, none⟩ = some (.int .i64 1075))) (go_keep)
    (first | (go_at_call 175; refine (lowest0 _).mono ?_; rintro e w' ⟨rfl, rfl⟩))
  go_wp2
  refine bodyPost_ret (v := .tuple #[.agg #[.bool (negOf x), .int .u64 ((mantOf x : Int) / 2 ^ tzOf (mantOf x)), .int .i64 (IntKind.i64.wrap (-1074 + (tzOf (mantOf x) : Int)))], .int .i64 0]) (by simp [results, Tryz.results146, go_sem, hz, r0, r1, r2]) rfl ⟨?_, ?_⟩
  · rw [IntWalk.i64_in _ (by omega)]
    exact ret_parts rfl (by rw [Int.natCast_ediv, Int.natCast_pow]; rfl) (by omega) rfl
  · exact Below.drew (Below.alloc (Below.setCell (Below.setCell (Below.setCell (bl_alloc2 hb) (by simp) _) (by simp) _) (by simp) _) (by simp; omega) _)

theorem partsOf_any (x : Nat) (w : World) (hx : x < 18446744073709551616) (hT : Tab w) (hs : 3 < w.heap.size) :
    Calls Tryz.prog 146 #[.agg #[.int .i64 52, .int .u64 4503599627370495, .int .u64 2047, .int .u64 9223372036854775808, .int .u64 9218868437227405312, .int .u64 9221120237041090561, .int .i64 1075], .int .u64 x] w fun r w' => r = .returned (.tuple #[.agg #[.bool (pNeg x), .int .u64 (pMant x), .int .i64 (pExp x)], .int .i64 (pErr x)]) ∧ Below w.heap.size w w' := by
  unfold pNeg pMant pExp pErr
  by_cases h1 : expOf x = 2047
  · rw [if_pos h1, if_pos h1, if_pos (Or.inl h1), if_pos h1]; exact partsOf_bad x w hx h1
  · rw [if_neg h1, if_neg h1, if_neg h1]
    have hl := exp_lt x
    by_cases h2 : expOf x = 0
    · have hmf : mantOf x = fracOf x := by unfold mantOf; rw [if_neg (by omega)]
      by_cases h3 : fracOf x = 0
      · rw [if_pos (Or.inr (hmf.trans h3)), hmf, h3, odd_zero]; exact partsOf_zero x w hx h2 h3
      · rw [if_neg (by rw [hmf]; omega)]
        refine (partsOf_sub x w hx h2 h3 hT hs).mono ?_
        rintro r w' ⟨rfl, hb⟩
        exact ⟨ret_parts rfl rfl (by rw [h2]; omega) rfl, hb⟩
    · rw [if_neg (by have : mantOf x ≠ 0 := by unfold mantOf; rw [if_pos (by omega)]; omega
                     omega)]
      refine (partsOf_norm x w hx (by omega) (by omega) hT hs).mono ?_
      rintro r w' ⟨rfl, hb⟩
      exact ⟨ret_parts rfl rfl (by omega) rfl, hb⟩

set_option maxHeartbeats 400000 in
theorem Parts_any (x : Nat) (w : World) (hx : x < 18446744073709551616) (hT : Tab w) (hs : 3 < w.heap.size) :
    Calls Tryz.prog 110 #[.float .f64 x] w fun r w' => r = .returned (.tuple #[.agg #[.bool (pNeg x), .int .u64 (pMant x), .int .i64 (pExp x)], .int .i64 (pErr x)]) ∧ Below w.heap.size w w' := by
  have h1 := f64bits
  go_enter Tryz.func110, Tryz.ntmps110
  go_wp2_with fail
  refine (layout64_any _).mono ?_
  rintro r w1 ⟨rfl, hb⟩
  go_wp2_with fail
  refine (partsOf_any x _ hx (hT.below hs (bl_alloc hb)) (by have := hb.size; simp at this; omega)).mono ?_
  rintro r w2 ⟨rfl, hb2⟩
  obtain ⟨hc, hf⟩ := bcell hb
  obtain ⟨hc2, hf2⟩ := bcell hb2
  have hz : w.heap.size < w1.heap.size := by have := hb.size; simp at this; omega
  have hz2 : w.heap.size < w2.heap.size := Nat.lt_of_lt_of_le hz hb2.size
  have hr : w2.cell? ⟨w.heap.size, 0, none⟩ = some (.bool false) ∧ w2.cell? ⟨w.heap.size, 1, none⟩ = some (.int .u64 0) ∧ w2.cell? ⟨w.heap.size, 2, none⟩ = some (.int .i64 0) := by
    refine ⟨?_, ?_, ?_⟩ <;> (rw [hc2 _ _ hz, hc _ _ (by simp)]; simp [go_sem])
  have hfz : ∀ i, w2.frozen? ⟨w.heap.size, i, none⟩ = false := fun i => by rw [hf2 _ _ hz, hf _ _ (by simp)]; simp [go_sem]
  obtain ⟨r0, r1, r2⟩ := hr
  have hbb : Hid (Below w.heap.size w w2) := bl_then (bl_alloc hb) hb2
  clear hc hf hc2 hf2 hb hb2
  obtain ⟨N, HN⟩ : ∃ N, Hid (pNeg x = N) := ⟨_, rfl⟩
  obtain ⟨M, HM⟩ : ∃ M, Hid (pMant x = M) := ⟨_, rfl⟩
  obtain ⟨E, HE⟩ : ∃ E, Hid (pExp x = E) := ⟨_, rfl⟩
  obtain ⟨R, HR⟩ : ∃ R, Hid (pErr x = R) := ⟨_, rfl⟩
  rw [HN.out, HM.out, HE.out, HR.out]
  go_wp2_with fail
  refine bodyPost_ret (v := .tuple #[.agg #[.bool N, .int .u64 M, .int .i64 E], .int .i64 R]) (by simp [results, Tryz.results110, go_sem, r0, r1, r2]) rfl ⟨by rw [HN.out, HM.out, HE.out, HR.out], ?_⟩
  repeat (first | exact hbb.out | refine Below.setCell ?_ (by simp) _)
end Go.Proofs.YtehnkgonhgjeiaaGreatDoor

namespace Go.Proofs.YtehnkgonhgjeiaaGreatDoor
open Go.RowKit

set_option maxHeartbeats 400000 in
theorem wordOf_norm (neg : Bool) (m : Nat) (e : Int) (w : World) (hm : m < 18446744073709551616) (hm0 : ((m : Int) == 0) = false) (hT : Tab w) (hs : 3 < w.heap.size)
    (he1 : -1139 ≤ e) (he2 : e ≤ 1075) (htz : (tzOf m : Int) ≤ 63) (hl : (lenOf m : Int) ≤ 53) (hlow : -1074 ≤ e + (tzOf m : Int)) (X : Nat) (hX : e + (tzOf m : Int) + (lenOf m : Int) - 1 + 1075 - 52 = (X : Int)) (hex1 : 0 < X) (hex2 : X < 2047) :
    Calls Tryz.prog 160 #[.agg #[.int .i64 52, .int .u64 4503599627370495, .int .u64 2047, .int .u64 9223372036854775808, .int .u64 9218868437227405312, .int .u64 9221120237041090561, .int .i64 1075], .agg #[.bool neg, .int .u64 m, .int .i64 e]] w fun r w' => r = .returned (.tuple #[.int .u64 (signN neg (packN X (wfracOf m))), .int .i64 0]) ∧ Below w.heap.size w w' := by
  have hsh := odd_cast m
  have HX : Hid (e + (tzOf m : Int) + (lenOf m : Int) - 1 + 1075 - 52 = (X : Int)) := hX
  clear hX
  have HM : Hid (m < 18446744073709551616) := hm
  have HO : Hid (oddOf m < 18446744073709551616) := by have := odd_le m; exact Nat.lt_of_le_of_lt this hm
  have HL : Hid (bitLen (oddOf m) = lenOf m) := rfl
  clear hm
  go_enter Tryz.func160, Tryz.ntmps160
  go_wp2_with fail
  refine (tz_any m _ HM.out (hT.below hs (((Below.refl _ _).alloc (Nat.le_refl _) _).alloc (by simp) _))).mono ?_
  rintro r w1 ⟨rfl, rfl⟩
  go_wp2_with fail
  go_quiet (fail)
  go_wp2_with fail
  refine (len_any (oddOf m) _ HO.out).mono ?_
  rintro r w2 ⟨rfl, rfl⟩
  rw [HL.out]
  have hX := HX.out
  go_wp2_with fail
  refine (lowest_any 0 _ (by omega) (by omega)).mono ?_
  rintro r w3 ⟨rfl, rfl⟩
  go_wp2_with fail
  have hfr := wfrac_w m
  have HP : Hid (bits .or .u64 (IntKind.u64.wrap (IntKind.u64.wrap (X : Int) * 4503599627370496)) (wfracOf m : Int) = (packN X (wfracOf m) : Int)) := pack_w X _ (by omega) (wfrac_lt m)
  have HPL : Hid (packN X (wfracOf m) < 9223372036854775808) := pack_lt X _ (by omega) (wfrac_lt m)
  go_quiet (fail)
  go_wp2_with fail
  go_region_held3 (fun w' => (w'.cell? ⟨w.heap.size, 0, none⟩ = some (.int .i64 52) ∧ w'.cell? ⟨w.heap.size, 1, none⟩ = some (.int .u64 4503599627370495) ∧ w'.cell? ⟨w.heap.size, 2, none⟩ = some (.int .u64 2047) ∧ w'.cell? ⟨w.heap.size, 3, none⟩ = some (.int .u64 9223372036854775808) ∧ w'.cell? ⟨w.heap.size, 4, none⟩ = some (.int .u64 9218868437227405312) ∧ w'.cell? ⟨w.heap.size, 5, none⟩ = some (.int .u64 9221120237041090561) ∧ w'.cell? ⟨w.heap.size, 6, none⟩ = some (.int .i64 1075)) ∧ (w'.cell? ⟨w.heap.size + 1, 0, none⟩ = some (.bool neg) ∧ w'.cell? ⟨w.heap.size + 1, 1, none⟩ = some (.int .u64 m) ∧ w'.cell? ⟨w.heap.size + 1, 2, none⟩ = some (.int .i64 e))) (go_keep)
    (first | (go_at_call 182; rw [HP.out]; refine (signed_any neg (packN X (wfracOf m)) _ HPL.out).mono ?_; rintro r w' ⟨rfl, rfl⟩))
  go_wp2
  go_ret2
  refine ⟨rfl, ?_⟩
  repeat (first | exact Below.refl _ _ | refine bl_al ?_ _ | refine bl_drewN _ ?_ | refine Below.drew ?_)

set_option maxHeartbeats 400000 in
theorem wordOf_sub (neg : Bool) (m : Nat) (e : Int) (w : World) (hm : m < 18446744073709551616) (hm0 : ((m : Int) == 0) = false) (hT : Tab w) (hs : 3 < w.heap.size)
    (he1 : -1139 ≤ e) (he2 : e ≤ 1075) (htz : (tzOf m : Int) ≤ 63) (hl : (lenOf m : Int) ≤ 53) (L : Nat) (hlow : e + (tzOf m : Int) = (L : Int) - 1074) (hex2 : L + lenOf m ≤ 52) :
    Calls Tryz.prog 160 #[.agg #[.int .i64 52, .int .u64 4503599627370495, .int .u64 2047, .int .u64 9223372036854775808, .int .u64 9218868437227405312, .int .u64 9221120237041090561, .int .i64 1075], .agg #[.bool neg, .int .u64 m, .int .i64 e]] w fun r w' => r = .returned (.tuple #[.int .u64 (signN neg (oddOf m * 2 ^ L)), .int .i64 0]) ∧ Below w.heap.size w w' := by
  have hsh := odd_cast m
  have HX : Hid (e + (tzOf m : Int) = (L : Int) - 1074) := hlow
  have HM : Hid (m < 18446744073709551616) := hm
  have HO : Hid (oddOf m < 18446744073709551616) := by have := odd_le m; exact Nat.lt_of_le_of_lt this hm
  have HL : Hid (bitLen (oddOf m) = lenOf m) := rfl
  clear hm hlow
  have hlo : -1074 ≤ e + (tzOf m : Int) := by have := HX.out; omega
  have hhi : e + (tzOf m : Int) + (lenOf m : Int) - 1 + 1075 - 52 < 1 := by have := HX.out; omega
  have HP : Hid (IntKind.u64.wrap ((oddOf m : Int) * 2 ^ L) = ((oddOf m * 2 ^ L : Nat) : Int)) := sub_w m L hex2
  have HPL : Hid (oddOf m * 2 ^ L < 9223372036854775808) := by have := sub_lt_w m L hex2; exact Nat.lt_trans this (by decide)
  have hw1 : IntKind.i64.wrap (e + (tzOf m : Int) - -1074) = (L : Int) := by have := HX.out; rw [IntWalk.i64_in _ (by omega)]; omega
  have hw2 : IntKind.i64.wrap (e + (tzOf m : Int) + 1074) = (L : Int) := by have := HX.out; rw [IntWalk.i64_in _ (by omega)]; omega
  go_enter Tryz.func160, Tryz.ntmps160
  go_wp2_with fail
  refine (tz_any m _ HM.out (hT.below hs (((Below.refl _ _).alloc (Nat.le_refl _) _).alloc (by simp) _))).mono ?_
  rintro r w1 ⟨rfl, rfl⟩
  go_wp2_with fail
  go_quiet (fail)
  go_wp2_with fail
  refine (len_any (oddOf m) _ HO.out).mono ?_
  rintro r w2 ⟨rfl, rfl⟩
  rw [HL.out]
  go_wp2_with fail
  refine (lowest0_b _).mono ?_
  rintro r w3 ⟨rfl, hb⟩
  obtain ⟨hc, hf⟩ := bcell hb
  have hcells : (w3.cell? ⟨w.heap.size, 0, none⟩ = some (.int .i64 52) ∧ w3.cell? ⟨w.heap.size, 1, none⟩ = some (.int .u64 4503599627370495) ∧ w3.cell? ⟨w.heap.size, 2, none⟩ = some (.int .u64 2047) ∧ w3.cell? ⟨w.heap.size, 3, none⟩ = some (.int .u64 9223372036854775808) ∧ w3.cell? ⟨w.heap.size, 4, none⟩ = some (.int .u64 9218868437227405312) ∧ w3.cell? ⟨w.heap.size, 5, none⟩ = some (.int .u64 9221120237041090561) ∧ w3.cell? ⟨w.heap.size, 6, none⟩ = some (.int .i64 1075)) ∧ (w3.cell? ⟨w.heap.size + 1, 0, none⟩ = some (.bool neg) ∧ w3.cell? ⟨w.heap.size + 1, 1, none⟩ = some (.int .u64 m) ∧ w3.cell? ⟨w.heap.size + 1, 2, none⟩ = some (.int .i64 e)) := by
    refine ⟨⟨?_, ?_, ?_, ?_, ?_, ?_, ?_⟩, ?_, ?_, ?_⟩ <;> (rw [hc _ _ (by simp <;> omega)]; simp [go_sem])
  have hz : w.heap.size + 1 < w3.heap.size := by have := hb.size; simp at this; omega
  have hbb : Hid (Below w.heap.size w w3) := by
    refine Below.trans ?_ (hb.mono ?_)
    · repeat (first | exact Below.refl _ _ | refine bl_al ?_ _ | refine bl_drewN _ ?_)
    · simp; omega
  clear hc hf hb
  obtain ⟨⟨q0, q1, q2, q3, q4, q5, q6⟩, p0, p1, p2⟩ := hcells
  go_wp2_with fail
  go_region_held3 (fun w' => (w'.cell? ⟨w.heap.size, 0, none⟩ = some (.int .i64 52) ∧ w'.cell? ⟨w.heap.size, 1, none⟩ = some (.int .u64 4503599627370495) ∧ w'.cell? ⟨w.heap.size, 2, none⟩ = some (.int .u64 2047) ∧ w'.cell? ⟨w.heap.size, 3, none⟩ = some (.int .u64 9223372036854775808) ∧ w'.cell? ⟨w.heap.size, 4, none⟩ = some (.int .u64 9218868437227405312) ∧ w'.cell? ⟨w.heap.size, 5, none⟩ = some (.int .u64 9221120237041090561) ∧ w'.cell? ⟨w.heap.size, 6, none⟩ = some (.int .i64 1075)) ∧ (w'.cell? ⟨w.heap.size + 1, 0, none⟩ = some (.bool neg) ∧ w'.cell? ⟨w.heap.size + 1, 1, none⟩ = some (.int .u64 m) ∧ w'.cell? ⟨w.heap.size + 1, 2, none⟩ = some (.int .i64 e))) (go_keep)
    (first | (go_at_call 175; refine (lowest0 _).mono ?_; rintro r w' ⟨rfl, rfl⟩) | (go_at_call 182; rw [HP.out]; refine (signed_any neg (oddOf m * 2 ^ L) _ HPL.out).mono ?_; rintro r w' ⟨rfl, rfl⟩))
  go_wp2
  go_ret2
  refine ⟨rfl, ?_⟩
  repeat (first | exact hbb.out | refine bl_al ?_ _ | refine bl_drewN _ ?_ | refine Below.drew ?_)
end Go.Proofs.YtehnkgonhgjeiaaGreatDoor

namespace Go.Proofs.YtehnkgonhgjeiaaGreatDoor
open Go.RowKit Go.IntWalk

set_option maxHeartbeats 400000 in
theorem wordOf_zero (neg : Bool) (e : Int) (w : World) :
    Calls Tryz.prog 160 #[.agg #[.int .i64 52, .int .u64 4503599627370495, .int .u64 2047, .int .u64 9223372036854775808, .int .u64 9218868437227405312, .int .u64 9221120237041090561, .int .i64 1075], .agg #[.bool neg, .int .u64 0, .int .i64 e]] w fun r w' => r = .returned (.tuple #[.int .u64 (signN neg 0), .int .i64 0]) ∧ Below w.heap.size w w' := by
  go_enter Tryz.func160, Tryz.ntmps160
  go_wp2_with fail
  refine (signed_any neg 0 _ (by decide)).mono ?_
  rintro r w1 ⟨rfl, rfl⟩
  go_wp2_with fail
  go_ret2
  refine ⟨rfl, ?_⟩
  repeat (first | exact Below.refl _ _ | refine bl_al ?_ _ | refine bl_drewN _ ?_ | refine Below.drew ?_)
set_option maxHeartbeats 400000 in
theorem wordOf_far (neg : Bool) (m : Nat) (e : Int) (w : World) (hm0 : ((m : Int) == 0) = false) (h : e < -1139 ∨ 1075 < e) :
    Calls Tryz.prog 160 #[.agg #[.int .i64 52, .int .u64 4503599627370495, .int .u64 2047, .int .u64 9223372036854775808, .int .u64 9218868437227405312, .int .u64 9221120237041090561, .int .i64 1075], .agg #[.bool neg, .int .u64 m, .int .i64 e]] w fun r w' => r = .returned (.tuple #[.int .u64 0, .int .i64 10]) ∧ Below w.heap.size w w' := by
  rcases h with h | h
  all_goals
    go_enter Tryz.func160, Tryz.ntmps160
    go_wp2
    go_ret2
    refine ⟨rfl, ?_⟩
    repeat (first | exact Below.refl _ _ | refine bl_al ?_ _ | refine bl_drewN _ ?_ | refine Below.drew ?_)
set_option maxHeartbeats 400000 in
theorem wordOf_none (neg : Bool) (m : Nat) (e : Int) (w : World) (hm : m < 18446744073709551616) (hm0 : ((m : Int) == 0) = false) (hT : Tab w) (hs : 3 < w.heap.size)
    (he1 : -1139 ≤ e) (he2 : e ≤ 1075) (htz : (tzOf m : Int) ≤ 63) (hl : (lenOf m : Int) ≤ 64) (h : 53 < (lenOf m : Int) ∨ (lenOf m : Int) ≤ 53 ∧ e + (tzOf m : Int) < -1074 ∨ (lenOf m : Int) ≤ 53 ∧ -1074 ≤ e + (tzOf m : Int) ∧ 2047 ≤ e + (tzOf m : Int) + (lenOf m : Int) - 1 + 1075 - 52) :
    Calls Tryz.prog 160 #[.agg #[.int .i64 52, .int .u64 4503599627370495, .int .u64 2047, .int .u64 9223372036854775808, .int .u64 9218868437227405312, .int .u64 9221120237041090561, .int .i64 1075], .agg #[.bool neg, .int .u64 m, .int .i64 e]] w fun r w' => r = .returned (.tuple #[.int .u64 0, .int .i64 10]) ∧ Below w.heap.size w w' := by
  have hsh := odd_cast m
  have HM : Hid (m < 18446744073709551616) := hm
  have HO : Hid (oddOf m < 18446744073709551616) := by have := odd_le m; exact Nat.lt_of_le_of_lt this hm
  have HL : Hid (bitLen (oddOf m) = lenOf m) := rfl
  clear hm
  rcases h with h | ⟨h, h2⟩ | ⟨h, h2, h3⟩
  all_goals
    go_enter Tryz.func160, Tryz.ntmps160
    go_wp2_with fail
    refine (tz_any m _ HM.out (hT.below hs (((Below.refl _ _).alloc (Nat.le_refl _) _).alloc (by simp) _))).mono ?_
    rintro r w1 ⟨rfl, rfl⟩
    go_wp2_with fail
    go_quiet (fail)
    go_wp2_with fail
    refine (len_any (oddOf m) _ HO.out).mono ?_
    rintro r w2 ⟨rfl, rfl⟩
    rw [HL.out]
    go_wp2_with fail
  · go_ret2
    refine ⟨rfl, ?_⟩
    repeat (first | exact Below.refl _ _ | refine bl_al ?_ _ | refine bl_drewN _ ?_ | refine Below.drew ?_)
  · refine (lowest0 _).mono ?_
    rintro r w3 ⟨rfl, rfl⟩
    go_wp2_with fail
    go_ret2
    refine ⟨rfl, ?_⟩
    repeat (first | exact Below.refl _ _ | refine bl_al ?_ _ | refine bl_drewN _ ?_ | refine Below.drew ?_)
  · refine (lowest0 _).mono ?_
    rintro r w3 ⟨rfl, rfl⟩
    go_wp2_with fail
    go_ret2
    refine ⟨rfl, ?_⟩
    repeat (first | exact Below.refl _ _ | refine bl_al ?_ _ | refine bl_drewN _ ?_ | refine Below.drew ?_)

theorem wordOf_any (neg : Bool) (m : Nat) (e : Int) (w : World) (hm : m < 18446744073709551616) (hT : Tab w) (hs : 3 < w.heap.size) :
    Calls Tryz.prog 160 #[.agg #[.int .i64 52, .int .u64 4503599627370495, .int .u64 2047, .int .u64 9223372036854775808, .int .u64 9218868437227405312, .int .u64 9221120237041090561, .int .i64 1075], .agg #[.bool neg, .int .u64 m, .int .i64 e]] w fun r w' => r = .returned (.tuple #[.int .u64 (wWord neg m e), .int .i64 (wErr m e)]) ∧ Below w.heap.size w w' := by
  by_cases h0 : m = 0
  · subst h0
    have hb : ¬ wBad 0 e := fun h => h.1 rfl
    unfold wWord wErr wMag
    rw [if_neg hb, if_neg hb, if_pos rfl]
    exact wordOf_zero neg e w
  · have hm0 : ((m : Int) == 0) = false := by simpa using h0
    have htz := (tz_spec m h0 hm).1
    have hlen := len_le m hm
    unfold wWord wErr
    by_cases hb : wBad m e
    · rw [if_pos hb, if_pos hb]
      obtain ⟨_, hb⟩ := hb
      by_cases hf : e < -1139 ∨ 1075 < e
      · exact wordOf_far neg m e w hm0 hf
      · unfold wField at hb
        exact wordOf_none neg m e w hm hm0 hT hs (by omega) (by omega) (by omega) (by omega) (by omega)
    · rw [if_neg hb, if_neg hb]
      unfold wMag
      rw [if_neg h0]
      have hb2 : ¬ (e < -1139 ∨ 1075 < e ∨ 53 < lenOf m ∨ e + (tzOf m : Int) < -1074 ∨ 2047 ≤ wField m e) := fun h => hb ⟨h0, h⟩
      unfold wField at hb2 ⊢
      by_cases hx : e + (tzOf m : Int) + (lenOf m : Int) - 1 + 1075 - 52 < 1
      · rw [if_pos hx]
        exact wordOf_sub neg m e w hm hm0 hT hs (by omega) (by omega) (by omega) (by omega) (e + (tzOf m : Int) + 1074).toNat (by omega) (by omega)
      · rw [if_neg hx]
        exact wordOf_norm neg m e w hm hm0 hT hs (by omega) (by omega) (by omega) (by omega) (by omega) (e + (tzOf m : Int) + (lenOf m : Int) - 1 + 1075 - 52).toNat (by omega) (by omega) (by omega)
theorem bl_al_then {w w1 : World} {o : Obj} (hb : Below (w.alloc o).drew.heap.size (w.alloc o).drew w1) : Below w.heap.size w w1 := bl_alloc (w := w) (o := o) ⟨hb.os, hb.tape, hb.output, hb.size, hb.block⟩
set_option maxHeartbeats 400000 in
theorem Of_any (neg : Bool) (m : Nat) (e : Int) (w : World) (hm : m < 18446744073709551616) (hT : Tab w) (hs : 3 < w.heap.size) :
    Calls Tryz.prog 128 #[.agg #[.bool neg, .int .u64 m, .int .i64 e]] w fun r w' => r = .returned (.tuple #[.float .f64 (wWord neg m e), .int .i64 (wErr m e)]) ∧ Below w.heap.size w w' := by
  have h2 := f64from
  have HM := hid hm
  clear hm
  go_enter Tryz.func128, Tryz.ntmps128
  go_wp2_with fail
  go_region_held3 (fun w' => w'.cell? ⟨w.heap.size, 0, none⟩ = some (.bool neg) ∧ w'.cell? ⟨w.heap.size, 1, none⟩ = some (.int .u64 m) ∧ w'.cell? ⟨w.heap.size, 2, none⟩ = some (.int .i64 e)) (go_keep)
    (first | (go_at_call 105; refine (layout64_any _).mono ?_; rintro r w1 ⟨rfl, hb1⟩; obtain ⟨hc, hf⟩ := bcell hb1; have hS : w1.cell? ⟨w.heap.size, 0, none⟩ = some (.bool neg) ∧ w1.cell? ⟨w.heap.size, 1, none⟩ = some (.int .u64 m) ∧ w1.cell? ⟨w.heap.size, 2, none⟩ = some (.int .i64 e) := (by refine ⟨?_, ?_, ?_⟩ <;> (rw [hc _ _ (by simp)]; simp [go_sem])); obtain ⟨s0, s1, s2⟩ := hS; clear hc hf) | (go_at_call 160; refine (wordOf_any neg m e _ HM.out ?_ ?_).mono ?_; (exact hT.below hs (bl_al_then hb1)); (exact Nat.lt_of_lt_of_le hs (bl_al_then hb1).size); rintro r w2 ⟨rfl, hb2⟩; obtain ⟨hc, hf⟩ := bcell hb2; have hS : w2.cell? ⟨w.heap.size, 0, none⟩ = some (.bool neg) ∧ w2.cell? ⟨w.heap.size, 1, none⟩ = some (.int .u64 m) ∧ w2.cell? ⟨w.heap.size, 2, none⟩ = some (.int .i64 e) := (by have hz := hb1.size; simp at hz; refine ⟨?_, ?_, ?_⟩ <;> (rw [hc _ _ (by omega)]; assumption)); obtain ⟨s0, s1, s2⟩ := hS; clear hc hf))
  go_wp2
  go_ret2
  exact ⟨rfl, bl_then (bl_al_then hb1) hb2⟩
end Go.Proofs.YtehnkgonhgjeiaaGreatDoor
