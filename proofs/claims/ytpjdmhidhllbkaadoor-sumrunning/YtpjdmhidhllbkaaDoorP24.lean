
/- What partsOf and Parts do. -/
import Derived.Test.YtpjdmhidhllbkaaDoorP7
import Derived.Test.YtpjdmhidhllbkaaDoorP21
import Derived.Test.YtpjdmhidhllbkaaDoorP5
namespace Go.Proofs.YtpjdmhidhllbkaaDoor
open Go.RowKit

set_option maxHeartbeats 400000 in
theorem partsOf_bad (x : Nat) (w : World) (hx : x < 18446744073709551616) (he : expOf x = 2047) :
    Calls Tryd.prog 74 #[.agg #[.int .i64 52, .int .u64 4503599627370495, .int .u64 2047, .int .u64 9223372036854775808, .int .u64 9218868437227405312, .int .u64 9221120237041090561, .int .i64 1075], .int .u64 x] w fun r w' => r = .returned (.tuple #[.agg #[.bool false, .int .u64 0, .int .i64 0], .int .i64 4]) ∧ Below w.heap.size w w' := by
  have H : Hid (expOf x = 2047) := he
  clear he
  go_enter Tryd.func74, Tryd.ntmps74
  go_wp2_with fail
  refine (split64_any x _ hx).mono ?_
  rintro e w1 ⟨rfl, hb⟩
  obtain ⟨hc, hf⟩ := bcell hb
  have hz : w.heap.size + 1 < w1.heap.size := by have := hb.size; simp at this; omega
  rw [H.out]
  go_wp2_with fail
  refine bodyPost_ret (v := .tuple #[.agg #[.bool false, .int .u64 0, .int .i64 0], .int .i64 4]) (by simp [results, Tryd.results74, go_sem, hc]) rfl ⟨rfl, ?_⟩
  repeat (first | exact bl_alloc2 hb | refine Below.setCell ?_ (by simp) _)
set_option maxHeartbeats 400000 in
theorem partsOf_zero (x : Nat) (w : World) (hx : x < 18446744073709551616) (he : expOf x = 0) (hm : fracOf x = 0) :
    Calls Tryd.prog 74 #[.agg #[.int .i64 52, .int .u64 4503599627370495, .int .u64 2047, .int .u64 9223372036854775808, .int .u64 9218868437227405312, .int .u64 9221120237041090561, .int .i64 1075], .int .u64 x] w fun r w' => r = .returned (.tuple #[.agg #[.bool (negOf x), .int .u64 0, .int .i64 0], .int .i64 0]) ∧ Below w.heap.size w w' := by
  have H : Hid (expOf x = 0) := he
  have H2 : Hid (fracOf x = 0) := hm
  clear he hm
  go_enter Tryd.func74, Tryd.ntmps74
  go_wp2_with fail
  refine (split64_any x _ hx).mono ?_
  rintro e w1 ⟨rfl, hb⟩
  obtain ⟨hc, hf⟩ := bcell hb
  have hz : w.heap.size + 1 < w1.heap.size := by have := hb.size; simp at this; omega
  rw [H.out, H2.out]
  go_wp2_with fail
  refine bodyPost_ret (v := .tuple #[.agg #[.bool (negOf x), .int .u64 0, .int .i64 0], .int .i64 0]) (by simp [results, Tryd.results74, go_sem, hc]) rfl ⟨rfl, ?_⟩
  repeat (first | exact bl_alloc2 hb | refine Below.setCell ?_ (by simp) _)
set_option maxHeartbeats 400000 in
theorem partsOf_norm (x : Nat) (w : World) (hx : x < 18446744073709551616) (he : 0 < expOf x) (he2 : expOf x < 2047) (hT : Tab w) (hs : 3 < w.heap.size) :
    Calls Tryd.prog 74 #[.agg #[.int .i64 52, .int .u64 4503599627370495, .int .u64 2047, .int .u64 9223372036854775808, .int .u64 9218868437227405312, .int .u64 9221120237041090561, .int .i64 1075], .int .u64 x] w fun r w' => r = .returned (.tuple #[.agg #[.bool (negOf x), .int .u64 ((mantOf x / 2 ^ tzOf (mantOf x) : Nat) : Int), .int .i64 ((expOf x : Int) - 1075 + (tzOf (mantOf x) : Int))], .int .i64 0]) ∧ Below w.heap.size w w' := by
  have hor := or_hidden he
  have hml : mantOf x < 18446744073709551616 := by have := mant_lt x; omega
  have hm0 : mantOf x ≠ 0 := by unfold mantOf; rw [if_pos he]; omega
  have htz : (tzOf (mantOf x) : Int) ≤ 63 := by have := (tz_spec (mantOf x) hm0 hml).1; omega
  have HML : Hid (mantOf x < 18446744073709551616) := hml
  clear hml hm0
  go_enter Tryd.func74, Tryd.ntmps74
  go_wp2_with fail
  refine (split64_any x _ hx).mono ?_
  rintro e w1 ⟨rfl, hb⟩
  obtain ⟨hc, hf⟩ := bcell hb
  have hz : w.heap.size + 1 < w1.heap.size := by have := hb.size; simp at this; omega
  have hT1 : Tab w1 := hT.below hs (bl_alloc2 hb)
  have hcells : (w1.cell? ⟨w.heap.size, 0, none⟩ = some (.int .i64 52) ∧ w1.cell? ⟨w.heap.size, 1, none⟩ = some (.int .u64 4503599627370495) ∧ w1.cell? ⟨w.heap.size, 2, none⟩ = some (.int .u64 2047) ∧ w1.cell? ⟨w.heap.size, 3, none⟩ = some (.int .u64 9223372036854775808) ∧ w1.cell? ⟨w.heap.size, 4, none⟩ = some (.int .u64 9218868437227405312) ∧ w1.cell? ⟨w.heap.size, 5, none⟩ = some (.int .u64 9221120237041090561) ∧ w1.cell? ⟨w.heap.size, 6, none⟩ = some (.int .i64 1075)) := by
    refine ⟨?_, ?_, ?_, ?_, ?_, ?_, ?_⟩ <;> (rw [hc _ _ (by simp; omega)]; simp [go_sem])
  obtain ⟨q0, q1, q2, q3, q4, q5, q6⟩ := hcells
  have hr : w1.cell? ⟨w.heap.size + 1, 0, none⟩ = some (.bool false) ∧ w1.cell? ⟨w.heap.size + 1, 1, none⟩ = some (.int .u64 0) ∧ w1.cell? ⟨w.heap.size + 1, 2, none⟩ = some (.int .i64 0) := by
    refine ⟨?_, ?_, ?_⟩ <;> (rw [hc _ _ (by simp)]; simp [go_sem])
  obtain ⟨r0, r1, r2⟩ := hr
  have hfz : ∀ (o : Obj) (i : Nat), (w1.alloc o).frozen? ⟨w.heap.size + 1, i, none⟩ = false := fun o i => by
    rw [((Below.refl w1.heap.size w1).alloc (Nat.le_refl _) o).frozen (p := ⟨w.heap.size + 1, i, none⟩) hz, hf _ _ (by simp)]; simp [go_sem]
  go_wp2_with fail
  refine (tz_any (mantOf x) _ HML.out hT1).mono ?_
  rintro e w2 ⟨rfl, rfl⟩
  go_wp2_with fail
  go_region_held3 (fun w' => (w'.cell? ⟨w.heap.size, 0, none⟩ = some (.int .i64 52) ∧ w'.cell? ⟨w.heap.size, 1, none⟩ = some (.int .u64 4503599627370495) ∧ w'.cell? ⟨w.heap.size, 2, none⟩ = some (.int .u64 2047) ∧ w'.cell? ⟨w.heap.size, 3, none⟩ = some (.int .u64 9223372036854775808) ∧ w'.cell? ⟨w.heap.size, 4, none⟩ = some (.int .u64 9218868437227405312) ∧ w'.cell? ⟨w.heap.size, 5, none⟩ = some (.int .u64 9221120237041090561) ∧ w'.cell? ⟨w.heap.size, 6, none⟩ = some (.int .i64 1075))) (go_keep)
    (first | (go_at_call 93; refine (lowest_any _ _ ?_ ?_).mono ?_; omega; omega; rintro e w' ⟨rfl, rfl⟩))
  go_wp2
  refine bodyPost_ret (v := .tuple #[.agg #[.bool (negOf x), .int .u64 ((mantOf x : Int) / 2 ^ tzOf (mantOf x)), .int .i64 (IntKind.i64.wrap (max (expOf x : Int) 1 - 1075 + (tzOf (mantOf x) : Int)))], .int .i64 0]) (by simp [results, Tryd.results74, go_sem, hz, r0, r1, r2]) rfl ⟨?_, ?_⟩
  · rw [IntWalk.i64_in _ (by omega)]
    exact ret_parts rfl (by rw [Int.natCast_ediv, Int.natCast_pow]; rfl) (by omega) rfl
  · exact Below.drew (Below.alloc (Below.setCell (Below.setCell (Below.setCell (bl_alloc2 hb) (by simp) _) (by simp) _) (by simp) _) (by simp; omega) _)

set_option maxHeartbeats 400000 in
theorem Parts_norm (x : Nat) (w : World) (hx : x < 18446744073709551616) (he : 0 < expOf x) (he2 : expOf x < 2047) (hT : Tab w) (hs : 3 < w.heap.size) :
    Calls Tryd.prog 60 #[.float .f64 x] w fun r w' => r = .returned (.tuple #[.agg #[.bool (negOf x), .int .u64 ((mantOf x / 2 ^ tzOf (mantOf x) : Nat) : Int), .int .i64 ((expOf x : Int) - 1075 + (tzOf (mantOf x) : Int))], .int .i64 0]) ∧ Below w.heap.size w w' := by
  have h1 := f64bits
  go_enter Tryd.func60, Tryd.ntmps60
  go_wp2_with fail
  refine (layout64_any _).mono ?_
  rintro r w1 ⟨rfl, hb⟩
  go_wp2_with fail
  refine (partsOf_norm x _ hx he he2 (hT.below hs (bl_alloc hb)) (by have := hb.size; simp at this; omega)).mono ?_
  rintro r w2 ⟨rfl, hb2⟩
  obtain ⟨hc, hf⟩ := bcell hb
  obtain ⟨hc2, hf2⟩ := bcell hb2
  have hz : w.heap.size < w1.heap.size := by have := hb.size; simp at this; omega
  have hz2 : w.heap.size < w2.heap.size := Nat.lt_of_lt_of_le hz hb2.size
  have hr : w2.cell? ⟨w.heap.size, 0, none⟩ = some (.bool false) ∧ w2.cell? ⟨w.heap.size, 1, none⟩ = some (.int .u64 0) ∧ w2.cell? ⟨w.heap.size, 2, none⟩ = some (.int .i64 0) := by
    refine ⟨?_, ?_, ?_⟩ <;> (rw [hc2 _ _ hz, hc _ _ (by simp)]; simp [go_sem])
  have hfz : ∀ i, w2.frozen? ⟨w.heap.size, i, none⟩ = false := fun i => by rw [hf2 _ _ hz, hf _ _ (by simp)]; simp [go_sem]
  obtain ⟨r0, r1, r2⟩ := hr
  have hbb : Hid (Below w.heap.size w w2) := bl_then (bl_alloc hb) hb2
  clear hc hf hc2 hf2 hb hb2
  obtain ⟨M, HM⟩ : ∃ M : Nat, Hid ((mantOf x / 2 ^ tzOf (mantOf x) : Nat) = M) := ⟨_, rfl⟩
  obtain ⟨E, HE⟩ : ∃ E : Int, Hid ((expOf x : Int) - 1075 + (tzOf (mantOf x) : Int) = E) := ⟨_, rfl⟩
  rw [HM.out, HE.out]
  go_wp2_with fail
  refine bodyPost_ret (v := .tuple #[.agg #[.bool (negOf x), .int .u64 M, .int .i64 E], .int .i64 0]) (by simp [results, Tryd.results60, go_sem, r0, r1, r2]) rfl ⟨by rw [HM.out, HE.out], ?_⟩
  repeat (first | exact hbb.out | refine Below.setCell ?_ (by simp) _)
end Go.Proofs.YtpjdmhidhllbkaaDoor

namespace Go.Proofs.YtpjdmhidhllbkaaDoor
open Go.RowKit Go.IntWalk

set_option maxHeartbeats 400000 in
theorem partsOf_sub (x : Nat) (w : World) (hx : x < 18446744073709551616) (he : expOf x = 0) (hfz : fracOf x ≠ 0) (hT : Tab w) (hs : 3 < w.heap.size) :
    Calls Tryd.prog 74 #[.agg #[.int .i64 52, .int .u64 4503599627370495, .int .u64 2047, .int .u64 9223372036854775808, .int .u64 9218868437227405312, .int .u64 9221120237041090561, .int .i64 1075], .int .u64 x] w fun r w' => r = .returned (.tuple #[.agg #[.bool (negOf x), .int .u64 ((mantOf x / 2 ^ tzOf (mantOf x) : Nat) : Int), .int .i64 ((tzOf (mantOf x) : Int) - 1074)], .int .i64 0]) ∧ Below w.heap.size w w' := by
  have HE : Hid (expOf x = 0) := he
  have hmf : mantOf x = fracOf x := by unfold mantOf; rw [if_neg (by omega)]
  have HMF : Hid (fracOf x = mantOf x) := hmf.symm
  have hne0 : ((mantOf x : Int) == 0) = false := by rw [hmf]; simpa using hfz
  have hml : mantOf x < 18446744073709551616 := by have := mant_lt x; omega
  have hm0 : mantOf x ≠ 0 := by rw [hmf]; exact hfz
  have htz : (tzOf (mantOf x) : Int) ≤ 63 := by have := (tz_spec (mantOf x) hm0 hml).1; omega
  have HML : Hid (mantOf x < 18446744073709551616) := hml
  clear hml hm0 he hmf hfz
  go_enter Tryd.func74, Tryd.ntmps74
  go_wp2_with fail
  refine (split64_any x _ hx).mono ?_
  rw [HE.out, HMF.out]
  rintro e w1 ⟨rfl, hb⟩
  obtain ⟨hc, hf⟩ := bcell hb
  have hz : w.heap.size + 1 < w1.heap.size := by have := hb.size; simp at this; omega
  have hT1 : Tab w1 := hT.below hs (bl_alloc2 hb)
  have hcells : (w1.cell? ⟨w.heap.size, 0, none⟩ = some (.int .i64 52) ∧ w1.cell? ⟨w.heap.size, 1, none⟩ = some (.int .u64 4503599627370495) ∧ w1.cell? ⟨w.heap.size, 2, none⟩ = some (.int .u64 2047) ∧ w1.cell? ⟨w.heap.size, 3, none⟩ = some (.int .u64 9223372036854775808) ∧ w1.cell? ⟨w.heap.size, 4, none⟩ = some (.int .u64 9218868437227405312) ∧ w1.cell? ⟨w.heap.size, 5, none⟩ = some (.int .u64 9221120237041090561) ∧ w1.cell? ⟨w.heap.size, 6, none⟩ = some (.int .i64 1075)) := by
    refine ⟨?_, ?_, ?_, ?_, ?_, ?_, ?_⟩ <;> (rw [hc _ _ (by simp; omega)]; simp [go_sem])
  obtain ⟨q0, q1, q2, q3, q4, q5, q6⟩ := hcells
  have hr : w1.cell? ⟨w.heap.size + 1, 0, none⟩ = some (.bool false) ∧ w1.cell? ⟨w.heap.size + 1, 1, none⟩ = some (.int .u64 0) ∧ w1.cell? ⟨w.heap.size + 1, 2, none⟩ = some (.int .i64 0) := by
    refine ⟨?_, ?_, ?_⟩ <;> (rw [hc _ _ (by simp)]; simp [go_sem])
  obtain ⟨r0, r1, r2⟩ := hr
  have hfz : ∀ (o : Obj) (i : Nat), (w1.alloc o).frozen? ⟨w.heap.size + 1, i, none⟩ = false := fun o i => by
    rw [((Below.refl w1.heap.size w1).alloc (Nat.le_refl _) o).frozen (p := ⟨w.heap.size + 1, i, none⟩) hz, hf _ _ (by simp)]; simp [go_sem]
  go_wp2_with fail
  refine (tz_any (mantOf x) _ HML.out hT1).mono ?_
  rintro e w2 ⟨rfl, rfl⟩
  go_wp2_with fail
  go_region_held3 (fun w' => (w'.cell? ⟨w.heap.size, 0, none⟩ = some (.int .i64 52) ∧ w'.cell? ⟨w.heap.size, 1, none⟩ = some (.int .u64 4503599627370495) ∧ w'.cell? ⟨w.heap.size, 2, none⟩ = some (.int .u64 2047) ∧ w'.cell? ⟨w.heap.size, 3, none⟩ = some (.int .u64 9223372036854775808) ∧ w'.cell? ⟨w.heap.size, 4, none⟩ = some (.int .u64 9218868437227405312) ∧ w'.cell? ⟨w.heap.size, 5, none⟩ = some (.int .u64 9221120237041090561) ∧ w'.cell? ⟨w.heap.size, 6, none⟩ = some (.int .i64 1075))) (go_keep)
    (first | (go_at_call 93; refine (lowest0 _).mono ?_; rintro e w' ⟨rfl, rfl⟩))
  go_wp2
  refine bodyPost_ret (v := .tuple #[.agg #[.bool (negOf x), .int .u64 ((mantOf x : Int) / 2 ^ tzOf (mantOf x)), .int .i64 (IntKind.i64.wrap (-1074 + (tzOf (mantOf x) : Int)))], .int .i64 0]) (by simp [results, Tryd.results74, go_sem, hz, r0, r1, r2]) rfl ⟨?_, ?_⟩
  · rw [IntWalk.i64_in _ (by omega)]
    exact ret_parts rfl (by rw [Int.natCast_ediv, Int.natCast_pow]; rfl) (by omega) rfl
  · exact Below.drew (Below.alloc (Below.setCell (Below.setCell (Below.setCell (bl_alloc2 hb) (by simp) _) (by simp) _) (by simp) _) (by simp; omega) _)

theorem partsOf_any (x : Nat) (w : World) (hx : x < 18446744073709551616) (hT : Tab w) (hs : 3 < w.heap.size) :
    Calls Tryd.prog 74 #[.agg #[.int .i64 52, .int .u64 4503599627370495, .int .u64 2047, .int .u64 9223372036854775808, .int .u64 9218868437227405312, .int .u64 9221120237041090561, .int .i64 1075], .int .u64 x] w fun r w' => r = .returned (.tuple #[.agg #[.bool (pNeg x), .int .u64 (pMant x), .int .i64 (pExp x)], .int .i64 (pErr x)]) ∧ Below w.heap.size w w' := by
  unfold pNeg pMant pExp pErr
  by_cases h1 : expOf x = 2047
  · rw [if_pos h1, if_pos h1, if_pos (Or.inl h1), if_pos h1]; exact partsOf_bad x w hx h1
  · rw [if_neg h1, if_neg h1, if_neg h1]
    have hl := exp_lt x
    by_cases h2 : expOf x = 0
    · have hmf : mantOf x = fracOf x := by unfold mantOf; rw [if_neg (by omega)]
      by_cases h3 : fracOf x = 0
      · rw [if_pos (Or.inr (hmf.trans h3)), hmf, h3, odd_zero]; exact partsOf_zero x w hx h2 h3
      · rw [if_neg (by rw [hmf]; omega)]
        refine (partsOf_sub x w hx h2 h3 hT hs).mono ?_
        rintro r w' ⟨rfl, hb⟩
        exact ⟨ret_parts rfl rfl (by rw [h2]; omega) rfl, hb⟩
    · rw [if_neg (by have : mantOf x ≠ 0 := by unfold mantOf; rw [if_pos (by omega)]; omega
                     omega)]
      refine (partsOf_norm x w hx (by omega) (by omega) hT hs).mono ?_
      rintro r w' ⟨rfl, hb⟩
      exact ⟨ret_parts rfl rfl (by omega) rfl, hb⟩

set_option maxHeartbeats 400000 in
theorem Parts_any (x : Nat) (w : World) (hx : x < 18446744073709551616) (hT : Tab w) (hs : 3 < w.heap.size) :
    Calls Tryd.prog 60 #[.float .f64 x] w fun r w' => r = .returned (.tuple #[.agg #[.bool (pNeg x), .int .u64 (pMant x), .int .i64 (pExp x)], .int .i64 (pErr x)]) ∧ Below w.heap.size w w' := by
  have h1 := f64bits
  go_enter Tryd.func60, Tryd.ntmps60
  go_wp2_with fail
  refine (layout64_any _).mono ?_
  rintro r w1 ⟨rfl, hb⟩
  go_wp2_with fail
  refine (partsOf_any x _ hx (hT.below hs (bl_alloc hb)) (by have := hb.size; simp at this; omega)).mono ?_
  rintro r w2 ⟨rfl, hb2⟩
  obtain ⟨hc, hf⟩ := bcell hb
  obtain ⟨hc2, hf2⟩ := bcell hb2
  have hz : w.heap.size < w1.heap.size := by have := hb.size; simp at this; omega
  have hz2 : w.heap.size < w2.heap.size := Nat.lt_of_lt_of_le hz hb2.size
  have hr : w2.cell? ⟨w.heap.size, 0, none⟩ = some (.bool false) ∧ w2.cell? ⟨w.heap.size, 1, none⟩ = some (.int .u64 0) ∧ w2.cell? ⟨w.heap.size, 2, none⟩ = some (.int .i64 0) := by
    refine ⟨?_, ?_, ?_⟩ <;> (rw [hc2 _ _ hz, hc _ _ (by simp)]; simp [go_sem])
  have hfz : ∀ i, w2.frozen? ⟨w.heap.size, i, none⟩ = false := fun i => by rw [hf2 _ _ hz, hf _ _ (by simp)]; simp [go_sem]
  obtain ⟨r0, r1, r2⟩ := hr
  have hbb : Hid (Below w.heap.size w w2) := bl_then (bl_alloc hb) hb2
  clear hc hf hc2 hf2 hb hb2
  obtain ⟨N, HN⟩ : ∃ N, Hid (pNeg x = N) := ⟨_, rfl⟩
  obtain ⟨M, HM⟩ : ∃ M, Hid (pMant x = M) := ⟨_, rfl⟩
  obtain ⟨E, HE⟩ : ∃ E, Hid (pExp x = E) := ⟨_, rfl⟩
  obtain ⟨R, HR⟩ : ∃ R, Hid (pErr x = R) := ⟨_, rfl⟩
  rw [HN.out, HM.out, HE.out, HR.out]
  go_wp2_with fail
  refine bodyPost_ret (v := .tuple #[.agg #[.bool N, .int .u64 M, .int .i64 E], .int .i64 R]) (by simp [results, Tryd.results60, go_sem, r0, r1, r2]) rfl ⟨by rw [HN.out, HM.out, HE.out, HR.out], ?_⟩
  repeat (first | exact hbb.out | refine Below.setCell ?_ (by simp) _)
end Go.Proofs.YtpjdmhidhllbkaaDoor
