
/- What wordOf and Of do. -/
import Derived.Test.YtdahhpimhmloiaaDoorP3
import Derived.Test.YtdahhpimhmloiaaDoorP15
namespace Go.Proofs.YtdahhpimhmloiaaDoor
open Go.RowKit

set_option maxHeartbeats 400000 in
theorem wordOf_norm (neg : Bool) (m : Nat) (e : Int) (w : World) (hm : m < 18446744073709551616) (hm0 : ((m : Int) == 0) = false) (hT : Tab w) (hs : 1 < w.heap.size)
    (he1 : -1139 ≤ e) (he2 : e ≤ 1075) (htz : (tzOf m : Int) ≤ 63) (hl : (lenOf m : Int) ≤ 53) (hlow : -1074 ≤ e + (tzOf m : Int)) (X : Nat) (hX : e + (tzOf m : Int) + (lenOf m : Int) - 1 + 1075 - 52 = (X : Int)) (hex1 : 0 < X) (hex2 : X < 2047) :
    Calls Tryd.prog 86 #[.agg #[.int .i64 52, .int .u64 4503599627370495, .int .u64 2047, .int .u64 9223372036854775808, .int .u64 9218868437227405312, .int .u64 9221120237041090561, .int .i64 1075], .agg #[.bool neg, .int .u64 m, .int .i64 e]] w fun r w' => r = .returned (.tuple #[.int .u64 (signN neg (packN X (wfracOf m))), .int .i64 0]) ∧ Below w.heap.size w w' := by
  have hsh := odd_cast m
  have HX : Hid (e + (tzOf m : Int) + (lenOf m : Int) - 1 + 1075 - 52 = (X : Int)) := hX
  clear hX
  have HM : Hid (m < 18446744073709551616) := hm
  have HO : Hid (oddOf m < 18446744073709551616) := by have := odd_le m; exact Nat.lt_of_le_of_lt this hm
  have HL : Hid (bitLen (oddOf m) = lenOf m) := rfl
  clear hm
  go_enter Tryd.func86, Tryd.ntmps86
  go_wp2_with fail
  refine (tz_any m _ HM.out (hT.below hs (((Below.refl _ _).alloc (Nat.le_refl _) _).alloc (by simp) _))).mono ?_
  rintro r w1 ⟨rfl, rfl⟩
  go_wp2_with fail
  go_quiet (fail)
  go_wp2_with fail
  refine (len_any (oddOf m) _ HO.out).mono ?_
  rintro r w2 ⟨rfl, rfl⟩
  rw [HL.out]
  have hX := HX.out
  go_wp2_with fail
  refine (lowest_any 0 _ (by omega) (by omega)).mono ?_
  rintro r w3 ⟨rfl, rfl⟩
  go_wp2_with fail
  have hfr := wfrac_w m
  have HP : Hid (bits .or .u64 (IntKind.u64.wrap (IntKind.u64.wrap (X : Int) * 4503599627370496)) (wfracOf m : Int) = (packN X (wfracOf m) : Int)) := pack_w X _ (by omega) (wfrac_lt m)
  have HPL : Hid (packN X (wfracOf m) < 9223372036854775808) := pack_lt X _ (by omega) (wfrac_lt m)
  go_quiet (fail)
  go_wp2_with fail
  go_region_held3 (fun w' => (w'.cell? ⟨w.heap.size, 0, none⟩ = some (.int .i64 52) ∧ w'.cell? ⟨w.heap.size, 1, none⟩ = some (.int .u64 4503599627370495) ∧ w'.cell? ⟨w.heap.size, 2, none⟩ = some (.int .u64 2047) ∧ w'.cell? ⟨w.heap.size, 3, none⟩ = some (.int .u64 9223372036854775808) ∧ w'.cell? ⟨w.heap.size, 4, none⟩ = some (.int .u64 9218868437227405312) ∧ w'.cell? ⟨w.heap.size, 5, none⟩ = some (.int .u64 9221120237041090561) ∧ w'.cell? ⟨w.heap.size, 6, none⟩ = some (.int .i64 1075)) ∧ (w'.cell? ⟨w.heap.size + 1, 0, none⟩ = some (.bool neg) ∧ w'.cell? ⟨w.heap.size + 1, 1, none⟩ = some (.int .u64 m) ∧ w'.cell? ⟨w.heap.size + 1, 2, none⟩ = some (.int .i64 e))) (go_keep)
    (first | (go_at_call 88; rw [HP.out]; refine (signed_any neg (packN X (wfracOf m)) _ HPL.out).mono ?_; rintro r w' ⟨rfl, rfl⟩))
  go_wp2
  go_ret2
  refine ⟨rfl, ?_⟩
  repeat (first | exact Below.refl _ _ | refine bl_al ?_ _ | refine bl_drewN _ ?_ | refine Below.drew ?_)

set_option maxHeartbeats 400000 in
theorem wordOf_sub (neg : Bool) (m : Nat) (e : Int) (w : World) (hm : m < 18446744073709551616) (hm0 : ((m : Int) == 0) = false) (hT : Tab w) (hs : 1 < w.heap.size)
    (he1 : -1139 ≤ e) (he2 : e ≤ 1075) (htz : (tzOf m : Int) ≤ 63) (hl : (lenOf m : Int) ≤ 53) (L : Nat) (hlow : e + (tzOf m : Int) = (L : Int) - 1074) (hex2 : L + lenOf m ≤ 52) :
    Calls Tryd.prog 86 #[.agg #[.int .i64 52, .int .u64 4503599627370495, .int .u64 2047, .int .u64 9223372036854775808, .int .u64 9218868437227405312, .int .u64 9221120237041090561, .int .i64 1075], .agg #[.bool neg, .int .u64 m, .int .i64 e]] w fun r w' => r = .returned (.tuple #[.int .u64 (signN neg (oddOf m * 2 ^ L)), .int .i64 0]) ∧ Below w.heap.size w w' := by
  have hsh := odd_cast m
  have HX : Hid (e + (tzOf m : Int) = (L : Int) - 1074) := hlow
  have HM : Hid (m < 18446744073709551616) := hm
  have HO : Hid (oddOf m < 18446744073709551616) := by have := odd_le m; exact Nat.lt_of_le_of_lt this hm
  have HL : Hid (bitLen (oddOf m) = lenOf m) := rfl
  clear hm hlow
  have hlo : -1074 ≤ e + (tzOf m : Int) := by have := HX.out; omega
  have hhi : e + (tzOf m : Int) + (lenOf m : Int) - 1 + 1075 - 52 < 1 := by have := HX.out; omega
  have HP : Hid (IntKind.u64.wrap ((oddOf m : Int) * 2 ^ L) = ((oddOf m * 2 ^ L : Nat) : Int)) := sub_w m L hex2
  have HPL : Hid (oddOf m * 2 ^ L < 9223372036854775808) := by have := sub_lt_w m L hex2; exact Nat.lt_trans this (by decide)
  have hw1 : IntKind.i64.wrap (e + (tzOf m : Int) - -1074) = (L : Int) := by have := HX.out; rw [IntWalk.i64_in _ (by omega)]; omega
  have hw2 : IntKind.i64.wrap (e + (tzOf m : Int) + 1074) = (L : Int) := by have := HX.out; rw [IntWalk.i64_in _ (by omega)]; omega
  go_enter Tryd.func86, Tryd.ntmps86
  go_wp2_with fail
  refine (tz_any m _ HM.out (hT.below hs (((Below.refl _ _).alloc (Nat.le_refl _) _).alloc (by simp) _))).mono ?_
  rintro r w1 ⟨rfl, rfl⟩
  go_wp2_with fail
  go_quiet (fail)
  go_wp2_with fail
  refine (len_any (oddOf m) _ HO.out).mono ?_
  rintro r w2 ⟨rfl, rfl⟩
  rw [HL.out]
  go_wp2_with fail
  refine (lowest0_b _).mono ?_
  rintro r w3 ⟨rfl, hb⟩
  obtain ⟨hc, hf⟩ := bcell hb
  have hcells : (w3.cell? ⟨w.heap.size, 0, none⟩ = some (.int .i64 52) ∧ w3.cell? ⟨w.heap.size, 1, none⟩ = some (.int .u64 4503599627370495) ∧ w3.cell? ⟨w.heap.size, 2, none⟩ = some (.int .u64 2047) ∧ w3.cell? ⟨w.heap.size, 3, none⟩ = some (.int .u64 9223372036854775808) ∧ w3.cell? ⟨w.heap.size, 4, none⟩ = some (.int .u64 9218868437227405312) ∧ w3.cell? ⟨w.heap.size, 5, none⟩ = some (.int .u64 9221120237041090561) ∧ w3.cell? ⟨w.heap.size, 6, none⟩ = some (.int .i64 1075)) ∧ (w3.cell? ⟨w.heap.size + 1, 0, none⟩ = some (.bool neg) ∧ w3.cell? ⟨w.heap.size + 1, 1, none⟩ = some (.int .u64 m) ∧ w3.cell? ⟨w.heap.size + 1, 2, none⟩ = some (.int .i64 e)) := by
    refine ⟨⟨?_, ?_, ?_, ?_, ?_, ?_, ?_⟩, ?_, ?_, ?_⟩ <;> (rw [hc _ _ (by simp <;> omega)]; simp [go_sem])
  have hz : w.heap.size + 1 < w3.heap.size := by have := hb.size; simp at this; omega
  have hbb : Hid (Below w.heap.size w w3) := by
    refine Below.trans ?_ (hb.mono ?_)
    · repeat (first | exact Below.refl _ _ | refine bl_al ?_ _ | refine bl_drewN _ ?_)
    · simp; omega
  clear hc hf hb
  obtain ⟨⟨q0, q1, q2, q3, q4, q5, q6⟩, p0, p1, p2⟩ := hcells
  go_wp2_with fail
  go_region_held3 (fun w' => (w'.cell? ⟨w.heap.size, 0, none⟩ = some (.int .i64 52) ∧ w'.cell? ⟨w.heap.size, 1, none⟩ = some (.int .u64 4503599627370495) ∧ w'.cell? ⟨w.heap.size, 2, none⟩ = some (.int .u64 2047) ∧ w'.cell? ⟨w.heap.size, 3, none⟩ = some (.int .u64 9223372036854775808) ∧ w'.cell? ⟨w.heap.size, 4, none⟩ = some (.int .u64 9218868437227405312) ∧ w'.cell? ⟨w.heap.size, 5, none⟩ = some (.int .u64 9221120237041090561) ∧ w'.cell? ⟨w.heap.size, 6, none⟩ = some (.int .i64 1075)) ∧ (w'.cell? ⟨w.heap.size + 1, 0, none⟩ = some (.bool neg) ∧ w'.cell? ⟨w.heap.size + 1, 1, none⟩ = some (.int .u64 m) ∧ w'.cell? ⟨w.heap.size + 1, 2, none⟩ = some (.int .i64 e))) (go_keep)
    (first | (go_at_call 79; refine (lowest0 _).mono ?_; rintro r w' ⟨rfl, rfl⟩) | (go_at_call 88; rw [HP.out]; refine (signed_any neg (oddOf m * 2 ^ L) _ HPL.out).mono ?_; rintro r w' ⟨rfl, rfl⟩))
  go_wp2
  go_ret2
  refine ⟨rfl, ?_⟩
  repeat (first | exact hbb.out | refine bl_al ?_ _ | refine bl_drewN _ ?_ | refine Below.drew ?_)
end Go.Proofs.YtdahhpimhmloiaaDoor
