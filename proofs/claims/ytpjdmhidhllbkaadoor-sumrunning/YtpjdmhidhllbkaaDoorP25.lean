
/- What wordOf and Of do. -/
import Derived.Test.YtpjdmhidhllbkaaDoorP7
import Derived.Test.YtpjdmhidhllbkaaDoorP21
import Derived.Test.YtpjdmhidhllbkaaDoorP5
namespace Go.Proofs.YtpjdmhidhllbkaaDoor
open Go.RowKit

set_option maxHeartbeats 400000 in
theorem wordOf_norm (neg : Bool) (m : Nat) (e : Int) (w : World) (hm : m < 18446744073709551616) (hm0 : ((m : Int) == 0) = false) (hT : Tab w) (hs : 3 < w.heap.size)
    (he1 : -1139 ≤ e) (he2 : e ≤ 1075) (htz : (tzOf m : Int) ≤ 63) (hl : (lenOf m : Int) ≤ 53) (hlow : -1074 ≤ e + (tzOf m : Int)) (X : Nat) (hX : e + (tzOf m : Int) + (lenOf m : Int) - 1 + 1075 - 52 = (X : Int)) (hex1 : 0 < X) (hex2 : X < 2047) :
    Calls Tryd.prog 91 #[.agg #[.int .i64 52, .int .u64 4503599627370495, .int .u64 2047, .int .u64 9223372036854775808, .int .u64 9218868437227405312, .int .u64 9221120237041090561, .int .i64 1075], .agg #[.bool neg, .int .u64 m, .int .i64 e]] w fun r w' => r = .returned (.tuple #[.int .u64 (signN neg (packN X (wfracOf m))), .int .i64 0]) ∧ Below w.heap.size w w' := by
  have hsh := odd_cast m
  have HX : Hid (e + (tzOf m : Int) + (lenOf m : Int) - 1 + 1075 - 52 = (X : Int)) := hX
  clear hX
  have HM : Hid (m < 18446744073709551616) := hm
  have HO : Hid (oddOf m < 18446744073709551616) := by have := odd_le m; exact Nat.lt_of_le_of_lt this hm
  have HL : Hid (bitLen (oddOf m) = lenOf m) := rfl
  clear hm
  go_enter Tryd.func91, Tryd.ntmps91
  go_wp2_with fail
  refine (tz_any m _ HM.out (hT.below hs (((Below.refl _ _).alloc (Nat.le_refl _) _).alloc (by simp) _))).mono ?_
  rintro r w1 ⟨rfl, rfl⟩
  go_wp2_with fail
  go_quiet (fail)
  go_wp2_with fail
  refine (len_any (oddOf m) _ HO.out).mono ?_
  rintro r w2 ⟨rfl, rfl⟩
  rw [HL.out]
  have hX := HX.out
  go_wp2_with fail
  refine (lowest_any 0 _ (by omega) (by omega)).mono ?_
  rintro r w3 ⟨rfl, rfl⟩
  go_wp2_with fail
  have hfr := wfrac_w m
  have HP : Hid (bits .or .u64 (IntKind.u64.wrap (IntKind.u64.wrap (X : Int) * 4503599627370496)) (wfracOf m : Int) = (packN X (wfracOf m) : Int)) := pack_w X _ (by omega) (wfrac_lt m)
  have HPL : Hid (packN X (wfracOf m) < 9223372036854775808) := pack_lt X _ (by omega) (wfrac_lt m)
  go_quiet (fail)
  go_wp2_with fail
  go_region_held3 (fun w' => (w'.cell? ⟨w.heap.size, 0, none⟩ = some (.int .i64 52) ∧ w'.cell? ⟨w.heap.size, 1, none⟩ = some (.int .u64 4503599627370495) ∧ w'.cell? ⟨w.heap.size, 2, none⟩ = some (.int .u64 2047) ∧ w'.cell? ⟨w.heap.size, 3, none⟩ = some (.int .u64 9223372036854775808) ∧ w'.cell? ⟨w.heap.size, 4, none⟩ = some (.int .u64 9218868437227405312) ∧ w'.cell? ⟨w.heap.size, 5, none⟩ = some (.int .u64 9221120237041090561) ∧ w'.cell? ⟨w.heap.size, 6, none⟩ = some (.int .i64 1075)) ∧ (w'.cell? ⟨w.heap.size + 1, 0, none⟩ = some (.bool neg) ∧ w'.cell? ⟨w.heap.size + 1, 1, none⟩ = some (.int .u64 m) ∧ w'.cell? ⟨w.heap.size + 1, 2, none⟩ = some (.int .i64 e))) (go_keep)
    (first | (go_at_call 97; rw [HP.out]; refine (signed_any neg (packN X (wfracOf m)) _ HPL.out).mono ?_; rintro r w' ⟨rfl, rfl⟩))
  go_wp2
  go_ret2
  refine ⟨rfl, ?_⟩
  repeat (first | exact Below.refl _ _ | refine bl_al ?_ _ | refine bl_drewN _ ?_ | refine Below.drew ?_)

set_option maxHeartbeats 400000 in
theorem wordOf_sub (neg : Bool) (m : Nat) (e : Int) (w : World) (hm : m < 18446744073709551616) (hm0 : ((m : Int) == 0) = false) (hT : Tab w) (hs : 3 < w.heap.size)
    (he1 : -1139 ≤ e) (he2 : e ≤ 1075) (htz : (tzOf m : Int) ≤ 63) (hl : (lenOf m : Int) ≤ 53) (L : Nat) (hlow : e + (tzOf m : Int) = (L : Int) - 1074) (hex2 : L + lenOf m ≤ 52) :
    Calls Tryd.prog 91 #[.agg #[.int .i64 52, .int .u64 4503599627370495, .int .u64 2047, .int .u64 9223372036854775808, .int .u64 9218868437227405312, .int .u64 9221120237041090561, .int .i64 1075], .agg #[.bool neg, .int .u64 m, .int .i64 e]] w fun r w' => r = .returned (.tuple #[.int .u64 (signN neg (oddOf m * 2 ^ L)), .int .i64 0]) ∧ Below w.heap.size w w' := by
  have hsh := odd_cast m
  have HX : Hid (e + (tzOf m : Int) = (L : Int) - 1074) := hlow
  have HM : Hid (m < 18446744073709551616) := hm
  have HO : Hid (oddOf m < 18446744073709551616) := by have := odd_le m; exact Nat.lt_of_le_of_lt this hm
  have HL : Hid (bitLen (oddOf m) = lenOf m) := rfl
  clear hm hlow
  have hlo : -1074 ≤ e + (tzOf m : Int) := by have := HX.out; omega
  have hhi : e + (tzOf m : Int) + (lenOf m : Int) - 1 + 1075 - 52 < 1 := by have := HX.out; omega
  have HP : Hid (IntKind.u64.wrap ((oddOf m : Int) * 2 ^ L) = ((oddOf m * 2 ^ L : Nat) : Int)) := sub_w m L hex2
  have HPL : Hid (oddOf m * 2 ^ L < 9223372036854775808) := by have := sub_lt_w m L hex2; exact Nat.lt_trans this (by decide)
  have hw1 : IntKind.i64.wrap (e + (tzOf m : Int) - -1074) = (L : Int) := by have := HX.out; rw [IntWalk.i64_in _ (by omega)]; omega
  have hw2 : IntKind.i64.wrap (e + (tzOf m : Int) + 1074) = (L : Int) := by have := HX.out; rw [IntWalk.i64_in _ (by omega)]; omega
  go_enter Tryd.func91, Tryd.ntmps91
  go_wp2_with fail
  refine (tz_any m _ HM.out (hT.below hs (((Below.refl _ _).alloc (Nat.le_refl _) _).alloc (by simp) _))).mono ?_
  rintro r w1 ⟨rfl, rfl⟩
  go_wp2_with fail
  go_quiet (fail)
  go_wp2_with fail
  refine (len_any (oddOf m) _ HO.out).mono ?_
  rintro r w2 ⟨rfl, rfl⟩
  rw [HL.out]
  go_wp2_with fail
  refine (lowest0_b _).mono ?_
  rintro r w3 ⟨rfl, hb⟩
  obtain ⟨hc, hf⟩ := bcell hb
  have hcells : (w3.cell? ⟨w.heap.size, 0, none⟩ = some (.int .i64 52) ∧ w3.cell? ⟨w.heap.size, 1, none⟩ = some (.int .u64 4503599627370495) ∧ w3.cell? ⟨w.heap.size, 2, none⟩ = some (.int .u64 2047) ∧ w3.cell? ⟨w.heap.size, 3, none⟩ = some (.int .u64 9223372036854775808) ∧ w3.cell? ⟨w.heap.size, 4, none⟩ = some (.int .u64 9218868437227405312) ∧ w3.cell? ⟨w.heap.size, 5, none⟩ = some (.int .u64 9221120237041090561) ∧ w3.cell? ⟨w.heap.size, 6, none⟩ = some (.int .i64 1075)) ∧ (w3.cell? ⟨w.heap.size + 1, 0, none⟩ = some (.bool neg) ∧ w3.cell? ⟨w.heap.size + 1, 1, none⟩ = some (.int .u64 m) ∧ w3.cell? ⟨w.heap.size + 1, 2, none⟩ = some (.int .i64 e)) := by
    refine ⟨⟨?_, ?_, ?_, ?_, ?_, ?_, ?_⟩, ?_, ?_, ?_⟩ <;> (rw [hc _ _ (by simp <;> omega)]; simp [go_sem])
  have hz : w.heap.size + 1 < w3.heap.size := by have := hb.size; simp at this; omega
  have hbb : Hid (Below w.heap.size w w3) := by
    refine Below.trans ?_ (hb.mono ?_)
    · repeat (first | exact Below.refl _ _ | refine bl_al ?_ _ | refine bl_drewN _ ?_)
    · simp; omega
  clear hc hf hb
  obtain ⟨⟨q0, q1, q2, q3, q4, q5, q6⟩, p0, p1, p2⟩ := hcells
  go_wp2_with fail
  go_region_held3 (fun w' => (w'.cell? ⟨w.heap.size, 0, none⟩ = some (.int .i64 52) ∧ w'.cell? ⟨w.heap.size, 1, none⟩ = some (.int .u64 4503599627370495) ∧ w'.cell? ⟨w.heap.size, 2, none⟩ = some (.int .u64 2047) ∧ w'.cell? ⟨w.heap.size, 3, none⟩ = some (.int .u64 9223372036854775808) ∧ w'.cell? ⟨w.heap.size, 4, none⟩ = some (.int .u64 9218868437227405312) ∧ w'.cell? ⟨w.heap.size, 5, none⟩ = some (.int .u64 9221120237041090561) ∧ w'.cell? ⟨w.heap.size, 6, none⟩ = some (.int .i64 1075)) ∧ (w'.cell? ⟨w.heap.size + 1, 0, none⟩ = some (.bool neg) ∧ w'.cell? ⟨w.heap.size + 1, 1, none⟩ = some (.int .u64 m) ∧ w'.cell? ⟨w.heap.size + 1, 2, none⟩ = some (.int .i64 e))) (go_keep)
    (first | (go_at_call 93; refine (lowest0 _).mono ?_; rintro r w' ⟨rfl, rfl⟩) | (go_at_call 97; rw [HP.out]; refine (signed_any neg (oddOf m * 2 ^ L) _ HPL.out).mono ?_; rintro r w' ⟨rfl, rfl⟩))
  go_wp2
  go_ret2
  refine ⟨rfl, ?_⟩
  repeat (first | exact hbb.out | refine bl_al ?_ _ | refine bl_drewN _ ?_ | refine Below.drew ?_)
end Go.Proofs.YtpjdmhidhllbkaaDoor

namespace Go.Proofs.YtpjdmhidhllbkaaDoor
open Go.RowKit Go.IntWalk

set_option maxHeartbeats 400000 in
theorem wordOf_zero (neg : Bool) (e : Int) (w : World) :
    Calls Tryd.prog 91 #[.agg #[.int .i64 52, .int .u64 4503599627370495, .int .u64 2047, .int .u64 9223372036854775808, .int .u64 9218868437227405312, .int .u64 9221120237041090561, .int .i64 1075], .agg #[.bool neg, .int .u64 0, .int .i64 e]] w fun r w' => r = .returned (.tuple #[.int .u64 (signN neg 0), .int .i64 0]) ∧ Below w.heap.size w w' := by
  go_enter Tryd.func91, Tryd.ntmps91
  go_wp2_with fail
  refine (signed_any neg 0 _ (by decide)).mono ?_
  rintro r w1 ⟨rfl, rfl⟩
  go_wp2_with fail
  go_ret2
  refine ⟨rfl, ?_⟩
  repeat (first | exact Below.refl _ _ | refine bl_al ?_ _ | refine bl_drewN _ ?_ | refine Below.drew ?_)
set_option maxHeartbeats 400000 in
theorem wordOf_far (neg : Bool) (m : Nat) (e : Int) (w : World) (hm0 : ((m : Int) == 0) = false) (h : e < -1139 ∨ 1075 < e) :
    Calls Tryd.prog 91 #[.agg #[.int .i64 52, .int .u64 4503599627370495, .int .u64 2047, .int .u64 9223372036854775808, .int .u64 9218868437227405312, .int .u64 9221120237041090561, .int .i64 1075], .agg #[.bool neg, .int .u64 m, .int .i64 e]] w fun r w' => r = .returned (.tuple #[.int .u64 0, .int .i64 10]) ∧ Below w.heap.size w w' := by
  rcases h with h | h
  all_goals
    go_enter Tryd.func91, Tryd.ntmps91
    go_wp2
    go_ret2
    refine ⟨rfl, ?_⟩
    repeat (first | exact Below.refl _ _ | refine bl_al ?_ _ | refine bl_drewN _ ?_ | refine Below.drew ?_)
set_option maxHeartbeats 400000 in
theorem wordOf_none (neg : Bool) (m : Nat) (e : Int) (w : World) (hm : m < 18446744073709551616) (hm0 : ((m : Int) == 0) = false) (hT : Tab w) (hs : 3 < w.heap.size)
    (he1 : -1139 ≤ e) (he2 : e ≤ 1075) (htz : (tzOf m : Int) ≤ 63) (hl : (lenOf m : Int) ≤ 64) (h : 53 < (lenOf m : Int) ∨ (lenOf m : Int) ≤ 53 ∧ e + (tzOf m : Int) < -1074 ∨ (lenOf m : Int) ≤ 53 ∧ -1074 ≤ e + (tzOf m : Int) ∧ 2047 ≤ e + (tzOf m : Int) + (lenOf m : Int) - 1 + 1075 - 52) :
    Calls Tryd.prog 91 #[.agg #[.int .i64 52, .int .u64 4503599627370495, .int .u64 2047, .int .u64 9223372036854775808, .int .u64 9218868437227405312, .int .u64 9221120237041090561, .int .i64 1075], .agg #[.bool neg, .int .u64 m, .int .i64 e]] w fun r w' => r = .returned (.tuple #[.int .u64 0, .int .i64 10]) ∧ Below w.heap.size w w' := by
  have hsh := odd_cast m
  have HM : Hid (m < 18446744073709551616) := hm
  have HO : Hid (oddOf m < 18446744073709551616) := by have := odd_le m; exact Nat.lt_of_le_of_lt this hm
  have HL : Hid (bitLen (oddOf m) = lenOf m) := rfl
  clear hm
  rcases h with h | ⟨h, h2⟩ | ⟨h, h2, h3⟩
  all_goals
    go_enter Tryd.func91, Tryd.ntmps91
    go_wp2_with fail
    refine (tz_any m _ HM.out (hT.below hs (((Below.refl _ _).alloc (Nat.le_refl _) _).alloc (by simp) _))).mono ?_
    rintro r w1 ⟨rfl, rfl⟩
    go_wp2_with fail
    go_quiet (fail)
    go_wp2_with fail
    refine (len_any (oddOf m) _ HO.out).mono ?_
    rintro r w2 ⟨rfl, rfl⟩
    rw [HL.out]
    go_wp2_with fail
  · go_ret2
    refine ⟨rfl, ?_⟩
    repeat (first | exact Below.refl _ _ | refine bl_al ?_ _ | refine bl_drewN _ ?_ | refine Below.drew ?_)
  · refine (lowest0 _).mono ?_
    rintro r w3 ⟨rfl, rfl⟩
    go_wp2_with fail
    go_ret2
    refine ⟨rfl, ?_⟩
    repeat (first | exact Below.refl _ _ | refine bl_al ?_ _ | refine bl_drewN _ ?_ | refine Below.drew ?_)
  · refine (lowest0 _).mono ?_
    rintro r w3 ⟨rfl, rfl⟩
    go_wp2_with fail
    go_ret2
    refine ⟨rfl, ?_⟩
    repeat (first | exact Below.refl _ _ | refine bl_al ?_ _ | refine bl_drewN _ ?_ | refine Below.drew ?_)

theorem wordOf_any (neg : Bool) (m : Nat) (e : Int) (w : World) (hm : m < 18446744073709551616) (hT : Tab w) (hs : 3 < w.heap.size) :
    Calls Tryd.prog 91 #[.agg #[.int .i64 52, .int .u64 4503599627370495, .int .u64 2047, .int .u64 9223372036854775808, .int .u64 9218868437227405312, .int .u64 9221120237041090561, .int .i64 1075], .agg #[.bool neg, .int .u64 m, .int .i64 e]] w fun r w' => r = .returned (.tuple #[.int .u64 (wWord neg m e), .int .i64 (wErr m e)]) ∧ Below w.heap.size w w' := by
  by_cases h0 : m = 0
  · subst h0
    have hb : ¬ wBad 0 e := fun h => h.1 rfl
    unfold wWord wErr wMag
    rw [if_neg hb, if_neg hb, if_pos rfl]
    exact wordOf_zero neg e w
  · have hm0 : ((m : Int) == 0) = false := by simpa using h0
    have htz := (tz_spec m h0 hm).1
    have hlen := len_le m hm
    unfold wWord wErr
    by_cases hb : wBad m e
    · rw [if_pos hb, if_pos hb]
      obtain ⟨_, hb⟩ := hb
      by_cases hf : e < -1139 ∨ 1075 < e
      · exact wordOf_far neg m e w hm0 hf
      · unfold wField at hb
        exact wordOf_none neg m e w hm hm0 hT hs (by omega) (by omega) (by omega) (by omega) (by omega)
    · rw [if_neg hb, if_neg hb]
      unfold wMag
      rw [if_neg h0]
      have hb2 : ¬ (e < -1139 ∨ 1075 < e ∨ 53 < lenOf m ∨ e + (tzOf m : Int) < -1074 ∨ 2047 ≤ wField m e) := fun h => hb ⟨h0, h⟩
      unfold wField at hb2 ⊢
      by_cases hx : e + (tzOf m : Int) + (lenOf m : Int) - 1 + 1075 - 52 < 1
      · rw [if_pos hx]
        exact wordOf_sub neg m e w hm hm0 hT hs (by omega) (by omega) (by omega) (by omega) (e + (tzOf m : Int) + 1074).toNat (by omega) (by omega)
      · rw [if_neg hx]
        exact wordOf_norm neg m e w hm hm0 hT hs (by omega) (by omega) (by omega) (by omega) (by omega) (e + (tzOf m : Int) + (lenOf m : Int) - 1 + 1075 - 52).toNat (by omega) (by omega) (by omega)
theorem bl_al_then {w w1 : World} {o : Obj} (hb : Below (w.alloc o).drew.heap.size (w.alloc o).drew w1) : Below w.heap.size w w1 := bl_alloc (w := w) (o := o) ⟨hb.os, hb.tape, hb.output, hb.size, hb.block⟩
set_option maxHeartbeats 400000 in
theorem Of_any (neg : Bool) (m : Nat) (e : Int) (w : World) (hm : m < 18446744073709551616) (hT : Tab w) (hs : 3 < w.heap.size) :
    Calls Tryd.prog 73 #[.agg #[.bool neg, .int .u64 m, .int .i64 e]] w fun r w' => r = .returned (.tuple #[.float .f64 (wWord neg m e), .int .i64 (wErr m e)]) ∧ Below w.heap.size w w' := by
  have h2 := f64from
  have HM := hid hm
  clear hm
  go_enter Tryd.func73, Tryd.ntmps73
  go_wp2_with fail
  go_region_held3 (fun w' => w'.cell? ⟨w.heap.size, 0, none⟩ = some (.bool neg) ∧ w'.cell? ⟨w.heap.size, 1, none⟩ = some (.int .u64 m) ∧ w'.cell? ⟨w.heap.size, 2, none⟩ = some (.int .i64 e)) (go_keep)
    (first | (go_at_call 57; refine (layout64_any _).mono ?_; rintro r w1 ⟨rfl, hb1⟩; obtain ⟨hc, hf⟩ := bcell hb1; have hS : w1.cell? ⟨w.heap.size, 0, none⟩ = some (.bool neg) ∧ w1.cell? ⟨w.heap.size, 1, none⟩ = some (.int .u64 m) ∧ w1.cell? ⟨w.heap.size, 2, none⟩ = some (.int .i64 e) := (by refine ⟨?_, ?_, ?_⟩ <;> (rw [hc _ _ (by simp)]; simp [go_sem])); obtain ⟨s0, s1, s2⟩ := hS; clear hc hf) | (go_at_call 91; refine (wordOf_any neg m e _ HM.out ?_ ?_).mono ?_; (exact hT.below hs (bl_al_then hb1)); (exact Nat.lt_of_lt_of_le hs (bl_al_then hb1).size); rintro r w2 ⟨rfl, hb2⟩; obtain ⟨hc, hf⟩ := bcell hb2; have hS : w2.cell? ⟨w.heap.size, 0, none⟩ = some (.bool neg) ∧ w2.cell? ⟨w.heap.size, 1, none⟩ = some (.int .u64 m) ∧ w2.cell? ⟨w.heap.size, 2, none⟩ = some (.int .i64 e) := (by have hz := hb1.size; simp at hz; refine ⟨?_, ?_, ?_⟩ <;> (rw [hc _ _ (by omega)]; assumption)); obtain ⟨s0, s1, s2⟩ := hS; clear hc hf))
  go_wp2
  go_ret2
  exact ⟨rfl, bl_then (bl_al_then hb1) hb2⟩
end Go.Proofs.YtpjdmhidhllbkaaDoor
