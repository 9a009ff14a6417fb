
/- What wordOf and Of do. -/
import Derived.Test.YtpgcelbgmpfliaaGreatDoorV2
import Derived.Lib.Walk
import Derived.Lib.BitFns
import Derived.Lib.Strings
import Derived.Lib.Slices
import Derived.Lib.Small
namespace Go.Proofs.YtpgcelbgmpfliaaGreatDoor
open Go.RowKit

/-- The library's table stands in its variable. -/
def Tab (w : World) : Prop := ∀ j, j < 64 → w.cell? ⟨1, j, none⟩ = some (.int .u8 (Lib.deBruijn64tab.getD j 0))
theorem Tab.below {w w' : World} (h : Tab w) (hs : 1 < w.heap.size) (hb : Below w.heap.size w w') : Tab w' := fun j hj => by rw [hb.cell (p := ⟨1, j, none⟩) hs]; exact h j hj

set_option maxHeartbeats 400000 in
theorem tz_core (x k idx : Nat) (w : World) (hx0 : ((x : Int) == 0) = false)
    (key : IntKind.u64.wrap (bits BinOp.and IntKind.u64 (x : Int) (IntKind.u64.wrap (-(x : Int))) * 285870213051353865) / 288230376151711744 = (idx : Int))
    (hi : idx < 64) (hk : k < 64) (hcell : w.cell? ⟨1, idx, none⟩ = some (.int .u8 k)) :
    Calls Tryz.prog 133 #[.int .u64 x] w fun e w' => e = .returned (.int .i64 k) ∧ w' = w := by
  go_enter Tryz.func133, Tryz.ntmps133
  go_wp2_with (simp only [key])
  go_ret
  exact ⟨rfl, rfl⟩
set_option maxHeartbeats 400000 in
theorem tz_zero (w : World) :
    Calls Tryz.prog 133 #[.int .u64 0] w fun e w' => e = .returned (.int .i64 64) ∧ w' = w := by
  go_enter Tryz.func133, Tryz.ntmps133
  go_wp2
  go_ret
  exact ⟨rfl, rfl⟩
theorem tz_any (x : Nat) (w : World) (hx : x < 18446744073709551616) (hT : Tab w) :
    Calls Tryz.prog 133 #[.int .u64 x] w fun e w' => e = .returned (.int .i64 (tzOf x)) ∧ w' = w := by
  by_cases hx0 : x = 0
  · subst hx0
    exact tz_zero w
  · obtain ⟨hlow, hk⟩ := Lib.lowest_bit 64 x hx0 hx
    obtain ⟨hi, htab⟩ := Lib.deBruijn64_at _ hk
    have hcell := hT _ hi
    rw [htab] at hcell
    exact tz_core x (Lib.ctz 64 x) _ w (by simpa using hx0) (tz_key x _ hx hx0 hlow) hi hk hcell

set_option maxHeartbeats 400000 in
theorem signed_any (neg : Bool) (x : Nat) (w : World) (hx : x < 9223372036854775808) :
    Calls Tryz.prog 135 #[.agg #[.int .i64 52, .int .u64 4503599627370495, .int .u64 2047, .int .u64 9223372036854775808, .int .u64 9218868437227405312, .int .u64 9221120237041090561, .int .i64 1075], .bool neg, .int .u64 x] w fun e w' => e = .returned (.int .u64 (signN neg x)) ∧ w' = w.alloc (.cells #[.int .i64 52, .int .u64 4503599627370495, .int .u64 2047, .int .u64 9223372036854775808, .int .u64 9218868437227405312, .int .u64 9221120237041090561, .int .i64 1075] 123) := by
  cases neg
  all_goals
    go_enter Tryz.func135, Tryz.ntmps135
    go_wp2
    go_ret
  · exact ⟨rfl, rfl⟩
  · exact ⟨ret_int (or_sign x hx), rfl⟩
set_option maxHeartbeats 400000 in
theorem lowest_any (e : Int) (w : World) (h1 : -2000 ≤ e) (h2 : e ≤ 3000) :
    Calls Tryz.prog 134 #[.agg #[.int .i64 52, .int .u64 4503599627370495, .int .u64 2047, .int .u64 9223372036854775808, .int .u64 9218868437227405312, .int .u64 9221120237041090561, .int .i64 1075], .int .i64 e] w fun r w' => r = .returned (.int .i64 (max e 1 - 1075)) ∧ w' = w.alloc (.cells #[.int .i64 52, .int .u64 4503599627370495, .int .u64 2047, .int .u64 9223372036854775808, .int .u64 9218868437227405312, .int .u64 9221120237041090561, .int .i64 1075] 123) := by
  go_enter Tryz.func134, Tryz.ntmps134
  go_wp2
  all_goals go_ret
  all_goals exact ⟨ret_int (by omega), rfl⟩
theorem lowest0 (w : World) :
    Calls Tryz.prog 134 #[.agg #[.int .i64 52, .int .u64 4503599627370495, .int .u64 2047, .int .u64 9223372036854775808, .int .u64 9218868437227405312, .int .u64 9221120237041090561, .int .i64 1075], .int .i64 0] w fun r w' => r = .returned (.int .i64 (-1074)) ∧ w' = w.alloc (.cells #[.int .i64 52, .int .u64 4503599627370495, .int .u64 2047, .int .u64 9223372036854775808, .int .u64 9218868437227405312, .int .u64 9221120237041090561, .int .i64 1075] 123) :=
  lowest_any 0 w (by omega) (by omega)
theorem lowest0_b (w : World) :
    Calls Tryz.prog 134 #[.agg #[.int .i64 52, .int .u64 4503599627370495, .int .u64 2047, .int .u64 9223372036854775808, .int .u64 9218868437227405312, .int .u64 9221120237041090561, .int .i64 1075], .int .i64 0] w fun r w' => r = .returned (.int .i64 (-1074)) ∧ Below w.heap.size w w' :=
  (lowest0 w).mono fun _ _ h => ⟨h.1, by rw [h.2]; exact (Below.refl _ _).alloc (Nat.le_refl _) _⟩
theorem lowest_k (e k : Nat) (w : World) (he : e ≤ 2047) (hk : max e 1 = k + 1) :
    Calls Tryz.prog 134 #[.agg #[.int .i64 52, .int .u64 4503599627370495, .int .u64 2047, .int .u64 9223372036854775808, .int .u64 9218868437227405312, .int .u64 9221120237041090561, .int .i64 1075], .int .i64 e] w fun r w' => r = .returned (.int .i64 ((k : Int) - 1074)) ∧ w' = w.alloc (.cells #[.int .i64 52, .int .u64 4503599627370495, .int .u64 2047, .int .u64 9223372036854775808, .int .u64 9218868437227405312, .int .u64 9221120237041090561, .int .i64 1075] 123) :=
  (lowest_any e w (by omega) (by omega)).mono fun _ _ h => ⟨by rw [h.1]; exact ret_int (by omega), h.2⟩
theorem fold_len : (⟨((([0, 1, 2, 2, 3, 3, 3, 3, 4, 4, 4, 4, 4, 4, 4, 4, 5, 5, 5, 5, 5, 5, 5, 5, 5, 5, 5, 5, 5, 5, 5, 5, 6, 6, 6, 6, 6, 6, 6, 6, 6, 6, 6, 6, 6, 6, 6, 6, 6, 6, 6, 6, 6, 6, 6, 6, 6, 6, 6, 6, 6, 6, 6, 6] : List UInt8).append [7, 7, 7, 7, 7, 7, 7, 7, 7, 7, 7, 7, 7, 7, 7, 7, 7, 7, 7, 7, 7, 7, 7, 7, 7, 7, 7, 7, 7, 7, 7, 7, 7, 7, 7, 7, 7, 7, 7, 7, 7, 7, 7, 7, 7, 7, 7, 7, 7, 7, 7, 7, 7, 7, 7, 7, 7, 7, 7, 7, 7, 7, 7, 7]).append (([8, 8, 8, 8, 8, 8, 8, 8, 8, 8, 8, 8, 8, 8, 8, 8, 8, 8, 8, 8, 8, 8, 8, 8, 8, 8, 8, 8, 8, 8, 8, 8, 8, 8, 8, 8, 8, 8, 8, 8, 8, 8, 8, 8, 8, 8, 8, 8, 8, 8, 8, 8, 8, 8, 8, 8, 8, 8, 8, 8, 8, 8, 8, 8] : List UInt8).append [8, 8, 8, 8, 8, 8, 8, 8, 8, 8, 8, 8, 8, 8, 8, 8, 8, 8, 8, 8, 8, 8, 8, 8, 8, 8, 8, 8, 8, 8, 8, 8, 8, 8, 8, 8, 8, 8, 8, 8, 8, 8, 8, 8, 8, 8, 8, 8, 8, 8, 8, 8, 8, 8, 8, 8, 8, 8, 8, 8, 8, 8, 8, 8])).toArray⟩ : ByteArray) = Lib.len8tab := by kernel_rfl
set_option maxHeartbeats 1000000 in
set_option maxRecDepth 100000 in
theorem len_int (x : Int) (w : World) (h0 : 0 ≤ x) (h1 : x ≤ 18446744073709551615) :
    Calls Tryz.prog 123 #[.int .u64 x] w fun r w' => r = .returned (.int .i64 (bitLen x.toNat)) ∧ w' = w := by
  go_enter Tryz.func123, Tryz.ntmps123
  rw [fold_len]
  go_wp2
  all_goals first
    | (exfalso; rename_i hno; apply hno; rw [len8_size]; omega)
    | (go_ret; refine ⟨ret_int ?_, rfl⟩; first | exact len_close x _ 56 (by omega) (by simp only [Nat.reducePow]; omega) (by omega) (by omega) _ | exact len_close x _ 48 (by omega) (by simp only [Nat.reducePow]; omega) (by omega) (by omega) _ | exact len_close x _ 40 (by omega) (by simp only [Nat.reducePow]; omega) (by omega) (by omega) _ | exact len_close x _ 32 (by omega) (by simp only [Nat.reducePow]; omega) (by omega) (by omega) _ | exact len_close x _ 24 (by omega) (by simp only [Nat.reducePow]; omega) (by omega) (by omega) _ | exact len_close x _ 16 (by omega) (by simp only [Nat.reducePow]; omega) (by omega) (by omega) _ | exact len_close x _ 8 (by omega) (by simp only [Nat.reducePow]; omega) (by omega) (by omega) _ | exact len_close00 x h0 (by omega) _)
theorem len_any (x : Nat) (w : World) (hx : x < 18446744073709551616) :
    Calls Tryz.prog 123 #[.int .u64 x] w fun r w' => r = .returned (.int .i64 (bitLen x)) ∧ w' = w :=
  len_int (x : Int) w (by omega) (by omega)
end Go.Proofs.YtpgcelbgmpfliaaGreatDoor

namespace Go.Proofs.YtpgcelbgmpfliaaGreatDoor
open Go.RowKit

set_option maxHeartbeats 400000 in
theorem wordOf_norm (neg : Bool) (m : Nat) (e : Int) (w : World) (hm : m < 18446744073709551616) (hm0 : ((m : Int) == 0) = false) (hT : Tab w) (hs : 1 < w.heap.size)
    (he1 : -1139 ≤ e) (he2 : e ≤ 1075) (htz : (tzOf m : Int) ≤ 63) (hl : (lenOf m : Int) ≤ 53) (hlow : -1074 ≤ e + (tzOf m : Int)) (X : Nat) (hX : e + (tzOf m : Int) + (lenOf m : Int) - 1 + 1075 - 52 = (X : Int)) (hex1 : 0 < X) (hex2 : X < 2047) :
    Calls Tryz.prog 97 #[.agg #[.int .i64 52, .int .u64 4503599627370495, .int .u64 2047, .int .u64 9223372036854775808, .int .u64 9218868437227405312, .int .u64 9221120237041090561, .int .i64 1075], .agg #[.bool neg, .int .u64 m, .int .i64 e]] w fun r w' => r = .returned (.tuple #[.int .u64 (signN neg (packN X (wfracOf m))), .int .i64 0]) ∧ Below w.heap.size w w' := by
  have hsh := odd_cast m
  have HX : Hid (e + (tzOf m : Int) + (lenOf m : Int) - 1 + 1075 - 52 = (X : Int)) := hX
  clear hX
  have HM : Hid (m < 18446744073709551616) := hm
  have HO : Hid (oddOf m < 18446744073709551616) := by have := odd_le m; exact Nat.lt_of_le_of_lt this hm
  have HL : Hid (bitLen (oddOf m) = lenOf m) := rfl
  clear hm
  go_enter Tryz.func97, Tryz.ntmps97
  go_wp2_with fail
  refine (tz_any m _ HM.out (hT.below hs (((Below.refl _ _).alloc (Nat.le_refl _) _).alloc (by simp) _))).mono ?_
  rintro r w1 ⟨rfl, rfl⟩
  go_wp2_with fail
  go_quiet (fail)
  go_wp2_with fail
  refine (len_any (oddOf m) _ HO.out).mono ?_
  rintro r w2 ⟨rfl, rfl⟩
  rw [HL.out]
  have hX := HX.out
  go_wp2_with fail
  refine (lowest_any 0 _ (by omega) (by omega)).mono ?_
  rintro r w3 ⟨rfl, rfl⟩
  go_wp2_with fail
  have hfr := wfrac_w m
  have HP : Hid (bits .or .u64 (IntKind.u64.wrap (IntKind.u64.wrap (X : Int) * 4503599627370496)) (wfracOf m : Int) = (packN X (wfracOf m) : Int)) := pack_w X _ (by omega) (wfrac_lt m)
  have HPL : Hid (packN X (wfracOf m) < 9223372036854775808) := pack_lt X _ (by omega) (wfrac_lt m)
  go_quiet (fail)
  go_wp2_with fail
  go_region_held3 (fun w' => (w'.cell? ⟨w.heap.size, 0, none⟩ = some (.int .i64 52) ∧ w'.cell? ⟨w.heap.size, 1, none⟩ = some (.int .u64 4503599627370495) ∧ w'.cell? ⟨w.heap.size, 2, none⟩ = some (.int .u64 2047) ∧ w'.cell? ⟨w.heap.size, 3, none⟩ = some (.int .u64 9223372036854775808) ∧ w'.cell? ⟨w.heap.size, 4, none⟩ = some (.int .u64 9218868437227405312) ∧ w'.cell? ⟨w.heap.size, 5, none⟩ = some (.int .u64 9221120237041090561) ∧ w'.cell? ⟨w.heap.size, 6, none⟩ = some (.int .i64 1075)) ∧ (w'.cell? ⟨w.heap.size + 1, 0, none⟩ = some (.bool neg) ∧ w'.cell? ⟨w.heap.size + 1, 1, none⟩ = some (.int .u64 m) ∧ w'.cell? ⟨w.heap.size + 1, 2, none⟩ = some (.int .i64 e))) (go_keep)
    (first | (go_at_call 135; rw [HP.out]; refine (signed_any neg (packN X (wfracOf m)) _ HPL.out).mono ?_; rintro r w' ⟨rfl, rfl⟩))
  go_wp2
  go_ret2
  refine ⟨rfl, ?_⟩
  repeat (first | exact Below.refl _ _ | refine bl_al ?_ _ | refine bl_drewN _ ?_ | refine Below.drew ?_)

set_option maxHeartbeats 400000 in
theorem wordOf_sub (neg : Bool) (m : Nat) (e : Int) (w : World) (hm : m < 18446744073709551616) (hm0 : ((m : Int) == 0) = false) (hT : Tab w) (hs : 1 < w.heap.size)
    (he1 : -1139 ≤ e) (he2 : e ≤ 1075) (htz : (tzOf m : Int) ≤ 63) (hl : (lenOf m : Int) ≤ 53) (L : Nat) (hlow : e + (tzOf m : Int) = (L : Int) - 1074) (hex2 : L + lenOf m ≤ 52) :
    Calls Tryz.prog 97 #[.agg #[.int .i64 52, .int .u64 4503599627370495, .int .u64 2047, .int .u64 9223372036854775808, .int .u64 9218868437227405312, .int .u64 9221120237041090561, .int .i64 1075], .agg #[.bool neg, .int .u64 m, .int .i64 e]] w fun r w' => r = .returned (.tuple #[.int .u64 (signN neg (oddOf m * 2 ^ L)), .int .i64 0]) ∧ Below w.heap.size w w' := by
  have hsh := odd_cast m
  have HX : Hid (e + (tzOf m : Int) = (L : Int) - 1074) := hlow
  have HM : Hid (m < 18446744073709551616) := hm
  have HO : Hid (oddOf m < 18446744073709551616) := by have := odd_le m; exact Nat.lt_of_le_of_lt this hm
  have HL : Hid (bitLen (oddOf m) = lenOf m) := rfl
  clear hm hlow
  have hlo : -1074 ≤ e + (tzOf m : Int) := by have := HX.out; omega
  have hhi : e + (tzOf m : Int) + (lenOf m : Int) - 1 + 1075 - 52 < 1 := by have := HX.out; omega
  have HP : Hid (IntKind.u64.wrap ((oddOf m : Int) * 2 ^ L) = ((oddOf m * 2 ^ L : Nat) : Int)) := sub_w m L hex2
  have HPL : Hid (oddOf m * 2 ^ L < 9223372036854775808) := by have := sub_lt_w m L hex2; exact Nat.lt_trans this (by decide)
  have hw1 : IntKind.i64.wrap (e + (tzOf m : Int) - -1074) = (L : Int) := by have := HX.out; rw [IntWalk.i64_in _ (by omega)]; omega
  have hw2 : IntKind.i64.wrap (e + (tzOf m : Int) + 1074) = (L : Int) := by have := HX.out; rw [IntWalk.i64_in _ (by omega)]; omega
  go_enter Tryz.func97, Tryz.ntmps97
  go_wp2_with fail
  refine (tz_any m _ HM.out (hT.below hs (((Below.refl _ _).alloc (Nat.le_refl _) _).alloc (by simp) _))).mono ?_
  rintro r w1 ⟨rfl, rfl⟩
  go_wp2_with fail
  go_quiet (fail)
  go_wp2_with fail
  refine (len_any (oddOf m) _ HO.out).mono ?_
  rintro r w2 ⟨rfl, rfl⟩
  rw [HL.out]
  go_wp2_with fail
  refine (lowest0_b _).mono ?_
  rintro r w3 ⟨rfl, hb⟩
  obtain ⟨hc, hf⟩ := bcell hb
  have hcells : (w3.cell? ⟨w.heap.size, 0, none⟩ = some (.int .i64 52) ∧ w3.cell? ⟨w.heap.size, 1, none⟩ = some (.int .u64 4503599627370495) ∧ w3.cell? ⟨w.heap.size, 2, none⟩ = some (.int .u64 2047) ∧ w3.cell? ⟨w.heap.size, 3, none⟩ = some (.int .u64 9223372036854775808) ∧ w3.cell? ⟨w.heap.size, 4, none⟩ = some (.int .u64 9218868437227405312) ∧ w3.cell? ⟨w.heap.size, 5, none⟩ = some (.int .u64 9221120237041090561) ∧ w3.cell? ⟨w.heap.size, 6, none⟩ = some (.int .i64 1075)) ∧ (w3.cell? ⟨w.heap.size + 1, 0, none⟩ = some (.bool neg) ∧ w3.cell? ⟨w.heap.size + 1, 1, none⟩ = some (.int .u64 m) ∧ w3.cell? ⟨w.heap.size + 1, 2, none⟩ = some (.int .i64 e)) := by
    refine ⟨⟨?_, ?_, ?_, ?_, ?_, ?_, ?_⟩, ?_, ?_, ?_⟩ <;> (rw [hc _ _ (by simp <;> omega)]; simp [go_sem])
  have hz : w.heap.size + 1 < w3.heap.size := by have := hb.size; simp at this; omega
  have hbb : Hid (Below w.heap.size w w3) := by
    refine Below.trans ?_ (hb.mono ?_)
    · repeat (first | exact Below.refl _ _ | refine bl_al ?_ _ | refine bl_drewN _ ?_)
    · simp; omega
  clear hc hf hb
  obtain ⟨⟨q0, q1, q2, q3, q4, q5, q6⟩, p0, p1, p2⟩ := hcells
  go_wp2_with fail
  go_region_held3 (fun w' => (w'.cell? ⟨w.heap.size, 0, none⟩ = some (.int .i64 52) ∧ w'.cell? ⟨w.heap.size, 1, none⟩ = some (.int .u64 4503599627370495) ∧ w'.cell? ⟨w.heap.size, 2, none⟩ = some (.int .u64 2047) ∧ w'.cell? ⟨w.heap.size, 3, none⟩ = some (.int .u64 9223372036854775808) ∧ w'.cell? ⟨w.heap.size, 4, none⟩ = some (.int .u64 9218868437227405312) ∧ w'.cell? ⟨w.heap.size, 5, none⟩ = some (.int .u64 9221120237041090561) ∧ w'.cell? ⟨w.heap.size, 6, none⟩ = some (.int .i64 1075)) ∧ (w'.cell? ⟨w.heap.size + 1, 0, none⟩ = some (.bool neg) ∧ w'.cell? ⟨w.heap.size + 1, 1, none⟩ = some (.int .u64 m) ∧ w'.cell? ⟨w.heap.size + 1, 2, none⟩ = some (.int .i64 e))) (go_keep)
    (first | (go_at_call 134; refine (lowest0 _).mono ?_; rintro r w' ⟨rfl, rfl⟩) | (go_at_call 135; rw [HP.out]; refine (signed_any neg (oddOf m * 2 ^ L) _ HPL.out).mono ?_; rintro r w' ⟨rfl, rfl⟩))
  go_wp2
  go_ret2
  refine ⟨rfl, ?_⟩
  repeat (first | exact hbb.out | refine bl_al ?_ _ | refine bl_drewN _ ?_ | refine Below.drew ?_)
end Go.Proofs.YtpgcelbgmpfliaaGreatDoor
