
/- What convert's Narrow, Widen and Fits do. -/
import Derived.Test.YtdhifmkfdpbpcaaGreatDoorCvNarrow
namespace Go.Proofs.YtdhifmkfdpbpcaaGreatDoor
open Go.RowKit Go.IntWalk

set_option maxHeartbeats 400000 in
theorem Narrow_any (x : Nat) (mode : Int) (w : World) (hx : x < 18446744073709551616) (hm1 : 0 ≤ mode) (hm2 : mode ≤ 4) (hT : Tab w) (hs : 1 < w.heap.size) :
    Calls Tryz.prog 44 #[.float .f64 x, .int .i64 mode] w fun e w' => e = .returned (.tuple #[.float .f32 (narrowOf x mode), .int .i64 (narrowFl x mode), .int .i64 0]) ∧ Below w.heap.size w w' := by
  have hk : decide (0 ≤ mode ∧ mode ≤ 4) = true := decide_eq_true ⟨hm1, hm2⟩
  have HN := hid (narrow_any x mode w hx hT hs)
  obtain ⟨X, HX⟩ : ∃ X, Hid (narrowOf x mode = X) := ⟨_, rfl⟩
  obtain ⟨Y, HY⟩ : ∃ Y, Hid (narrowFl x mode = Y) := ⟨_, rfl⟩
  rw [HX.out, HY.out] at HN ⊢
  go_enter Tryz.func44, Tryz.ntmps44
  go_wp2_with fail
  refine (known_any mode _).mono ?_
  rintro e w1 ⟨rfl, rfl⟩
  rw [hk]
  clear hk hm1 hm2
  go_wp2_with fail
  refine HN.out.mono ?_
  rintro e w2 ⟨rfl, hb⟩
  go_wp2
  go_ret3
  exact ⟨rfl, hb⟩
set_option maxHeartbeats 400000 in
theorem Narrow_bad (x : Nat) (mode : Int) (w : World) (hm : ¬ (0 ≤ mode ∧ mode ≤ 4)) :
    Calls Tryz.prog 44 #[.float .f64 x, .int .i64 mode] w fun e w' => e = .returned (.tuple #[.float .f32 0, .int .i64 0, .int .i64 20]) ∧ Below w.heap.size w w' := by
  have hk : decide (0 ≤ mode ∧ mode ≤ 4) = false := decide_eq_false hm
  go_enter Tryz.func44, Tryz.ntmps44
  go_wp2_with fail
  refine (known_any mode _).mono ?_
  rintro e w1 ⟨rfl, rfl⟩
  rw [hk]
  clear hk hm
  go_wp2
  go_ret3
  exact ⟨rfl, Below.refl _ _⟩
set_option maxHeartbeats 400000 in
theorem Fits_any (x : Nat) (w : World) (hx : x < 18446744073709551616) (hT : Tab w) (hs : 1 < w.heap.size) :
    Calls Tryz.prog 45 #[.float .f64 x] w fun e w' => e = .returned (.bool (narrowFl x 0 == 0)) ∧ Below w.heap.size w w' := by
  have HN := hid (narrow_any x 0 w hx hT hs)
  obtain ⟨X, HX⟩ : ∃ X, Hid (narrowOf x 0 = X) := ⟨_, rfl⟩
  obtain ⟨Y, HY⟩ : ∃ Y, Hid (narrowFl x 0 = Y) := ⟨_, rfl⟩
  rw [HX.out, HY.out] at HN
  rw [HY.out]
  go_enter Tryz.func45, Tryz.ntmps45
  go_wp2_with fail
  refine HN.out.mono ?_
  rintro e w2 ⟨rfl, hb⟩
  go_wp2
  go_ret
  exact ⟨rfl, hb⟩
/-- A single as a number. -/
def widenOf (x : Nat) : Nat :=
  if 2139095040 < x % 2147483648 then 9221120237041090561 else if x % 2147483648 = 2139095040 then signN (decide (2147483648 ≤ x)) 9218868437227405312 else signN (decide (2147483648 ≤ x)) (mag64 (x % 2147483648))
theorem sign_of32 (x : Nat) (hx : x < 4294967296) : x = signN32 (decide (2147483648 ≤ x)) (x % 2147483648) := by
  unfold signN32
  by_cases h : 2147483648 ≤ x
  · rw [decide_eq_true h, if_pos rfl]; omega
  · rw [decide_eq_false h, if_neg (by decide)]; omega
theorem canon_sign (neg : Bool) (r : Nat) (h : r ≤ 9218868437227405312) : canonOf (signN neg r) = signN neg r := by
  obtain ⟨a, _, _⟩ := signN_mod neg r (by omega)
  unfold canonOf; rw [a, if_neg (by omega)]
set_option maxHeartbeats 400000 in
theorem Widen_core (x r : Nat) (w : World) (hr : r < 18446744073709551616) (hc : ∀ w : World, (convert 32 23 (.float .f32 x)).run Tryz.prog w = .ok (.float .f64 r) w) :
    Calls Tryz.prog 46 #[.float .f32 x] w fun e w' => e = .returned (.float .f64 (canonOf r)) ∧ Below w.heap.size w w' := by
  have HR := hid hr
  clear hr
  go_enter Tryz.func46, Tryz.ntmps46
  go_wp2_with fail
  refine (Canon_any r _ HR.out).mono ?_
  rintro e w3 ⟨rfl, hb3⟩
  go_wp2
  go_ret
  exact ⟨rfl, hb3⟩
set_option maxHeartbeats 400000 in
theorem Widen_nan (x : Nat) (w : World) (hX : 2139095040 < x % 2147483648) :
    Calls Tryz.prog 46 #[.float .f32 x] w fun e w' => e = .returned (.float .f64 9221120237041090561) ∧ Below w.heap.size w w' := by
  obtain ⟨f, hf, hc⟩ := wide_nan_run x hX
  have HF := hid hf
  clear hf hX
  go_enter Tryz.func46, Tryz.ntmps46
  go_wp2_with fail
  refine (Canon_any (f w) _ (HF.out w).1).mono ?_
  rintro e w3 ⟨rfl, hb3⟩
  have hcn : canonOf (f w) = 9221120237041090561 := by unfold canonOf; rw [if_pos (HF.out w).2]
  rw [hcn]
  go_wp2
  go_ret
  exact ⟨rfl, ⟨hb3.os, hb3.tape, hb3.output, hb3.size, hb3.block⟩⟩
theorem Widen_any (x : Nat) (w : World) (hx : x < 4294967296) :
    Calls Tryz.prog 46 #[.float .f32 x] w fun e w' => e = .returned (.float .f64 (widenOf x)) ∧ Below w.heap.size w w' := by
  unfold widenOf
  by_cases hn : 2139095040 < x % 2147483648
  · rw [if_pos hn]; exact Widen_nan x w hn
  · rw [if_neg hn]
    have hx2 := sign_of32 x hx
    by_cases hi : x % 2147483648 = 2139095040
    · rw [if_pos hi, ← canon_sign _ _ (Nat.le_refl _)]
      refine Widen_core x _ w (signN_mod _ _ (by decide)).2.2 (fun w => wide_run _ _ ?_ w)
      have := widen_inf (decide (2147483648 ≤ x))
      rw [hi] at hx2
      rw [← hx2] at this
      exact this
    · rw [if_neg hi]
      obtain ⟨v1, v2⟩ := mag64_val (x % 2147483648) (by omega)
      rw [← canon_sign _ _ (Nat.le_of_lt v1)]
      refine Widen_core x _ w (signN_mod _ _ (by omega)).2.2 (fun w => wide_run _ _ ?_ w)
      have := widen_conv (decide (2147483648 ≤ x)) (x % 2147483648) (by omega)
      rw [← hx2] at this
      exact this
end Go.Proofs.YtdhifmkfdpbpcaaGreatDoor
