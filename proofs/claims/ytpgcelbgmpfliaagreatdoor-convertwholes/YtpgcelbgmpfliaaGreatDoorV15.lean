
/- What convert's Int does with what Whole answers. -/
import Derived.Test.YtpgcelbgmpfliaaGreatDoorV13
namespace Go.Proofs.YtpgcelbgmpfliaaGreatDoor
open Go.RowKit Go.IntWalk

set_option maxHeartbeats 400000 in
theorem Narrow_any (x : Nat) (mode : Int) (w : World) (hx : x < 18446744073709551616) (hm1 : 0 ≤ mode) (hm2 : mode ≤ 4) (hT : Tab w) (hs : 1 < w.heap.size) :
    Calls Tryz.prog 44 #[.float .f64 x, .int .i64 mode] w fun e w' => e = .returned (.tuple #[.float .f32 (narrowOf x mode), .int .i64 (narrowFl x mode), .int .i64 0]) ∧ Below w.heap.size w w' := by
  have hk : decide (0 ≤ mode ∧ mode ≤ 4) = true := decide_eq_true ⟨hm1, hm2⟩
  have HN := hid (narrow_any x mode w hx hT hs)
  obtain ⟨X, HX⟩ : ∃ X, Hid (narrowOf x mode = X) := ⟨_, rfl⟩
  obtain ⟨Y, HY⟩ : ∃ Y, Hid (narrowFl x mode = Y) := ⟨_, rfl⟩
  rw [HX.out, HY.out] at HN ⊢
  go_enter Tryz.func44, Tryz.ntmps44
  go_wp2_with fail
  refine (known_any mode _).mono ?_
  rintro e w1 ⟨rfl, rfl⟩
  rw [hk]
  clear hk hm1 hm2
  go_wp2_with fail
  refine HN.out.mono ?_
  rintro e w2 ⟨rfl, hb⟩
  go_wp2
  go_ret3
  exact ⟨rfl, hb⟩
set_option maxHeartbeats 400000 in
theorem Narrow_bad (x : Nat) (mode : Int) (w : World) (hm : ¬ (0 ≤ mode ∧ mode ≤ 4)) :
    Calls Tryz.prog 44 #[.float .f64 x, .int .i64 mode] w fun e w' => e = .returned (.tuple #[.float .f32 0, .int .i64 0, .int .i64 20]) ∧ Below w.heap.size w w' := by
  have hk : decide (0 ≤ mode ∧ mode ≤ 4) = false := decide_eq_false hm
  go_enter Tryz.func44, Tryz.ntmps44
  go_wp2_with fail
  refine (known_any mode _).mono ?_
  rintro e w1 ⟨rfl, rfl⟩
  rw [hk]
  clear hk hm
  go_wp2
  go_ret3
  exact ⟨rfl, Below.refl _ _⟩
set_option maxHeartbeats 400000 in
theorem Fits_any (x : Nat) (w : World) (hx : x < 18446744073709551616) (hT : Tab w) (hs : 1 < w.heap.size) :
    Calls Tryz.prog 45 #[.float .f64 x] w fun e w' => e = .returned (.bool (narrowFl x 0 == 0)) ∧ Below w.heap.size w w' := by
  have HN := hid (narrow_any x 0 w hx hT hs)
  obtain ⟨X, HX⟩ : ∃ X, Hid (narrowOf x 0 = X) := ⟨_, rfl⟩
  obtain ⟨Y, HY⟩ : ∃ Y, Hid (narrowFl x 0 = Y) := ⟨_, rfl⟩
  rw [HX.out, HY.out] at HN
  rw [HY.out]
  go_enter Tryz.func45, Tryz.ntmps45
  go_wp2_with fail
  refine HN.out.mono ?_
  rintro e w2 ⟨rfl, hb⟩
  go_wp2
  go_ret
  exact ⟨rfl, hb⟩
/-- A single as a number. -/
def widenOf (x : Nat) : Nat :=
  if 2139095040 < x % 2147483648 then 9221120237041090561 else if x % 2147483648 = 2139095040 then signN (decide (2147483648 ≤ x)) 9218868437227405312 else signN (decide (2147483648 ≤ x)) (mag64 (x % 2147483648))
theorem sign_of32 (x : Nat) (hx : x < 4294967296) : x = signN32 (decide (2147483648 ≤ x)) (x % 2147483648) := by
  unfold signN32
  by_cases h : 2147483648 ≤ x
  · rw [decide_eq_true h, if_pos rfl]; omega
  · rw [decide_eq_false h, if_neg (by decide)]; omega
theorem canon_sign (neg : Bool) (r : Nat) (h : r ≤ 9218868437227405312) : canonOf (signN neg r) = signN neg r := by
  obtain ⟨a, _, _⟩ := signN_mod neg r (by omega)
  unfold canonOf; rw [a, if_neg (by omega)]
set_option maxHeartbeats 400000 in
theorem Widen_core (x r : Nat) (w : World) (hr : r < 18446744073709551616) (hc : ∀ w : World, (convert 32 23 (.float .f32 x)).run Tryz.prog w = .ok (.float .f64 r) w) :
    Calls Tryz.prog 46 #[.float .f32 x] w fun e w' => e = .returned (.float .f64 (canonOf r)) ∧ Below w.heap.size w w' := by
  have HR := hid hr
  clear hr
  go_enter Tryz.func46, Tryz.ntmps46
  go_wp2_with fail
  refine (Canon_any r _ HR.out).mono ?_
  rintro e w3 ⟨rfl, hb3⟩
  go_wp2
  go_ret
  exact ⟨rfl, hb3⟩
set_option maxHeartbeats 400000 in
theorem Widen_nan (x : Nat) (w : World) (hX : 2139095040 < x % 2147483648) :
    Calls Tryz.prog 46 #[.float .f32 x] w fun e w' => e = .returned (.float .f64 9221120237041090561) ∧ Below w.heap.size w w' := by
  obtain ⟨f, hf, hc⟩ := wide_nan_run x hX
  have HF := hid hf
  clear hf hX
  go_enter Tryz.func46, Tryz.ntmps46
  go_wp2_with fail
  refine (Canon_any (f w) _ (HF.out w).1).mono ?_
  rintro e w3 ⟨rfl, hb3⟩
  have hcn : canonOf (f w) = 9221120237041090561 := by unfold canonOf; rw [if_pos (HF.out w).2]
  rw [hcn]
  go_wp2
  go_ret
  exact ⟨rfl, ⟨hb3.os, hb3.tape, hb3.output, hb3.size, hb3.block⟩⟩
theorem Widen_any (x : Nat) (w : World) (hx : x < 4294967296) :
    Calls Tryz.prog 46 #[.float .f32 x] w fun e w' => e = .returned (.float .f64 (widenOf x)) ∧ Below w.heap.size w w' := by
  unfold widenOf
  by_cases hn : 2139095040 < x % 2147483648
  · rw [if_pos hn]; exact Widen_nan x w hn
  · rw [if_neg hn]
    have hx2 := sign_of32 x hx
    by_cases hi : x % 2147483648 = 2139095040
    · rw [if_pos hi, ← canon_sign _ _ (Nat.le_refl _)]
      refine Widen_core x _ w (signN_mod _ _ (by decide)).2.2 (fun w => wide_run _ _ ?_ w)
      have := widen_inf (decide (2147483648 ≤ x))
      rw [hi] at hx2
      rw [← hx2] at this
      exact this
    · rw [if_neg hi]
      obtain ⟨v1, v2⟩ := mag64_val (x % 2147483648) (by omega)
      rw [← canon_sign _ _ (Nat.le_of_lt v1)]
      refine Widen_core x _ w (signN_mod _ _ (by omega)).2.2 (fun w => wide_run _ _ ?_ w)
      have := widen_conv (decide (2147483648 ≤ x)) (x % 2147483648) (by omega)
      rw [← hx2] at this
      exact this
end Go.Proofs.YtpgcelbgmpfliaaGreatDoor

namespace Go.Proofs.YtpgcelbgmpfliaaGreatDoor
open Go.RowKit Go.IntWalk

theorem ret_fii {a a' : Nat} {b b' c c' : Int} (h0 : a = a') (h1 : b = b') (h2 : c = c') : Ending.returned (.tuple #[.float .f64 a, .int .i64 b, .int .i64 c]) = .returned (.tuple #[.float .f64 a', .int .i64 b', .int .i64 c']) := by rw [h0, h1, h2]
set_option maxHeartbeats 400000 in
theorem Whole_plain (x : Nat) (mode : Int) (w : World) (hx : x < 18446744073709551616) (hm1 : 0 ≤ mode) (hm2 : mode ≤ 4) (h : pErr x ≠ 0 ∨ 0 ≤ pExp x) (hT : Tab w) (hs : 1 < w.heap.size) :
    Calls Tryz.prog 15 #[.float .f64 x, .int .i64 mode] w fun r w' => r = .returned (.tuple #[.float .f64 (canonOf x), .int .i64 0, .int .i64 0]) ∧ Below w.heap.size w w' := by
  have hk : decide (0 ≤ mode ∧ mode ≤ 4) = true := decide_eq_true ⟨hm1, hm2⟩
  have HP := hid (fun (w : World) => Parts_any x w hx)
  obtain ⟨N, HN⟩ : ∃ N, Hid (pNeg x = N) := ⟨_, rfl⟩
  obtain ⟨M, HM⟩ : ∃ M, Hid (pMant x = M) := ⟨_, rfl⟩
  obtain ⟨E, HE⟩ : ∃ E, Hid (pExp x = E) := ⟨_, rfl⟩
  obtain ⟨R, HR⟩ : ∃ R, Hid (pErr x = R) := ⟨_, rfl⟩
  rw [HN.out, HM.out, HE.out, HR.out] at HP
  rw [HE.out, HR.out] at h
  clear hm1 hm2
  by_cases hR : R = 0
  · have hE : 0 ≤ E := by
      rcases h with h | h
      · exact absurd hR h
      · exact h
    subst hR
    clear h
    go_enter Tryz.func15, Tryz.ntmps15
    go_wp2_with fail
    refine (known_any mode _).mono ?_
    rintro e w1 ⟨rfl, rfl⟩
    rw [hk]
    clear hk
    go_wp2_with fail
    refine (HP.out _ hT hs).mono ?_
    rintro r w1 ⟨rfl, hb⟩
    go_wp2_with fail
    refine (Canon_any x _ hx).mono ?_
    rintro r w2 ⟨rfl, hb2⟩
    go_wp2
    go_ret3
    exact ⟨rfl, bl_then (bl_al hb _) hb2⟩
  · have hR0 : (R != 0) = true := by simpa using hR
    have HRN := hid hR
    clear hR h
    go_enter Tryz.func15, Tryz.ntmps15
    go_wp2_with fail
    refine (known_any mode _).mono ?_
    rintro e w1 ⟨rfl, rfl⟩
    rw [hk]
    clear hk
    go_wp2_with fail
    refine (HP.out _ hT hs).mono ?_
    rintro r w1 ⟨rfl, hb⟩
    go_wp2_with fail
    refine (Canon_any x _ hx).mono ?_
    rintro r w2 ⟨rfl, hb2⟩
    go_wp2
    go_ret3
    exact ⟨rfl, bl_then (bl_al hb _) hb2⟩
set_option maxHeartbeats 400000 in
theorem wholeOf_core (x X : Nat) (width mode Y : Int) (w : World) (hw : width = 8 ∨ width = 16 ∨ width = 32 ∨ width = 64)
    (h : Calls Tryz.prog 15 #[.float .f64 x, .int .i64 mode] w fun r w' => r = .returned (.tuple #[.float .f64 X, .int .i64 Y, .int .i64 0]) ∧ Below w.heap.size w w') :
    Calls Tryz.prog 61 #[.float .f64 x, .int .i64 width, .int .i64 mode] w fun r w' => r = .returned (.tuple #[.float .f64 X, .int .i64 Y, .int .i64 0]) ∧ Below w.heap.size w w' := by
  have H := hid h
  clear h
  rcases hw with rfl | rfl | rfl | rfl
  all_goals
    go_enter Tryz.func61, Tryz.ntmps61
    go_wp2_with fail
    refine H.out.mono ?_
    rintro r w1 ⟨rfl, hb⟩
    go_wp2
    go_ret3
    exact ⟨rfl, hb⟩
set_option maxHeartbeats 400000 in
theorem isnan_any (x : Nat) (w : World) (hx : x < 18446744073709551616) :
    Calls Tryz.prog 62 #[.float .f64 x] w fun r w' => r = .returned (.bool (decide (9218868437227405312 < x % 9223372036854775808))) ∧ w' = w := by
  have h := order_self x hx
  obtain ⟨b, hb⟩ : ∃ b, Hid (decide (9218868437227405312 < x % 9223372036854775808) = b) := ⟨_, rfl⟩
  rw [hb.out] at h ⊢
  go_enter Tryz.func62, Tryz.ntmps62
  go_wp2
  go_ret
  exact ⟨rfl, rfl⟩
end Go.Proofs.YtpgcelbgmpfliaaGreatDoor

namespace Go.Proofs.YtpgcelbgmpfliaaGreatDoor
open Go.RowKit Go.IntWalk

theorem ret_iii {a a' b b' c c' : Int} (h0 : a = a') (h1 : b = b') (h2 : c = c') : Ending.returned (.tuple #[.int .i64 a, .int .i64 b, .int .i64 c]) = .returned (.tuple #[.int .i64 a', .int .i64 b', .int .i64 c']) := by rw [h0, h1, h2]
theorem toint_run (X : Nat) (n : Int) (h : floatToIntVal .f64 X .i64 = some n) (w : World) : (convert 23 2 (.float .f64 X)).run Tryz.prog w = .ok (.int .i64 n) w :=
  run_convert_float_int w _ _ _ _ _ _ (by kernel_rfl) (by kernel_rfl) h
theorem least8_is : floatOfInt .f64 (-128) = 13862079653046386688 := by decide +kernel
theorem least8_neg : Op.unary .neg (.float .f64 13862079653046386688) = pure (.float .f64 4638707616191610880) := rfl
set_option maxHeartbeats 400000 in
theorem Int8_in (x X : Nat) (mode Y n : Int) (w : World) (hX : X < 18446744073709551616) (hn : X % 9223372036854775808 ≤ 9218868437227405312)
    (h1 : (FloatKind.f64.format.order X 13862079653046386688 == some .lt) = false) (h2 : (FloatKind.f64.format.order X 4638707616191610880 == some .gt || FloatKind.f64.format.order X 4638707616191610880 == some .eq) = false) (hc : floatToIntVal .f64 X .i64 = some n)
    (h : Calls Tryz.prog 15 #[.float .f64 x, .int .i64 mode] w fun r w' => r = .returned (.tuple #[.float .f64 X, .int .i64 Y, .int .i64 0]) ∧ Below w.heap.size w w') :
    Calls Tryz.prog 18 #[.float .f64 x, .int .i64 8, .int .i64 mode] w fun r w' => r = .returned (.tuple #[.int .i64 n, .int .i64 Y, .int .i64 0]) ∧ Below w.heap.size w w' := by
  have H := hid (wholeOf_core x X 8 mode Y w (by decide) h)
  have HI := hid (fun (w : World) => isnan_any X w hX)
  have hnd : decide (9218868437227405312 < X % 9223372036854775808) = false := decide_eq_false (by omega)
  rw [hnd] at HI
  have hfl := least8_is
  have hfn := least8_neg
  have hcr := toint_run X n hc
  clear h hc hX hn hnd
  go_enter Tryz.func18, Tryz.ntmps18
  go_wp2_with fail
  refine H.out.mono ?_
  rintro r w1 ⟨rfl, hb⟩
  go_wp2_with fail
  refine (HI.out _).mono ?_
  rintro r w2 ⟨rfl, rfl⟩
  go_wp2
  go_ret3
  exact ⟨rfl, hb⟩
set_option maxHeartbeats 400000 in
theorem Int8_high (x X : Nat) (mode Y : Int) (w : World) (hX : X < 18446744073709551616) (hn : X % 9223372036854775808 ≤ 9218868437227405312)
    (h1 : (FloatKind.f64.format.order X 13862079653046386688 == some .lt) = false) (h2 : (FloatKind.f64.format.order X 4638707616191610880 == some .gt || FloatKind.f64.format.order X 4638707616191610880 == some .eq) = true)
    (h : Calls Tryz.prog 15 #[.float .f64 x, .int .i64 mode] w fun r w' => r = .returned (.tuple #[.float .f64 X, .int .i64 Y, .int .i64 0]) ∧ Below w.heap.size w w') :
    Calls Tryz.prog 18 #[.float .f64 x, .int .i64 8, .int .i64 mode] w fun r w' => r = .returned (.tuple #[.int .i64 127, .int .i64 8, .int .i64 0]) ∧ Below w.heap.size w w' := by
  have H := hid (wholeOf_core x X 8 mode Y w (by decide) h)
  have HI := hid (fun (w : World) => isnan_any X w hX)
  have hnd : decide (9218868437227405312 < X % 9223372036854775808) = false := decide_eq_false (by omega)
  rw [hnd] at HI
  have hfl := least8_is
  have hfn := least8_neg
  clear h hX hn hnd
  go_enter Tryz.func18, Tryz.ntmps18
  go_wp2_with fail
  refine H.out.mono ?_
  rintro r w1 ⟨rfl, hb⟩
  go_wp2_with fail
  refine (HI.out _).mono ?_
  rintro r w2 ⟨rfl, rfl⟩
  go_wp2
  go_ret3
  exact ⟨rfl, hb⟩
theorem least64_is : floatOfInt .f64 (-9223372036854775808) = 14114281232179134464 := by decide +kernel
theorem least64_neg : Op.unary .neg (.float .f64 14114281232179134464) = pure (.float .f64 4890909195324358656) := rfl
set_option maxHeartbeats 400000 in
theorem Int64_in (x X : Nat) (mode Y n : Int) (w : World) (hX : X < 18446744073709551616) (hn : X % 9223372036854775808 ≤ 9218868437227405312)
    (h1 : (FloatKind.f64.format.order X 14114281232179134464 == some .lt) = false) (h2 : (FloatKind.f64.format.order X 4890909195324358656 == some .gt || FloatKind.f64.format.order X 4890909195324358656 == some .eq) = false) (hc : floatToIntVal .f64 X .i64 = some n)
    (h : Calls Tryz.prog 15 #[.float .f64 x, .int .i64 mode] w fun r w' => r = .returned (.tuple #[.float .f64 X, .int .i64 Y, .int .i64 0]) ∧ Below w.heap.size w w') :
    Calls Tryz.prog 18 #[.float .f64 x, .int .i64 64, .int .i64 mode] w fun r w' => r = .returned (.tuple #[.int .i64 n, .int .i64 Y, .int .i64 0]) ∧ Below w.heap.size w w' := by
  have H := hid (wholeOf_core x X 64 mode Y w (by decide) h)
  have HI := hid (fun (w : World) => isnan_any X w hX)
  have hnd : decide (9218868437227405312 < X % 9223372036854775808) = false := decide_eq_false (by omega)
  rw [hnd] at HI
  have hfl := least64_is
  have hfn := least64_neg
  have hcr := toint_run X n hc
  clear h hc hX hn hnd
  go_enter Tryz.func18, Tryz.ntmps18
  go_wp2_with fail
  refine H.out.mono ?_
  rintro r w1 ⟨rfl, hb⟩
  go_wp2_with fail
  refine (HI.out _).mono ?_
  rintro r w2 ⟨rfl, rfl⟩
  go_wp2
  go_ret3
  exact ⟨rfl, hb⟩
set_option maxHeartbeats 400000 in
theorem Int64_high (x X : Nat) (mode Y : Int) (w : World) (hX : X < 18446744073709551616) (hn : X % 9223372036854775808 ≤ 9218868437227405312)
    (h1 : (FloatKind.f64.format.order X 14114281232179134464 == some .lt) = false) (h2 : (FloatKind.f64.format.order X 4890909195324358656 == some .gt || FloatKind.f64.format.order X 4890909195324358656 == some .eq) = true)
    (h : Calls Tryz.prog 15 #[.float .f64 x, .int .i64 mode] w fun r w' => r = .returned (.tuple #[.float .f64 X, .int .i64 Y, .int .i64 0]) ∧ Below w.heap.size w w') :
    Calls Tryz.prog 18 #[.float .f64 x, .int .i64 64, .int .i64 mode] w fun r w' => r = .returned (.tuple #[.int .i64 9223372036854775807, .int .i64 8, .int .i64 0]) ∧ Below w.heap.size w w' := by
  have H := hid (wholeOf_core x X 64 mode Y w (by decide) h)
  have HI := hid (fun (w : World) => isnan_any X w hX)
  have hnd : decide (9218868437227405312 < X % 9223372036854775808) = false := decide_eq_false (by omega)
  rw [hnd] at HI
  have hfl := least64_is
  have hfn := least64_neg
  clear h hX hn hnd
  go_enter Tryz.func18, Tryz.ntmps18
  go_wp2_with fail
  refine H.out.mono ?_
  rintro r w1 ⟨rfl, hb⟩
  go_wp2_with fail
  refine (HI.out _).mono ?_
  rintro r w2 ⟨rfl, rfl⟩
  go_wp2
  go_ret3
  exact ⟨rfl, hb⟩
end Go.Proofs.YtpgcelbgmpfliaaGreatDoor
