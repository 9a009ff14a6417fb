
/- What convert's Int does with what Whole answers. -/
import Derived.Test.YtdhifmkfdpbpcaaGreatDoorCvWhole
namespace Go.Proofs.YtdhifmkfdpbpcaaGreatDoor
open Go.RowKit Go.IntWalk

theorem ret_iii {a a' b b' c c' : Int} (h0 : a = a') (h1 : b = b') (h2 : c = c') : Ending.returned (.tuple #[.int .i64 a, .int .i64 b, .int .i64 c]) = .returned (.tuple #[.int .i64 a', .int .i64 b', .int .i64 c']) := by rw [h0, h1, h2]
theorem toint_run (X : Nat) (n : Int) (h : floatToIntVal .f64 X .i64 = some n) (w : World) : (convert 23 2 (.float .f64 X)).run Tryz.prog w = .ok (.int .i64 n) w :=
  run_convert_float_int w _ _ _ _ _ _ (by kernel_rfl) (by kernel_rfl) h
theorem least8_is : floatOfInt .f64 (-128) = 13862079653046386688 := by decide +kernel
theorem least8_neg : Op.unary .neg (.float .f64 13862079653046386688) = pure (.float .f64 4638707616191610880) := rfl
set_option maxHeartbeats 400000 in
theorem Int8_in (x X : Nat) (mode Y n : Int) (w : World) (hX : X < 18446744073709551616) (hn : X % 9223372036854775808 ≤ 9218868437227405312)
    (h1 : (FloatKind.f64.format.order X 13862079653046386688 == some .lt) = false) (h2 : (FloatKind.f64.format.order X 4638707616191610880 == some .gt || FloatKind.f64.format.order X 4638707616191610880 == some .eq) = false) (hc : floatToIntVal .f64 X .i64 = some n)
    (h : Calls Tryz.prog 15 #[.float .f64 x, .int .i64 mode] w fun r w' => r = .returned (.tuple #[.float .f64 X, .int .i64 Y, .int .i64 0]) ∧ Below w.heap.size w w') :
    Calls Tryz.prog 18 #[.float .f64 x, .int .i64 8, .int .i64 mode] w fun r w' => r = .returned (.tuple #[.int .i64 n, .int .i64 Y, .int .i64 0]) ∧ Below w.heap.size w w' := by
  have H := hid (wholeOf_core x X 8 mode Y w (by decide) h)
  have HI := hid (fun (w : World) => isnan_any X w hX)
  have hnd : decide (9218868437227405312 < X % 9223372036854775808) = false := decide_eq_false (by omega)
  rw [hnd] at HI
  have hfl := least8_is
  have hfn := least8_neg
  have hcr := toint_run X n hc
  clear h hc hX hn hnd
  go_enter Tryz.func18, Tryz.ntmps18
  go_wp2_with fail
  refine H.out.mono ?_
  rintro r w1 ⟨rfl, hb⟩
  go_wp2_with fail
  refine (HI.out _).mono ?_
  rintro r w2 ⟨rfl, rfl⟩
  go_wp2
  go_ret3
  exact ⟨rfl, hb⟩
set_option maxHeartbeats 400000 in
theorem Int8_high (x X : Nat) (mode Y : Int) (w : World) (hX : X < 18446744073709551616) (hn : X % 9223372036854775808 ≤ 9218868437227405312)
    (h1 : (FloatKind.f64.format.order X 13862079653046386688 == some .lt) = false) (h2 : (FloatKind.f64.format.order X 4638707616191610880 == some .gt || FloatKind.f64.format.order X 4638707616191610880 == some .eq) = true)
    (h : Calls Tryz.prog 15 #[.float .f64 x, .int .i64 mode] w fun r w' => r = .returned (.tuple #[.float .f64 X, .int .i64 Y, .int .i64 0]) ∧ Below w.heap.size w w') :
    Calls Tryz.prog 18 #[.float .f64 x, .int .i64 8, .int .i64 mode] w fun r w' => r = .returned (.tuple #[.int .i64 127, .int .i64 8, .int .i64 0]) ∧ Below w.heap.size w w' := by
  have H := hid (wholeOf_core x X 8 mode Y w (by decide) h)
  have HI := hid (fun (w : World) => isnan_any X w hX)
  have hnd : decide (9218868437227405312 < X % 9223372036854775808) = false := decide_eq_false (by omega)
  rw [hnd] at HI
  have hfl := least8_is
  have hfn := least8_neg
  clear h hX hn hnd
  go_enter Tryz.func18, Tryz.ntmps18
  go_wp2_with fail
  refine H.out.mono ?_
  rintro r w1 ⟨rfl, hb⟩
  go_wp2_with fail
  refine (HI.out _).mono ?_
  rintro r w2 ⟨rfl, rfl⟩
  go_wp2
  go_ret3
  exact ⟨rfl, hb⟩
theorem least64_is : floatOfInt .f64 (-9223372036854775808) = 14114281232179134464 := by decide +kernel
theorem least64_neg : Op.unary .neg (.float .f64 14114281232179134464) = pure (.float .f64 4890909195324358656) := rfl
set_option maxHeartbeats 400000 in
theorem Int64_in (x X : Nat) (mode Y n : Int) (w : World) (hX : X < 18446744073709551616) (hn : X % 9223372036854775808 ≤ 9218868437227405312)
    (h1 : (FloatKind.f64.format.order X 14114281232179134464 == some .lt) = false) (h2 : (FloatKind.f64.format.order X 4890909195324358656 == some .gt || FloatKind.f64.format.order X 4890909195324358656 == some .eq) = false) (hc : floatToIntVal .f64 X .i64 = some n)
    (h : Calls Tryz.prog 15 #[.float .f64 x, .int .i64 mode] w fun r w' => r = .returned (.tuple #[.float .f64 X, .int .i64 Y, .int .i64 0]) ∧ Below w.heap.size w w') :
    Calls Tryz.prog 18 #[.float .f64 x, .int .i64 64, .int .i64 mode] w fun r w' => r = .returned (.tuple #[.int .i64 n, .int .i64 Y, .int .i64 0]) ∧ Below w.heap.size w w' := by
  have H := hid (wholeOf_core x X 64 mode Y w (by decide) h)
  have HI := hid (fun (w : World) => isnan_any X w hX)
  have hnd : decide (9218868437227405312 < X % 9223372036854775808) = false := decide_eq_false (by omega)
  rw [hnd] at HI
  have hfl := least64_is
  have hfn := least64_neg
  have hcr := toint_run X n hc
  clear h hc hX hn hnd
  go_enter Tryz.func18, Tryz.ntmps18
  go_wp2_with fail
  refine H.out.mono ?_
  rintro r w1 ⟨rfl, hb⟩
  go_wp2_with fail
  refine (HI.out _).mono ?_
  rintro r w2 ⟨rfl, rfl⟩
  go_wp2
  go_ret3
  exact ⟨rfl, hb⟩
set_option maxHeartbeats 400000 in
theorem Int64_high (x X : Nat) (mode Y : Int) (w : World) (hX : X < 18446744073709551616) (hn : X % 9223372036854775808 ≤ 9218868437227405312)
    (h1 : (FloatKind.f64.format.order X 14114281232179134464 == some .lt) = false) (h2 : (FloatKind.f64.format.order X 4890909195324358656 == some .gt || FloatKind.f64.format.order X 4890909195324358656 == some .eq) = true)
    (h : Calls Tryz.prog 15 #[.float .f64 x, .int .i64 mode] w fun r w' => r = .returned (.tuple #[.float .f64 X, .int .i64 Y, .int .i64 0]) ∧ Below w.heap.size w w') :
    Calls Tryz.prog 18 #[.float .f64 x, .int .i64 64, .int .i64 mode] w fun r w' => r = .returned (.tuple #[.int .i64 9223372036854775807, .int .i64 8, .int .i64 0]) ∧ Below w.heap.size w w' := by
  have H := hid (wholeOf_core x X 64 mode Y w (by decide) h)
  have HI := hid (fun (w : World) => isnan_any X w hX)
  have hnd : decide (9218868437227405312 < X % 9223372036854775808) = false := decide_eq_false (by omega)
  rw [hnd] at HI
  have hfl := least64_is
  have hfn := least64_neg
  clear h hX hn hnd
  go_enter Tryz.func18, Tryz.ntmps18
  go_wp2_with fail
  refine H.out.mono ?_
  rintro r w1 ⟨rfl, hb⟩
  go_wp2_with fail
  refine (HI.out _).mono ?_
  rintro r w2 ⟨rfl, rfl⟩
  go_wp2
  go_ret3
  exact ⟨rfl, hb⟩
end Go.Proofs.YtdhifmkfdpbpcaaGreatDoor
