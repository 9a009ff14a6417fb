
/- What convert's Int below its least number and Uint do with what Whole answers; widths that are none. -/
import Derived.Test.YtpgcelbgmpfliaaGreatDoorV35
namespace Go.Proofs.YtpgcelbgmpfliaaGreatDoor
open Go.RowKit Go.IntWalk

theorem touint_run (X : Nat) (n : Int) (h : floatToIntVal .f64 X .u64 = some n) (w : World) : (convert 23 22 (.float .f64 X)).run Tryz.prog w = .ok (.int .u64 n) w :=
  run_convert_float_int w _ _ _ _ _ _ (by kernel_rfl) (by kernel_rfl) h
set_option maxHeartbeats 400000 in
theorem wholeOf_bad (x X : Nat) (width mode Y : Int) (w : World) (hw : ¬ (width = 8 ∨ width = 16 ∨ width = 32 ∨ width = 64))
    (h : Calls Tryz.prog 15 #[.float .f64 x, .int .i64 mode] w fun r w' => r = .returned (.tuple #[.float .f64 X, .int .i64 Y, .int .i64 0]) ∧ Below w.heap.size w w') :
    Calls Tryz.prog 61 #[.float .f64 x, .int .i64 width, .int .i64 mode] w fun r w' => r = .returned (.tuple #[.float .f64 0, .int .i64 0, .int .i64 21]) ∧ Below w.heap.size w w' := by
  have H := hid h
  have h1 : (width == 8) = false := by simp; omega
  have h2 : (width == 16) = false := by simp; omega
  have h3 : (width == 32) = false := by simp; omega
  have h4 : (width == 64) = false := by simp; omega
  clear h hw
  go_enter Tryz.func61, Tryz.ntmps61
  go_wp2_with fail
  refine H.out.mono ?_
  rintro r w1 ⟨rfl, hb⟩
  go_wp2
  go_ret3
  exact ⟨rfl, hb⟩
set_option maxHeartbeats 400000 in
theorem Int_bad (x X : Nat) (width mode Y : Int) (w : World) (hw : ¬ (width = 8 ∨ width = 16 ∨ width = 32 ∨ width = 64))
    (h : Calls Tryz.prog 15 #[.float .f64 x, .int .i64 mode] w fun r w' => r = .returned (.tuple #[.float .f64 X, .int .i64 Y, .int .i64 0]) ∧ Below w.heap.size w w') :
    Calls Tryz.prog 18 #[.float .f64 x, .int .i64 width, .int .i64 mode] w fun r w' => r = .returned (.tuple #[.int .i64 0, .int .i64 0, .int .i64 21]) ∧ Below w.heap.size w w' := by
  have H := hid (wholeOf_bad x X width mode Y w hw h)
  clear h hw
  go_enter Tryz.func18, Tryz.ntmps18
  go_wp2_with fail
  refine H.out.mono ?_
  rintro r w1 ⟨rfl, hb⟩
  go_wp2
  go_ret3
  exact ⟨rfl, hb⟩
set_option maxHeartbeats 400000 in
theorem Uint_bad (x X : Nat) (width mode Y : Int) (w : World) (hw : ¬ (width = 8 ∨ width = 16 ∨ width = 32 ∨ width = 64))
    (h : Calls Tryz.prog 15 #[.float .f64 x, .int .i64 mode] w fun r w' => r = .returned (.tuple #[.float .f64 X, .int .i64 Y, .int .i64 0]) ∧ Below w.heap.size w w') :
    Calls Tryz.prog 20 #[.float .f64 x, .int .i64 width, .int .i64 mode] w fun r w' => r = .returned (.tuple #[.int .u64 0, .int .i64 0, .int .i64 21]) ∧ Below w.heap.size w w' := by
  have H := hid (wholeOf_bad x X width mode Y w hw h)
  clear h hw
  go_enter Tryz.func20, Tryz.ntmps20
  go_wp2_with fail
  refine H.out.mono ?_
  rintro r w1 ⟨rfl, hb⟩
  go_wp2
  go_ret3
  exact ⟨rfl, hb⟩
set_option maxHeartbeats 400000 in
theorem Int8_low (x X : Nat) (mode Y : Int) (w : World) (hX : X < 18446744073709551616) (hn : X % 9223372036854775808 ≤ 9218868437227405312)
    (h1 : (FloatKind.f64.format.order X 13862079653046386688 == some .lt) = true)
    (h : Calls Tryz.prog 15 #[.float .f64 x, .int .i64 mode] w fun r w' => r = .returned (.tuple #[.float .f64 X, .int .i64 Y, .int .i64 0]) ∧ Below w.heap.size w w') :
    Calls Tryz.prog 18 #[.float .f64 x, .int .i64 8, .int .i64 mode] w fun r w' => r = .returned (.tuple #[.int .i64 (-128), .int .i64 8, .int .i64 0]) ∧ Below w.heap.size w w' := by
  have H := hid (wholeOf_core x X 8 mode Y w (by decide) h)
  have HI := hid (fun (w : World) => isnan_any X w hX)
  have hnd : decide (9218868437227405312 < X % 9223372036854775808) = false := decide_eq_false (by omega)
  rw [hnd] at HI
  have hfl := least8_is
  have hfn := least8_neg
  clear h hX hn hnd
  go_enter Tryz.func18, Tryz.ntmps18
  go_wp2_with fail
  refine H.out.mono ?_
  rintro r w1 ⟨rfl, hb⟩
  go_wp2_with fail
  refine (HI.out _).mono ?_
  rintro r w2 ⟨rfl, rfl⟩
  go_wp2
  go_ret3
  exact ⟨rfl, hb⟩
set_option maxHeartbeats 400000 in
theorem Int8_nan (x X : Nat) (mode Y : Int) (w : World) (hX : X < 18446744073709551616) (hn : 9218868437227405312 < X % 9223372036854775808)
    (h : Calls Tryz.prog 15 #[.float .f64 x, .int .i64 mode] w fun r w' => r = .returned (.tuple #[.float .f64 X, .int .i64 Y, .int .i64 0]) ∧ Below w.heap.size w w') :
    Calls Tryz.prog 18 #[.float .f64 x, .int .i64 8, .int .i64 mode] w fun r w' => r = .returned (.tuple #[.int .i64 0, .int .i64 8, .int .i64 0]) ∧ Below w.heap.size w w' := by
  have H := hid (wholeOf_core x X 8 mode Y w (by decide) h)
  have HI := hid (fun (w : World) => isnan_any X w hX)
  have hnd : decide (9218868437227405312 < X % 9223372036854775808) = true := decide_eq_true hn
  rw [hnd] at HI
  have hfl := least8_is
  have hfn := least8_neg
  clear h hX hn hnd
  go_enter Tryz.func18, Tryz.ntmps18
  go_wp2_with fail
  refine H.out.mono ?_
  rintro r w1 ⟨rfl, hb⟩
  go_wp2_with fail
  refine (HI.out _).mono ?_
  rintro r w2 ⟨rfl, rfl⟩
  go_wp2
  go_ret3
  exact ⟨rfl, hb⟩
theorem most8_is : floatOfInt .f64 128 = 4638707616191610880 := by decide +kernel
theorem twice8 (w : World) : (binOp .mul 23 (.float .f64 4611686018427387904) (.float .f64 4638707616191610880)).run Tryz.prog w = .ok (.float .f64 4643211215818981376) w := run_float_arith w .mul _ .f64 _ _ _ (by decide +kernel)
set_option maxHeartbeats 400000 in
theorem Uint8_in (x X : Nat) (mode Y n : Int) (w : World) (hX : X < 18446744073709551616) (hn : X % 9223372036854775808 ≤ 9218868437227405312)
    (h1 : (FloatKind.f64.format.order X 0 == some .lt) = false) (h2 : (FloatKind.f64.format.order X 4643211215818981376 == some .gt || FloatKind.f64.format.order X 4643211215818981376 == some .eq) = false) (hc : floatToIntVal .f64 X .u64 = some n)
    (h : Calls Tryz.prog 15 #[.float .f64 x, .int .i64 mode] w fun r w' => r = .returned (.tuple #[.float .f64 X, .int .i64 Y, .int .i64 0]) ∧ Below w.heap.size w w') :
    Calls Tryz.prog 20 #[.float .f64 x, .int .i64 8, .int .i64 mode] w fun r w' => r = .returned (.tuple #[.int .u64 n, .int .i64 Y, .int .i64 0]) ∧ Below w.heap.size w w' := by
  have H := hid (wholeOf_core x X 8 mode Y w (by decide) h)
  have HI := hid (fun (w : World) => isnan_any X w hX)
  have hnd : decide (9218868437227405312 < X % 9223372036854775808) = false := decide_eq_false (by omega)
  rw [hnd] at HI
  have hfl := most8_is
  have hfn := twice8
  have hcr := touint_run X n hc
  clear h hX hn hnd hc
  go_enter Tryz.func20, Tryz.ntmps20
  go_wp2_with fail
  refine H.out.mono ?_
  rintro r w1 ⟨rfl, hb⟩
  go_wp2_with fail
  refine (HI.out _).mono ?_
  rintro r w2 ⟨rfl, rfl⟩
  go_wp2
  go_ret3
  exact ⟨rfl, hb⟩
set_option maxHeartbeats 400000 in
theorem Uint8_high (x X : Nat) (mode Y : Int) (w : World) (hX : X < 18446744073709551616) (hn : X % 9223372036854775808 ≤ 9218868437227405312)
    (h1 : (FloatKind.f64.format.order X 0 == some .lt) = false) (h2 : (FloatKind.f64.format.order X 4643211215818981376 == some .gt || FloatKind.f64.format.order X 4643211215818981376 == some .eq) = true)
    (h : Calls Tryz.prog 15 #[.float .f64 x, .int .i64 mode] w fun r w' => r = .returned (.tuple #[.float .f64 X, .int .i64 Y, .int .i64 0]) ∧ Below w.heap.size w w') :
    Calls Tryz.prog 20 #[.float .f64 x, .int .i64 8, .int .i64 mode] w fun r w' => r = .returned (.tuple #[.int .u64 255, .int .i64 8, .int .i64 0]) ∧ Below w.heap.size w w' := by
  have H := hid (wholeOf_core x X 8 mode Y w (by decide) h)
  have HI := hid (fun (w : World) => isnan_any X w hX)
  have hnd : decide (9218868437227405312 < X % 9223372036854775808) = false := decide_eq_false (by omega)
  rw [hnd] at HI
  have hfl := most8_is
  have hfn := twice8
  clear h hX hn hnd
  go_enter Tryz.func20, Tryz.ntmps20
  go_wp2_with fail
  refine H.out.mono ?_
  rintro r w1 ⟨rfl, hb⟩
  go_wp2_with fail
  refine (HI.out _).mono ?_
  rintro r w2 ⟨rfl, rfl⟩
  go_wp2
  go_ret3
  exact ⟨rfl, hb⟩
set_option maxHeartbeats 400000 in
theorem Uint8_low (x X : Nat) (mode Y : Int) (w : World) (hX : X < 18446744073709551616) (hn : X % 9223372036854775808 ≤ 9218868437227405312)
    (h1 : (FloatKind.f64.format.order X 0 == some .lt) = true)
    (h : Calls Tryz.prog 15 #[.float .f64 x, .int .i64 mode] w fun r w' => r = .returned (.tuple #[.float .f64 X, .int .i64 Y, .int .i64 0]) ∧ Below w.heap.size w w') :
    Calls Tryz.prog 20 #[.float .f64 x, .int .i64 8, .int .i64 mode] w fun r w' => r = .returned (.tuple #[.int .u64 0, .int .i64 8, .int .i64 0]) ∧ Below w.heap.size w w' := by
  have H := hid (wholeOf_core x X 8 mode Y w (by decide) h)
  have HI := hid (fun (w : World) => isnan_any X w hX)
  have hnd : decide (9218868437227405312 < X % 9223372036854775808) = false := decide_eq_false (by omega)
  rw [hnd] at HI
  clear h hX hn hnd
  go_enter Tryz.func20, Tryz.ntmps20
  go_wp2_with fail
  refine H.out.mono ?_
  rintro r w1 ⟨rfl, hb⟩
  go_wp2_with fail
  refine (HI.out _).mono ?_
  rintro r w2 ⟨rfl, rfl⟩
  go_wp2
  go_ret3
  exact ⟨rfl, hb⟩
set_option maxHeartbeats 400000 in
theorem Int16_low (x X : Nat) (mode Y : Int) (w : World) (hX : X < 18446744073709551616) (hn : X % 9223372036854775808 ≤ 9218868437227405312)
    (h1 : (FloatKind.f64.format.order X 13898108450065350656 == some .lt) = true)
    (h : Calls Tryz.prog 15 #[.float .f64 x, .int .i64 mode] w fun r w' => r = .returned (.tuple #[.float .f64 X, .int .i64 Y, .int .i64 0]) ∧ Below w.heap.size w w') :
    Calls Tryz.prog 18 #[.float .f64 x, .int .i64 16, .int .i64 mode] w fun r w' => r = .returned (.tuple #[.int .i64 (-32768), .int .i64 8, .int .i64 0]) ∧ Below w.heap.size w w' := by
  have H := hid (wholeOf_core x X 16 mode Y w (by decide) h)
  have HI := hid (fun (w : World) => isnan_any X w hX)
  have hnd : decide (9218868437227405312 < X % 9223372036854775808) = false := decide_eq_false (by omega)
  rw [hnd] at HI
  have hfl := least16_is
  have hfn := least16_neg
  clear h hX hn hnd
  go_enter Tryz.func18, Tryz.ntmps18
  go_wp2_with fail
  refine H.out.mono ?_
  rintro r w1 ⟨rfl, hb⟩
  go_wp2_with fail
  refine (HI.out _).mono ?_
  rintro r w2 ⟨rfl, rfl⟩
  go_wp2
  go_ret3
  exact ⟨rfl, hb⟩
set_option maxHeartbeats 400000 in
theorem Int16_nan (x X : Nat) (mode Y : Int) (w : World) (hX : X < 18446744073709551616) (hn : 9218868437227405312 < X % 9223372036854775808)
    (h : Calls Tryz.prog 15 #[.float .f64 x, .int .i64 mode] w fun r w' => r = .returned (.tuple #[.float .f64 X, .int .i64 Y, .int .i64 0]) ∧ Below w.heap.size w w') :
    Calls Tryz.prog 18 #[.float .f64 x, .int .i64 16, .int .i64 mode] w fun r w' => r = .returned (.tuple #[.int .i64 0, .int .i64 8, .int .i64 0]) ∧ Below w.heap.size w w' := by
  have H := hid (wholeOf_core x X 16 mode Y w (by decide) h)
  have HI := hid (fun (w : World) => isnan_any X w hX)
  have hnd : decide (9218868437227405312 < X % 9223372036854775808) = true := decide_eq_true hn
  rw [hnd] at HI
  have hfl := least16_is
  have hfn := least16_neg
  clear h hX hn hnd
  go_enter Tryz.func18, Tryz.ntmps18
  go_wp2_with fail
  refine H.out.mono ?_
  rintro r w1 ⟨rfl, hb⟩
  go_wp2_with fail
  refine (HI.out _).mono ?_
  rintro r w2 ⟨rfl, rfl⟩
  go_wp2
  go_ret3
  exact ⟨rfl, hb⟩
theorem most16_is : floatOfInt .f64 32768 = 4674736413210574848 := by decide +kernel
theorem twice16 (w : World) : (binOp .mul 23 (.float .f64 4611686018427387904) (.float .f64 4674736413210574848)).run Tryz.prog w = .ok (.float .f64 4679240012837945344) w := run_float_arith w .mul _ .f64 _ _ _ (by decide +kernel)
set_option maxHeartbeats 400000 in
theorem Uint16_in (x X : Nat) (mode Y n : Int) (w : World) (hX : X < 18446744073709551616) (hn : X % 9223372036854775808 ≤ 9218868437227405312)
    (h1 : (FloatKind.f64.format.order X 0 == some .lt) = false) (h2 : (FloatKind.f64.format.order X 4679240012837945344 == some .gt || FloatKind.f64.format.order X 4679240012837945344 == some .eq) = false) (hc : floatToIntVal .f64 X .u64 = some n)
    (h : Calls Tryz.prog 15 #[.float .f64 x, .int .i64 mode] w fun r w' => r = .returned (.tuple #[.float .f64 X, .int .i64 Y, .int .i64 0]) ∧ Below w.heap.size w w') :
    Calls Tryz.prog 20 #[.float .f64 x, .int .i64 16, .int .i64 mode] w fun r w' => r = .returned (.tuple #[.int .u64 n, .int .i64 Y, .int .i64 0]) ∧ Below w.heap.size w w' := by
  have H := hid (wholeOf_core x X 16 mode Y w (by decide) h)
  have HI := hid (fun (w : World) => isnan_any X w hX)
  have hnd : decide (9218868437227405312 < X % 9223372036854775808) = false := decide_eq_false (by omega)
  rw [hnd] at HI
  have hfl := most16_is
  have hfn := twice16
  have hcr := touint_run X n hc
  clear h hX hn hnd hc
  go_enter Tryz.func20, Tryz.ntmps20
  go_wp2_with fail
  refine H.out.mono ?_
  rintro r w1 ⟨rfl, hb⟩
  go_wp2_with fail
  refine (HI.out _).mono ?_
  rintro r w2 ⟨rfl, rfl⟩
  go_wp2
  go_ret3
  exact ⟨rfl, hb⟩
set_option maxHeartbeats 400000 in
theorem Uint16_high (x X : Nat) (mode Y : Int) (w : World) (hX : X < 18446744073709551616) (hn : X % 9223372036854775808 ≤ 9218868437227405312)
    (h1 : (FloatKind.f64.format.order X 0 == some .lt) = false) (h2 : (FloatKind.f64.format.order X 4679240012837945344 == some .gt || FloatKind.f64.format.order X 4679240012837945344 == some .eq) = true)
    (h : Calls Tryz.prog 15 #[.float .f64 x, .int .i64 mode] w fun r w' => r = .returned (.tuple #[.float .f64 X, .int .i64 Y, .int .i64 0]) ∧ Below w.heap.size w w') :
    Calls Tryz.prog 20 #[.float .f64 x, .int .i64 16, .int .i64 mode] w fun r w' => r = .returned (.tuple #[.int .u64 65535, .int .i64 8, .int .i64 0]) ∧ Below w.heap.size w w' := by
  have H := hid (wholeOf_core x X 16 mode Y w (by decide) h)
  have HI := hid (fun (w : World) => isnan_any X w hX)
  have hnd : decide (9218868437227405312 < X % 9223372036854775808) = false := decide_eq_false (by omega)
  rw [hnd] at HI
  have hfl := most16_is
  have hfn := twice16
  clear h hX hn hnd
  go_enter Tryz.func20, Tryz.ntmps20
  go_wp2_with fail
  refine H.out.mono ?_
  rintro r w1 ⟨rfl, hb⟩
  go_wp2_with fail
  refine (HI.out _).mono ?_
  rintro r w2 ⟨rfl, rfl⟩
  go_wp2
  go_ret3
  exact ⟨rfl, hb⟩
set_option maxHeartbeats 400000 in
theorem Uint16_low (x X : Nat) (mode Y : Int) (w : World) (hX : X < 18446744073709551616) (hn : X % 9223372036854775808 ≤ 9218868437227405312)
    (h1 : (FloatKind.f64.format.order X 0 == some .lt) = true)
    (h : Calls Tryz.prog 15 #[.float .f64 x, .int .i64 mode] w fun r w' => r = .returned (.tuple #[.float .f64 X, .int .i64 Y, .int .i64 0]) ∧ Below w.heap.size w w') :
    Calls Tryz.prog 20 #[.float .f64 x, .int .i64 16, .int .i64 mode] w fun r w' => r = .returned (.tuple #[.int .u64 0, .int .i64 8, .int .i64 0]) ∧ Below w.heap.size w w' := by
  have H := hid (wholeOf_core x X 16 mode Y w (by decide) h)
  have HI := hid (fun (w : World) => isnan_any X w hX)
  have hnd : decide (9218868437227405312 < X % 9223372036854775808) = false := decide_eq_false (by omega)
  rw [hnd] at HI
  clear h hX hn hnd
  go_enter Tryz.func20, Tryz.ntmps20
  go_wp2_with fail
  refine H.out.mono ?_
  rintro r w1 ⟨rfl, hb⟩
  go_wp2_with fail
  refine (HI.out _).mono ?_
  rintro r w2 ⟨rfl, rfl⟩
  go_wp2
  go_ret3
  exact ⟨rfl, hb⟩
set_option maxHeartbeats 400000 in
theorem Int32_low (x X : Nat) (mode Y : Int) (w : World) (hX : X < 18446744073709551616) (hn : X % 9223372036854775808 ≤ 9218868437227405312)
    (h1 : (FloatKind.f64.format.order X 13970166044103278592 == some .lt) = true)
    (h : Calls Tryz.prog 15 #[.float .f64 x, .int .i64 mode] w fun r w' => r = .returned (.tuple #[.float .f64 X, .int .i64 Y, .int .i64 0]) ∧ Below w.heap.size w w') :
    Calls Tryz.prog 18 #[.float .f64 x, .int .i64 32, .int .i64 mode] w fun r w' => r = .returned (.tuple #[.int .i64 (-2147483648), .int .i64 8, .int .i64 0]) ∧ Below w.heap.size w w' := by
  have H := hid (wholeOf_core x X 32 mode Y w (by decide) h)
  have HI := hid (fun (w : World) => isnan_any X w hX)
  have hnd : decide (9218868437227405312 < X % 9223372036854775808) = false := decide_eq_false (by omega)
  rw [hnd] at HI
  have hfl := least32_is
  have hfn := least32_neg
  clear h hX hn hnd
  go_enter Tryz.func18, Tryz.ntmps18
  go_wp2_with fail
  refine H.out.mono ?_
  rintro r w1 ⟨rfl, hb⟩
  go_wp2_with fail
  refine (HI.out _).mono ?_
  rintro r w2 ⟨rfl, rfl⟩
  go_wp2
  go_ret3
  exact ⟨rfl, hb⟩
set_option maxHeartbeats 400000 in
theorem Int32_nan (x X : Nat) (mode Y : Int) (w : World) (hX : X < 18446744073709551616) (hn : 9218868437227405312 < X % 9223372036854775808)
    (h : Calls Tryz.prog 15 #[.float .f64 x, .int .i64 mode] w fun r w' => r = .returned (.tuple #[.float .f64 X, .int .i64 Y, .int .i64 0]) ∧ Below w.heap.size w w') :
    Calls Tryz.prog 18 #[.float .f64 x, .int .i64 32, .int .i64 mode] w fun r w' => r = .returned (.tuple #[.int .i64 0, .int .i64 8, .int .i64 0]) ∧ Below w.heap.size w w' := by
  have H := hid (wholeOf_core x X 32 mode Y w (by decide) h)
  have HI := hid (fun (w : World) => isnan_any X w hX)
  have hnd : decide (9218868437227405312 < X % 9223372036854775808) = true := decide_eq_true hn
  rw [hnd] at HI
  have hfl := least32_is
  have hfn := least32_neg
  clear h hX hn hnd
  go_enter Tryz.func18, Tryz.ntmps18
  go_wp2_with fail
  refine H.out.mono ?_
  rintro r w1 ⟨rfl, hb⟩
  go_wp2_with fail
  refine (HI.out _).mono ?_
  rintro r w2 ⟨rfl, rfl⟩
  go_wp2
  go_ret3
  exact ⟨rfl, hb⟩
theorem most32_is : floatOfInt .f64 2147483648 = 4746794007248502784 := by decide +kernel
theorem twice32 (w : World) : (binOp .mul 23 (.float .f64 4611686018427387904) (.float .f64 4746794007248502784)).run Tryz.prog w = .ok (.float .f64 4751297606875873280) w := run_float_arith w .mul _ .f64 _ _ _ (by decide +kernel)
set_option maxHeartbeats 400000 in
theorem Uint32_in (x X : Nat) (mode Y n : Int) (w : World) (hX : X < 18446744073709551616) (hn : X % 9223372036854775808 ≤ 9218868437227405312)
    (h1 : (FloatKind.f64.format.order X 0 == some .lt) = false) (h2 : (FloatKind.f64.format.order X 4751297606875873280 == some .gt || FloatKind.f64.format.order X 4751297606875873280 == some .eq) = false) (hc : floatToIntVal .f64 X .u64 = some n)
    (h : Calls Tryz.prog 15 #[.float .f64 x, .int .i64 mode] w fun r w' => r = .returned (.tuple #[.float .f64 X, .int .i64 Y, .int .i64 0]) ∧ Below w.heap.size w w') :
    Calls Tryz.prog 20 #[.float .f64 x, .int .i64 32, .int .i64 mode] w fun r w' => r = .returned (.tuple #[.int .u64 n, .int .i64 Y, .int .i64 0]) ∧ Below w.heap.size w w' := by
  have H := hid (wholeOf_core x X 32 mode Y w (by decide) h)
  have HI := hid (fun (w : World) => isnan_any X w hX)
  have hnd : decide (9218868437227405312 < X % 9223372036854775808) = false := decide_eq_false (by omega)
  rw [hnd] at HI
  have hfl := most32_is
  have hfn := twice32
  have hcr := touint_run X n hc
  clear h hX hn hnd hc
  go_enter Tryz.func20, Tryz.ntmps20
  go_wp2_with fail
  refine H.out.mono ?_
  rintro r w1 ⟨rfl, hb⟩
  go_wp2_with fail
  refine (HI.out _).mono ?_
  rintro r w2 ⟨rfl, rfl⟩
  go_wp2
  go_ret3
  exact ⟨rfl, hb⟩
set_option maxHeartbeats 400000 in
theorem Uint32_high (x X : Nat) (mode Y : Int) (w : World) (hX : X < 18446744073709551616) (hn : X % 9223372036854775808 ≤ 9218868437227405312)
    (h1 : (FloatKind.f64.format.order X 0 == some .lt) = false) (h2 : (FloatKind.f64.format.order X 4751297606875873280 == some .gt || FloatKind.f64.format.order X 4751297606875873280 == some .eq) = true)
    (h : Calls Tryz.prog 15 #[.float .f64 x, .int .i64 mode] w fun r w' => r = .returned (.tuple #[.float .f64 X, .int .i64 Y, .int .i64 0]) ∧ Below w.heap.size w w') :
    Calls Tryz.prog 20 #[.float .f64 x, .int .i64 32, .int .i64 mode] w fun r w' => r = .returned (.tuple #[.int .u64 4294967295, .int .i64 8, .int .i64 0]) ∧ Below w.heap.size w w' := by
  have H := hid (wholeOf_core x X 32 mode Y w (by decide) h)
  have HI := hid (fun (w : World) => isnan_any X w hX)
  have hnd : decide (9218868437227405312 < X % 9223372036854775808) = false := decide_eq_false (by omega)
  rw [hnd] at HI
  have hfl := most32_is
  have hfn := twice32
  clear h hX hn hnd
  go_enter Tryz.func20, Tryz.ntmps20
  go_wp2_with fail
  refine H.out.mono ?_
  rintro r w1 ⟨rfl, hb⟩
  go_wp2_with fail
  refine (HI.out _).mono ?_
  rintro r w2 ⟨rfl, rfl⟩
  go_wp2
  go_ret3
  exact ⟨rfl, hb⟩
set_option maxHeartbeats 400000 in
theorem Uint32_low (x X : Nat) (mode Y : Int) (w : World) (hX : X < 18446744073709551616) (hn : X % 9223372036854775808 ≤ 9218868437227405312)
    (h1 : (FloatKind.f64.format.order X 0 == some .lt) = true)
    (h : Calls Tryz.prog 15 #[.float .f64 x, .int .i64 mode] w fun r w' => r = .returned (.tuple #[.float .f64 X, .int .i64 Y, .int .i64 0]) ∧ Below w.heap.size w w') :
    Calls Tryz.prog 20 #[.float .f64 x, .int .i64 32, .int .i64 mode] w fun r w' => r = .returned (.tuple #[.int .u64 0, .int .i64 8, .int .i64 0]) ∧ Below w.heap.size w w' := by
  have H := hid (wholeOf_core x X 32 mode Y w (by decide) h)
  have HI := hid (fun (w : World) => isnan_any X w hX)
  have hnd : decide (9218868437227405312 < X % 9223372036854775808) = false := decide_eq_false (by omega)
  rw [hnd] at HI
  clear h hX hn hnd
  go_enter Tryz.func20, Tryz.ntmps20
  go_wp2_with fail
  refine H.out.mono ?_
  rintro r w1 ⟨rfl, hb⟩
  go_wp2_with fail
  refine (HI.out _).mono ?_
  rintro r w2 ⟨rfl, rfl⟩
  go_wp2
  go_ret3
  exact ⟨rfl, hb⟩
set_option maxHeartbeats 400000 in
theorem Int64_low (x X : Nat) (mode Y : Int) (w : World) (hX : X < 18446744073709551616) (hn : X % 9223372036854775808 ≤ 9218868437227405312)
    (h1 : (FloatKind.f64.format.order X 14114281232179134464 == some .lt) = true)
    (h : Calls Tryz.prog 15 #[.float .f64 x, .int .i64 mode] w fun r w' => r = .returned (.tuple #[.float .f64 X, .int .i64 Y, .int .i64 0]) ∧ Below w.heap.size w w') :
    Calls Tryz.prog 18 #[.float .f64 x, .int .i64 64, .int .i64 mode] w fun r w' => r = .returned (.tuple #[.int .i64 (-9223372036854775808), .int .i64 8, .int .i64 0]) ∧ Below w.heap.size w w' := by
  have H := hid (wholeOf_core x X 64 mode Y w (by decide) h)
  have HI := hid (fun (w : World) => isnan_any X w hX)
  have hnd : decide (9218868437227405312 < X % 9223372036854775808) = false := decide_eq_false (by omega)
  rw [hnd] at HI
  have hfl := least64_is
  have hfn := least64_neg
  clear h hX hn hnd
  go_enter Tryz.func18, Tryz.ntmps18
  go_wp2_with fail
  refine H.out.mono ?_
  rintro r w1 ⟨rfl, hb⟩
  go_wp2_with fail
  refine (HI.out _).mono ?_
  rintro r w2 ⟨rfl, rfl⟩
  go_wp2
  go_ret3
  exact ⟨rfl, hb⟩
set_option maxHeartbeats 400000 in
theorem Int64_nan (x X : Nat) (mode Y : Int) (w : World) (hX : X < 18446744073709551616) (hn : 9218868437227405312 < X % 9223372036854775808)
    (h : Calls Tryz.prog 15 #[.float .f64 x, .int .i64 mode] w fun r w' => r = .returned (.tuple #[.float .f64 X, .int .i64 Y, .int .i64 0]) ∧ Below w.heap.size w w') :
    Calls Tryz.prog 18 #[.float .f64 x, .int .i64 64, .int .i64 mode] w fun r w' => r = .returned (.tuple #[.int .i64 0, .int .i64 8, .int .i64 0]) ∧ Below w.heap.size w w' := by
  have H := hid (wholeOf_core x X 64 mode Y w (by decide) h)
  have HI := hid (fun (w : World) => isnan_any X w hX)
  have hnd : decide (9218868437227405312 < X % 9223372036854775808) = true := decide_eq_true hn
  rw [hnd] at HI
  have hfl := least64_is
  have hfn := least64_neg
  clear h hX hn hnd
  go_enter Tryz.func18, Tryz.ntmps18
  go_wp2_with fail
  refine H.out.mono ?_
  rintro r w1 ⟨rfl, hb⟩
  go_wp2_with fail
  refine (HI.out _).mono ?_
  rintro r w2 ⟨rfl, rfl⟩
  go_wp2
  go_ret3
  exact ⟨rfl, hb⟩
theorem most64_is : floatOfInt .f64 9223372036854775808 = 4890909195324358656 := by decide +kernel
theorem twice64 (w : World) : (binOp .mul 23 (.float .f64 4611686018427387904) (.float .f64 4890909195324358656)).run Tryz.prog w = .ok (.float .f64 4895412794951729152) w := run_float_arith w .mul _ .f64 _ _ _ (by decide +kernel)
set_option maxHeartbeats 400000 in
theorem Uint64_in (x X : Nat) (mode Y n : Int) (w : World) (hX : X < 18446744073709551616) (hn : X % 9223372036854775808 ≤ 9218868437227405312)
    (h1 : (FloatKind.f64.format.order X 0 == some .lt) = false) (h2 : (FloatKind.f64.format.order X 4895412794951729152 == some .gt || FloatKind.f64.format.order X 4895412794951729152 == some .eq) = false) (hc : floatToIntVal .f64 X .u64 = some n)
    (h : Calls Tryz.prog 15 #[.float .f64 x, .int .i64 mode] w fun r w' => r = .returned (.tuple #[.float .f64 X, .int .i64 Y, .int .i64 0]) ∧ Below w.heap.size w w') :
    Calls Tryz.prog 20 #[.float .f64 x, .int .i64 64, .int .i64 mode] w fun r w' => r = .returned (.tuple #[.int .u64 n, .int .i64 Y, .int .i64 0]) ∧ Below w.heap.size w w' := by
  have H := hid (wholeOf_core x X 64 mode Y w (by decide) h)
  have HI := hid (fun (w : World) => isnan_any X w hX)
  have hnd : decide (9218868437227405312 < X % 9223372036854775808) = false := decide_eq_false (by omega)
  rw [hnd] at HI
  have hfl := most64_is
  have hfn := twice64
  have hcr := touint_run X n hc
  clear h hX hn hnd hc
  go_enter Tryz.func20, Tryz.ntmps20
  go_wp2_with fail
  refine H.out.mono ?_
  rintro r w1 ⟨rfl, hb⟩
  go_wp2_with fail
  refine (HI.out _).mono ?_
  rintro r w2 ⟨rfl, rfl⟩
  go_wp2
  go_ret3
  exact ⟨rfl, hb⟩
set_option maxHeartbeats 400000 in
theorem Uint64_high (x X : Nat) (mode Y : Int) (w : World) (hX : X < 18446744073709551616) (hn : X % 9223372036854775808 ≤ 9218868437227405312)
    (h1 : (FloatKind.f64.format.order X 0 == some .lt) = false) (h2 : (FloatKind.f64.format.order X 4895412794951729152 == some .gt || FloatKind.f64.format.order X 4895412794951729152 == some .eq) = true)
    (h : Calls Tryz.prog 15 #[.float .f64 x, .int .i64 mode] w fun r w' => r = .returned (.tuple #[.float .f64 X, .int .i64 Y, .int .i64 0]) ∧ Below w.heap.size w w') :
    Calls Tryz.prog 20 #[.float .f64 x, .int .i64 64, .int .i64 mode] w fun r w' => r = .returned (.tuple #[.int .u64 18446744073709551615, .int .i64 8, .int .i64 0]) ∧ Below w.heap.size w w' := by
  have H := hid (wholeOf_core x X 64 mode Y w (by decide) h)
  have HI := hid (fun (w : World) => isnan_any X w hX)
  have hnd : decide (9218868437227405312 < X % 9223372036854775808) = false := decide_eq_false (by omega)
  rw [hnd] at HI
  have hfl := most64_is
  have hfn := twice64
  clear h hX hn hnd
  go_enter Tryz.func20, Tryz.ntmps20
  go_wp2_with fail
  refine H.out.mono ?_
  rintro r w1 ⟨rfl, hb⟩
  go_wp2_with fail
  refine (HI.out _).mono ?_
  rintro r w2 ⟨rfl, rfl⟩
  go_wp2
  go_ret3
  exact ⟨rfl, hb⟩
set_option maxHeartbeats 400000 in
theorem Uint64_low (x X : Nat) (mode Y : Int) (w : World) (hX : X < 18446744073709551616) (hn : X % 9223372036854775808 ≤ 9218868437227405312)
    (h1 : (FloatKind.f64.format.order X 0 == some .lt) = true)
    (h : Calls Tryz.prog 15 #[.float .f64 x, .int .i64 mode] w fun r w' => r = .returned (.tuple #[.float .f64 X, .int .i64 Y, .int .i64 0]) ∧ Below w.heap.size w w') :
    Calls Tryz.prog 20 #[.float .f64 x, .int .i64 64, .int .i64 mode] w fun r w' => r = .returned (.tuple #[.int .u64 0, .int .i64 8, .int .i64 0]) ∧ Below w.heap.size w w' := by
  have H := hid (wholeOf_core x X 64 mode Y w (by decide) h)
  have HI := hid (fun (w : World) => isnan_any X w hX)
  have hnd : decide (9218868437227405312 < X % 9223372036854775808) = false := decide_eq_false (by omega)
  rw [hnd] at HI
  clear h hX hn hnd
  go_enter Tryz.func20, Tryz.ntmps20
  go_wp2_with fail
  refine H.out.mono ?_
  rintro r w1 ⟨rfl, hb⟩
  go_wp2_with fail
  refine (HI.out _).mono ?_
  rintro r w2 ⟨rfl, rfl⟩
  go_wp2
  go_ret3
  exact ⟨rfl, hb⟩
end Go.Proofs.YtpgcelbgmpfliaaGreatDoor
