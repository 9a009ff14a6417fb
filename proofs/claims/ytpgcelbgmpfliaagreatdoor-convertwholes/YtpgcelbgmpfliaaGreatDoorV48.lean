
/- What convert's Uint gives of a NaN; Whole of a NaN and of a bad mode. -/
import Derived.Test.YtpgcelbgmpfliaaGreatDoorV42
namespace Go.Proofs.YtpgcelbgmpfliaaGreatDoor
open Go.RowKit Go.IntWalk

theorem Whole_nan (x : Nat) (mode : Int) (w : World) (hx : x < 18446744073709551616) (hn : 9218868437227405312 < x % 9223372036854775808) (hm1 : 0 ≤ mode) (hm2 : mode ≤ 4) (hT : Tab w) (hs : 1 < w.heap.size) :
    Calls Tryz.prog 15 #[.float .f64 x, .int .i64 mode] w fun r w' => r = .returned (.tuple #[.float .f64 9221120237041090561, .int .i64 0, .int .i64 0]) ∧ Below w.heap.size w w' := by
  have hc : canonOf x = 9221120237041090561 := by unfold canonOf; rw [if_pos hn]
  have := Whole_plain x mode w hx hm1 hm2 (Or.inl (exp_inf x (Nat.le_of_lt hn))) hT hs
  rw [hc] at this
  exact this
set_option maxHeartbeats 400000 in
theorem Whole_bad (x : Nat) (mode : Int) (w : World) (hm : ¬ (0 ≤ mode ∧ mode ≤ 4)) :
    Calls Tryz.prog 15 #[.float .f64 x, .int .i64 mode] w fun r w' => r = .returned (.tuple #[.float .f64 0, .int .i64 0, .int .i64 20]) ∧ Below w.heap.size w w' := by
  have hk : decide (0 ≤ mode ∧ mode ≤ 4) = false := decide_eq_false hm
  clear hm
  go_enter Tryz.func15, Tryz.ntmps15
  go_wp2_with fail
  refine (known_any mode _).mono ?_
  rintro e w1 ⟨rfl, rfl⟩
  rw [hk]
  clear hk
  go_wp2
  go_ret3
  exact ⟨rfl, Below.refl _ _⟩
set_option maxHeartbeats 400000 in
theorem Uint8_nan (x X : Nat) (mode Y : Int) (w : World) (hX : X < 18446744073709551616) (hn : 9218868437227405312 < X % 9223372036854775808)
    (h : Calls Tryz.prog 15 #[.float .f64 x, .int .i64 mode] w fun r w' => r = .returned (.tuple #[.float .f64 X, .int .i64 Y, .int .i64 0]) ∧ Below w.heap.size w w') :
    Calls Tryz.prog 20 #[.float .f64 x, .int .i64 8, .int .i64 mode] w fun r w' => r = .returned (.tuple #[.int .u64 0, .int .i64 8, .int .i64 0]) ∧ Below w.heap.size w w' := by
  have H := hid (wholeOf_core x X 8 mode Y w (by decide) h)
  have HI := hid (fun (w : World) => isnan_any X w hX)
  have hnd : decide (9218868437227405312 < X % 9223372036854775808) = true := decide_eq_true hn
  rw [hnd] at HI
  have hfl := least8_is
  have hfn := least8_neg
  clear h hX hn hnd
  go_enter Tryz.func20, Tryz.ntmps20
  go_wp2_with fail
  refine H.out.mono ?_
  rintro r w1 ⟨rfl, hb⟩
  go_wp2_with fail
  refine (HI.out _).mono ?_
  rintro r w2 ⟨rfl, rfl⟩
  go_wp2
  go_ret3
  exact ⟨rfl, hb⟩
set_option maxHeartbeats 400000 in
theorem Uint16_nan (x X : Nat) (mode Y : Int) (w : World) (hX : X < 18446744073709551616) (hn : 9218868437227405312 < X % 9223372036854775808)
    (h : Calls Tryz.prog 15 #[.float .f64 x, .int .i64 mode] w fun r w' => r = .returned (.tuple #[.float .f64 X, .int .i64 Y, .int .i64 0]) ∧ Below w.heap.size w w') :
    Calls Tryz.prog 20 #[.float .f64 x, .int .i64 16, .int .i64 mode] w fun r w' => r = .returned (.tuple #[.int .u64 0, .int .i64 8, .int .i64 0]) ∧ Below w.heap.size w w' := by
  have H := hid (wholeOf_core x X 16 mode Y w (by decide) h)
  have HI := hid (fun (w : World) => isnan_any X w hX)
  have hnd : decide (9218868437227405312 < X % 9223372036854775808) = true := decide_eq_true hn
  rw [hnd] at HI
  have hfl := least16_is
  have hfn := least16_neg
  clear h hX hn hnd
  go_enter Tryz.func20, Tryz.ntmps20
  go_wp2_with fail
  refine H.out.mono ?_
  rintro r w1 ⟨rfl, hb⟩
  go_wp2_with fail
  refine (HI.out _).mono ?_
  rintro r w2 ⟨rfl, rfl⟩
  go_wp2
  go_ret3
  exact ⟨rfl, hb⟩
set_option maxHeartbeats 400000 in
theorem Uint32_nan (x X : Nat) (mode Y : Int) (w : World) (hX : X < 18446744073709551616) (hn : 9218868437227405312 < X % 9223372036854775808)
    (h : Calls Tryz.prog 15 #[.float .f64 x, .int .i64 mode] w fun r w' => r = .returned (.tuple #[.float .f64 X, .int .i64 Y, .int .i64 0]) ∧ Below w.heap.size w w') :
    Calls Tryz.prog 20 #[.float .f64 x, .int .i64 32, .int .i64 mode] w fun r w' => r = .returned (.tuple #[.int .u64 0, .int .i64 8, .int .i64 0]) ∧ Below w.heap.size w w' := by
  have H := hid (wholeOf_core x X 32 mode Y w (by decide) h)
  have HI := hid (fun (w : World) => isnan_any X w hX)
  have hnd : decide (9218868437227405312 < X % 9223372036854775808) = true := decide_eq_true hn
  rw [hnd] at HI
  have hfl := least32_is
  have hfn := least32_neg
  clear h hX hn hnd
  go_enter Tryz.func20, Tryz.ntmps20
  go_wp2_with fail
  refine H.out.mono ?_
  rintro r w1 ⟨rfl, hb⟩
  go_wp2_with fail
  refine (HI.out _).mono ?_
  rintro r w2 ⟨rfl, rfl⟩
  go_wp2
  go_ret3
  exact ⟨rfl, hb⟩
set_option maxHeartbeats 400000 in
theorem Uint64_nan (x X : Nat) (mode Y : Int) (w : World) (hX : X < 18446744073709551616) (hn : 9218868437227405312 < X % 9223372036854775808)
    (h : Calls Tryz.prog 15 #[.float .f64 x, .int .i64 mode] w fun r w' => r = .returned (.tuple #[.float .f64 X, .int .i64 Y, .int .i64 0]) ∧ Below w.heap.size w w') :
    Calls Tryz.prog 20 #[.float .f64 x, .int .i64 64, .int .i64 mode] w fun r w' => r = .returned (.tuple #[.int .u64 0, .int .i64 8, .int .i64 0]) ∧ Below w.heap.size w w' := by
  have H := hid (wholeOf_core x X 64 mode Y w (by decide) h)
  have HI := hid (fun (w : World) => isnan_any X w hX)
  have hnd : decide (9218868437227405312 < X % 9223372036854775808) = true := decide_eq_true hn
  rw [hnd] at HI
  have hfl := least64_is
  have hfn := least64_neg
  clear h hX hn hnd
  go_enter Tryz.func20, Tryz.ntmps20
  go_wp2_with fail
  refine H.out.mono ?_
  rintro r w1 ⟨rfl, hb⟩
  go_wp2_with fail
  refine (HI.out _).mono ?_
  rintro r w2 ⟨rfl, rfl⟩
  go_wp2
  go_ret3
  exact ⟨rfl, hb⟩
end Go.Proofs.YtpgcelbgmpfliaaGreatDoor
