
/- What eft's Two, Split and Prod do where each step has an answer; Canon. -/
import Derived.Test.YtfkpdjieiifldabP9
import Derived.Test.YtfkpdjieiifldabP14
namespace Go.Proofs.Ytfkpdjieiifldab
open Go.RowKit Go.IntWalk

theorem f_add {x y z : Nat} (h : FloatKind.f64.format.add x y = some z) (w : World) : (binOp .add 36 (.float .f64 x) (.float .f64 y)).run Try.prog w = .ok (.float .f64 z) w := run_float_arith w .add _ .f64 x y z h
theorem f_sub {x y z : Nat} (h : FloatKind.f64.format.sub x y = some z) (w : World) : (binOp .sub 36 (.float .f64 x) (.float .f64 y)).run Try.prog w = .ok (.float .f64 z) w := run_float_arith w .sub _ .f64 x y z h
theorem f_mul {x y z : Nat} (h : FloatKind.f64.format.mul x y = some z) (w : World) : (binOp .mul 36 (.float .f64 x) (.float .f64 y)).run Try.prog w = .ok (.float .f64 z) w := run_float_arith w .mul _ .f64 x y z h
end Go.Proofs.Ytfkpdjieiifldab

namespace Go.Proofs.Ytfkpdjieiifldab
open Go.RowKit Go.IntWalk

theorem o1 : (FloatKind.f64.format.order 4607182418800017408 0 == some .eq) = false ∧ (FloatKind.f64.format.order 4607182418800017408 4607182418800017408 != some .eq) = false ∧ (FloatKind.f64.format.order 4607182418800017408 9218868437227405311 == some .gt) = false ∧ (FloatKind.f64.format.order 4607182418800017408 4503599627370496 == some .lt) = false := by decide +kernel
theorem f64fromI3 (n : Int) (w : World) : (callFunc 96 #[.int .u64 n]).run Try.prog w = .ok (.value (.float .f64 n.toNat)) w := by
  rw [run_callFunc_extern Try.func96 (by kernel_rfl) (by kernel_rfl) (by kernel_rfl) (e := Extern.MathFloatBits.float64frombits) (by kernel_rfl)]; rfl
theorem bt1 : bits .andNot .u64 4607182418800017408 9223372036854775808 = 4607182418800017408 ∧ bits .and .i64 1023 2047 = 1023 ∧ bits .andNot .u64 4607182418800017408 9218868437227405312 = 0 ∧ bits .or .u64 0 4877398396442247168 = 4877398396442247168 := by decide +kernel
set_option maxHeartbeats 1000000 in
theorem abs_one (w : World) : Calls Try.prog 136 #[.float .f64 4607182418800017408] w fun r w' => r = .returned (.float .f64 4607182418800017408) ∧ w' = w := by
  have h1 := f64bits
  have h2 := f64fromI3
  obtain ⟨b1, _⟩ := bt1
  go_enter Try.func136, Try.ntmps136
  go_wp2
  go_ret
  exact ⟨rfl, rfl⟩
set_option maxHeartbeats 1000000 in
theorem ldexp_60 (w : World) : Calls Try.prog 95 #[.float .f64 4607182418800017408, .int .i64 60] w fun r w' => r = .returned (.float .f64 4877398396442247168) ∧ w' = w := by
  obtain ⟨g1, g2, g3, g4⟩ := o1
  obtain ⟨b1, b2, b3, b4⟩ := bt1
  have h1 := f64bits
  have h2 := f64fromI3
  have hm := f_mul (x := 4607182418800017408) (y := 4877398396442247168) (z := 4877398396442247168) (by decide +kernel)
  have c0 : wrap64 0 = 0 := by decide +kernel
  have c1 : wrap64 60 = 60 := by decide +kernel
  go_enter Try.func95, Try.ntmps95
  go_wp2
  go_ret
  exact ⟨rfl, rfl⟩
set_option maxHeartbeats 1000000 in
theorem Ldexp_60 (w : World) : Calls Try.prog 39 #[.float .f64 4607182418800017408, .int .i64 60] w fun r w' => r = .returned (.float .f64 4877398396442247168) ∧ w' = w := by
  go_enter Try.func39, Try.ntmps39
  go_wp2_with fail
  refine (ldexp_60 _).mono ?_
  rintro r w1 ⟨rfl, rfl⟩
  go_wp2
  go_ret
  exact ⟨rfl, rfl⟩
end Go.Proofs.Ytfkpdjieiifldab
