
/- What eft's Two, Split and Prod do where each step has an answer; Canon. -/
import Derived.Test.YtfkpdjieiifldabP8
import Derived.Test.YtfkpdjieiifldabP14
namespace Go.Proofs.Ytfkpdjieiifldab
open Go.RowKit Go.IntWalk

theorem f_add {x y z : Nat} (h : FloatKind.f64.format.add x y = some z) (w : World) : (binOp .add 36 (.float .f64 x) (.float .f64 y)).run Try.prog w = .ok (.float .f64 z) w := run_float_arith w .add _ .f64 x y z h
theorem f_sub {x y z : Nat} (h : FloatKind.f64.format.sub x y = some z) (w : World) : (binOp .sub 36 (.float .f64 x) (.float .f64 y)).run Try.prog w = .ok (.float .f64 z) w := run_float_arith w .sub _ .f64 x y z h
theorem f_mul {x y z : Nat} (h : FloatKind.f64.format.mul x y = some z) (w : World) : (binOp .mul 36 (.float .f64 x) (.float .f64 y)).run Try.prog w = .ok (.float .f64 z) w := run_float_arith w .mul _ .f64 x y z h
end Go.Proofs.Ytfkpdjieiifldab
