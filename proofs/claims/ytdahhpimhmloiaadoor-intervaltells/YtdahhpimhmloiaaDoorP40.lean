
/- interval's settled where nothing is to be mended; quotient at the chapter's first example. -/
import Derived.Test.YtdahhpimhmloiaaDoorP39
namespace Go.Proofs.YtdahhpimhmloiaaDoor
open Go.RowKit Go.IntWalk

set_option maxHeartbeats 1000000 in
theorem settled_up (near back given : Nat) (w : World) (h : (FloatKind.f64.format.order back given == some .lt) = false) : Calls Tryd.prog 65 #[.float .f64 near, .float .f64 back, .float .f64 given, .bool true] w fun r w' => r = .returned (.float .f64 near) ∧ w' = w := by
  go_enter Tryd.func65, Tryd.ntmps65
  go_wp2
  go_ret
  exact ⟨rfl, rfl⟩
set_option maxHeartbeats 1000000 in
theorem settled_down (near back given : Nat) (w : World) (h : (FloatKind.f64.format.order back given == some .gt) = false) : Calls Tryd.prog 65 #[.float .f64 near, .float .f64 back, .float .f64 given, .bool false] w fun r w' => r = .returned (.float .f64 near) ∧ w' = w := by
  go_enter Tryd.func65, Tryd.ntmps65
  go_wp2
  go_ret
  exact ⟨rfl, rfl⟩
set_option maxHeartbeats 1000000 in
theorem quotient_1 (w : World) (hT : Tab w) (hs : 1 < w.heap.size) : Calls Tryd.prog 67 #[.float .f64 4607182418800017408, .float .f64 4607182418800017408, .bool false] w fun r w' => r = .returned (.float .f64 4607182418800017408) ∧ Below w.heap.size w w' := by
  have HT := hid (And.intro hT hs)
  have hq : ∀ W : World, (binOp .quo 26 (.float .f64 4607182418800017408) (.float .f64 4607182418800017408)).run Tryd.prog W = .ok (.float .f64 4607182418800017408) W := fun W => run_float_arith W .quo _ .f64 _ _ _ (by decide +kernel)
  have o1 : (FloatKind.f64.format.order 4607182418800017408 4607182418800017408 == some .gt) = false := by decide +kernel
  clear hT hs
  go_enter Tryd.func67, Tryd.ntmps67
  go_wp2_with fail
  refine (product_1_1 _ _ HT.out.1 HT.out.2).mono ?_
  rintro r w1 ⟨rfl, hb⟩
  have HB := hid hb
  clear hb
  go_wp2_with fail
  refine (settled_down _ _ _ _ o1).mono ?_
  rintro r w2 ⟨rfl, rfl⟩
  go_wp2
  go_ret
  exact ⟨rfl, HB.out⟩
end Go.Proofs.YtdahhpimhmloiaaDoor
