
/- math.Sqrt of 4 and of 0; interval's root at the chapter's first example. -/
import Derived.Test.YtdahhpimhmloiaaDoorP40
namespace Go.Proofs.YtdahhpimhmloiaaDoor
open Go.RowKit Go.IntWalk

theorem sqrt_run (x r : Nat) (h : FloatKind.f64.format.sqrt x = some r) (w : World) : (callFunc 76 #[.float .f64 x]).run Tryd.prog w = .ok (.value (.float .f64 r)) w := by
  rw [run_callFunc_extern Tryd.func76 (by kernel_rfl) (by kernel_rfl) (by kernel_rfl) (e := Extern.MathSqrt.sqrt) (by kernel_rfl)]
  have e : Extern.MathSqrt.sqrt #[.float .f64 x] = pure (.float .f64 r) := by
    show (match FloatKind.f64.format.sqrt x with
      | some r => pure (Value.float .f64 r)
      | none => do pure (Value.float .f64 (← choose (.nanBits .f64 x x)))) = _
    rw [h]
  rw [e]
  rfl
set_option maxHeartbeats 1000000 in
theorem Sqrt_at (x r : Nat) (w : World) (h : FloatKind.f64.format.sqrt x = some r) : Calls Tryd.prog 68 #[.float .f64 x] w fun z w' => z = .returned (.float .f64 r) ∧ w' = w := by
  have hq := sqrt_run x r h
  clear h
  go_enter Tryd.func68, Tryd.ntmps68
  go_wp2
  go_ret
  exact ⟨rfl, rfl⟩
set_option maxHeartbeats 1000000 in
theorem root_4 (w : World) (hT : Tab w) (hs : 1 < w.heap.size) : Calls Tryd.prog 57 #[.float .f64 4616189618054758400, .bool true] w fun r w' => r = .returned (.float .f64 4611686018427387904) ∧ Below w.heap.size w w' := by
  have HT := hid (And.intro hT hs)
  have o1 : (FloatKind.f64.format.order 4616189618054758400 4616189618054758400 == some .lt) = false := by decide +kernel
  clear hT hs
  go_enter Tryd.func57, Tryd.ntmps57
  go_wp2_with fail
  refine (Sqrt_at 4616189618054758400 4611686018427387904 _ (by decide +kernel)).mono ?_
  rintro r w1 ⟨rfl, rfl⟩
  go_wp2_with fail
  refine (product_2_2 _ _ HT.out.1 HT.out.2).mono ?_
  rintro r w1 ⟨rfl, hb⟩
  have HB := hid hb
  clear hb
  go_wp2_with fail
  refine (settled_up _ _ _ _ o1).mono ?_
  rintro r w2 ⟨rfl, rfl⟩
  go_wp2
  go_ret
  exact ⟨rfl, HB.out⟩
set_option maxHeartbeats 1000000 in
theorem root_0 (w : World) : Calls Tryd.prog 57 #[.float .f64 0, .bool false] w fun r w' => r = .returned (.float .f64 0) ∧ w' = w := by
  have o1 : (FloatKind.f64.format.order 0 0 == some .gt) = false := by decide +kernel
  go_enter Tryd.func57, Tryd.ntmps57
  go_wp2_with fail
  refine (Sqrt_at 0 0 _ (by decide +kernel)).mono ?_
  rintro r w1 ⟨rfl, rfl⟩
  go_wp2_with fail
  refine (product_0 _ _ _).mono ?_
  rintro r w1 ⟨rfl, rfl⟩
  go_wp2_with fail
  refine (settled_down _ _ _ _ o1).mono ?_
  rintro r w2 ⟨rfl, rfl⟩
  go_wp2
  go_ret
  exact ⟨rfl, rfl⟩
end Go.Proofs.YtdahhpimhmloiaaDoor
