
/- What the law's own f and g do: the number, the single of bits. -/
import Derived.Test.YtdhifmkfdpbpcaaDoorCvBase
namespace Go.Proofs.YtdhifmkfdpbpcaaDoor
open Go.RowKit Go.IntWalk

set_option maxHeartbeats 400000 in
theorem f02_any (x : Nat) (w : World) :
    Calls Tryd.prog 9 #[.int .u64 x] w fun e w' => e = .returned (.float .f64 x) ∧ w' = w := by
  have h2 := f64from
  go_enter Tryd.func9, Tryd.ntmps9
  go_wp2
  go_ret
  exact ⟨rfl, rfl⟩
set_option maxHeartbeats 400000 in
theorem g02_any (x : Nat) (w : World) :
    Calls Tryd.prog 12 #[.int .u32 x] w fun e w' => e = .returned (.float .f32 x) ∧ w' = w := by
  have h2 := f64from32
  go_enter Tryd.func12, Tryd.ntmps12
  go_wp2
  go_ret
  exact ⟨rfl, rfl⟩
end Go.Proofs.YtdhifmkfdpbpcaaDoor
