
/- What eft's lay does with one number. -/
import Derived.Test.YthakhmnlpmfdgaaP6
import Derived.Test.YthakhmnlpmfdgaaP2
import Derived.WalkKit
namespace Go.Proofs.Ythakhmnlpmfdgaa
open Go.RowKit Go.IntWalk

theorem info_f : (Try.prog.info? 28).map (fun i => (i.zero, i.size, i.bytes)) = some (some (.float .f64 0), 1, 8) := by kernel_rfl
/-- The numbers that a slice made here owns. -/
def Owns (w : World) (base : Nat) (v : Value) (xs : List Nat) : Prop := w.ownsRow base 28 1 v xs.length (xs.map (Value.float .f64))
end Go.Proofs.Ythakhmnlpmfdgaa
