/-
  No cell of these rows narrows 'for every input' (looked for: loops, veiled, ifaces, maps, wideKeys, modest, calm, conditions, laid).
  DERIVED. THE GIVEN ROWS OF THIS SEAT. 3 by the template 'for every input the law returns true; each argument reads behind the call as it read before'; 0 by the template 'total and deterministic' (their statements: YtfdphegiafccpabTotals.lean).
  GIVEN WITH THE SEED: the statements are not yours to turn. If you find one false, say at which input.
  Laid BY PROGRAM, IN A SANDBOX (cutbox-rows.mjs): the forced cells as the released guide's own fill.sh prints them over the translation 6b02325beadeb225… (all of the seat's roots in one cut). By AI agents, Wed Nov 11 2026. No macro, syntax, notation, axiom, sorry.
-/
import Derived.Test.YtfdphegiafccpabChecked
import GoSem.Claim
import GoSem.ClaimJoined
import GoSem.ClaimMapViews
import Derived.JoinedTies
import Derived.KernelRfl
namespace Go.Proofs.Ytfdphegiafccpab
/- THE CELL 'sum', in the pinned program and in every row, IS THE sha256 OF THE DUMP (.gsa) THAT YtfdphegiafccpabProg.lean LOADS. Nothing in Lean hashes anything: it is a label: what it is worth is what the hold of that sum in a sandbox is worth. -/
noncomputable def Try.pinned : Pinned := { name := "ytfdphegiafccpab", sum := "6b02325beadeb225e0a0bfe45c5312fdbb81117ab8ba0a298c9e6e66d563d22a", checked := Try.checked }
namespace Rows
def none {H : Type} : Left H := { results := [], args := [] }

/-- 'binnaclelaw13.ClockWraps': WHATEVER THE INPUT: true; the input reads as it did. -/
def clockWrapsSpec : ChangeSpec := { name := "clockWraps", fn := fun _ => fun
  | [d1, d2] => { results := [.lit (.bool true)], args := [d1, d2] }
  | _ => none }
def clockWrapsRow : OpenClaim := { program := "ytfdphegiafccpab", sum := "6b02325beadeb225e0a0bfe45c5312fdbb81117ab8ba0a298c9e6e66d563d22a", func := "binnacle/binnaclelaw13.ClockWraps", spec := "clockWraps", named := ["math/bits.divideError", "math/bits.overflowError"], apart := false }
def ClockWrapsSaid : Prop := clockWrapsRow.holds Try.pinned (OpenSpec.ofChange clockWrapsSpec)

/-- ITS FALSE NEIGHBOUR: 'it returns false'. Refute it at one input. -/
def clockWrapsWrong : ChangeSpec := { name := "clockWraps", fn := fun _ => fun
  | [d1, d2] => { results := [.lit (.bool false)], args := [d1, d2] }
  | _ => none }
def ClockWrapsWrongFalsely : Prop := clockWrapsRow.holds Try.pinned (OpenSpec.ofChange clockWrapsWrong)

/-- 'binnaclelaw13.ClockThrough': WHATEVER THE INPUT: true; the input reads as it did. -/
def clockThroughSpec : ChangeSpec := { name := "clockThrough", fn := fun _ => fun
  | [d1, d2, d3] => { results := [.lit (.bool true)], args := [d1, d2, d3] }
  | _ => none }
def clockThroughRow : OpenClaim := { program := "ytfdphegiafccpab", sum := "6b02325beadeb225e0a0bfe45c5312fdbb81117ab8ba0a298c9e6e66d563d22a", func := "binnacle/binnaclelaw13.ClockThrough", spec := "clockThrough", named := ["math/bits.divideError", "math/bits.overflowError"], apart := false }
def ClockThroughSaid : Prop := clockThroughRow.holds Try.pinned (OpenSpec.ofChange clockThroughSpec)

/-- ITS FALSE NEIGHBOUR: 'it returns false'. Refute it at one input. -/
def clockThroughWrong : ChangeSpec := { name := "clockThrough", fn := fun _ => fun
  | [d1, d2, d3] => { results := [.lit (.bool false)], args := [d1, d2, d3] }
  | _ => none }
def ClockThroughWrongFalsely : Prop := clockThroughRow.holds Try.pinned (OpenSpec.ofChange clockThroughWrong)

/-- 'binnaclelaw13.ClockThen': WHATEVER THE INPUT: true; the input reads as it did. -/
def clockThenSpec : ChangeSpec := { name := "clockThen", fn := fun _ => fun
  | [d1, d2, d3] => { results := [.lit (.bool true)], args := [d1, d2, d3] }
  | _ => none }
def clockThenRow : OpenClaim := { program := "ytfdphegiafccpab", sum := "6b02325beadeb225e0a0bfe45c5312fdbb81117ab8ba0a298c9e6e66d563d22a", func := "binnacle/binnaclelaw13.ClockThen", spec := "clockThen", named := ["math/bits.divideError", "math/bits.overflowError"], apart := false }
def ClockThenSaid : Prop := clockThenRow.holds Try.pinned (OpenSpec.ofChange clockThenSpec)

/-- ITS FALSE NEIGHBOUR: 'it returns false'. Refute it at one input. -/
def clockThenWrong : ChangeSpec := { name := "clockThen", fn := fun _ => fun
  | [d1, d2, d3] => { results := [.lit (.bool false)], args := [d1, d2, d3] }
  | _ => none }
def ClockThenWrongFalsely : Prop := clockThenRow.holds Try.pinned (OpenSpec.ofChange clockThenWrong)

/- THE SECOND FORM. 'bulk': how many values and letters a reading holds, each counted each time it is reached (what is shared counts as often as it is met; a slice's spare places count too). A statement '..UptoSaid' is the law's where the arguments, and the package variables that the reading takes, are together of bulk at most 1048576: NARROWER than '..Said'. Prove '..Said' where nothing that the law and all that it calls make is longer than what came in: it says more and counts as full. Else prove '..UptoSaid'. A law counts once. -/
mutual
def uptoBulk {H : Type} : DataW H → Nat
  | .lit (.string bytes) => bytes.length + 1
  | .lit _ => 1
  | .nil => 1
  | .ptr d => uptoBulk d + 1
  | .slice elems spare => uptoBulkAll elems + uptoBulkAll spare + 1
  | .agg parts => uptoBulkAll parts + 1
  | .iface _ d => uptoBulk d + 1
  | .map entries => uptoBulkEntries entries + 1
  | .held _ => 1
def uptoBulkAll {H : Type} : List (DataW H) → Nat
  | [] => 0
  | d :: r => uptoBulk d + uptoBulkAll r
def uptoBulkEntries {H : Type} : List (Lit × DataW H) → Nat
  | [] => 0
  | x :: r => uptoBulkEntry x + uptoBulkEntries r
def uptoBulkEntry {H : Type} : Lit × DataW H → Nat
  | (.string bytes, d) => bytes.length + uptoBulk d + 1
  | (_, d) => uptoBulk d + 1
 end
def uptoSmall : (H : Type) → List (DataW H) → Bool := fun _ ds => decide (uptoBulkAll ds ≤ 1048576)
def OpenSpec.upto (s : _root_.Go.ChangeSpec) : _root_.Go.OpenSpec := { _root_.Go.OpenSpec.ofChange s with cond := some uptoSmall }

/-- 'binnaclelaw13.ClockWraps', WHERE WHAT IT READS IS OF BULK AT MOST 1048576: true; the input reads as it did. -/
def clockWrapsUptoRow : OpenClaim := { program := "ytfdphegiafccpab", sum := "6b02325beadeb225e0a0bfe45c5312fdbb81117ab8ba0a298c9e6e66d563d22a", func := "binnacle/binnaclelaw13.ClockWraps", spec := "clockWraps", named := ["math/bits.divideError", "math/bits.overflowError"], apart := false, narrowed := true }
def ClockWrapsUptoSaid : Prop := clockWrapsUptoRow.holds Try.pinned (OpenSpec.upto clockWrapsSpec)

/-- 'binnaclelaw13.ClockThrough', WHERE WHAT IT READS IS OF BULK AT MOST 1048576: true; the input reads as it did. -/
def clockThroughUptoRow : OpenClaim := { program := "ytfdphegiafccpab", sum := "6b02325beadeb225e0a0bfe45c5312fdbb81117ab8ba0a298c9e6e66d563d22a", func := "binnacle/binnaclelaw13.ClockThrough", spec := "clockThrough", named := ["math/bits.divideError", "math/bits.overflowError"], apart := false, narrowed := true }
def ClockThroughUptoSaid : Prop := clockThroughUptoRow.holds Try.pinned (OpenSpec.upto clockThroughSpec)

/-- 'binnaclelaw13.ClockThen', WHERE WHAT IT READS IS OF BULK AT MOST 1048576: true; the input reads as it did. -/
def clockThenUptoRow : OpenClaim := { program := "ytfdphegiafccpab", sum := "6b02325beadeb225e0a0bfe45c5312fdbb81117ab8ba0a298c9e6e66d563d22a", func := "binnacle/binnaclelaw13.ClockThen", spec := "clockThen", named := ["math/bits.divideError", "math/bits.overflowError"], apart := false, narrowed := true }
def ClockThenUptoSaid : Prop := clockThenUptoRow.holds Try.pinned (OpenSpec.upto clockThenSpec)

end Rows
end Go.Proofs.Ytfdphegiafccpab
