/-
  No cell of these rows narrows 'for every input' (looked for: loops, veiled, ifaces, maps, wideKeys, modest, calm, conditions, laid).
  DERIVED. THE GIVEN ROWS OF THIS SEAT. 2 by the template 'for every input the law returns true; each argument reads behind the call as it read before'; 0 by the template 'total and deterministic' (their statements: YthakhmnlpmfdgaaTotals.lean).
  GIVEN WITH THE SEED: the statements are not yours to turn. If you find one false, say at which input.
  Laid BY PROGRAM, IN A SANDBOX (cutbox-rows.mjs): the forced cells as the released guide's own fill.sh prints them over the translation f1dbca8423aeac2e… (all of the seat's roots in one cut). By AI agents, Wed Nov 11 2026. No macro, syntax, notation, axiom, sorry.
-/
import Derived.Test.YthakhmnlpmfdgaaChecked
import GoSem.Claim
import GoSem.ClaimJoined
import GoSem.ClaimMapViews
import Derived.JoinedTies
import Derived.KernelRfl
namespace Go.Proofs.Ythakhmnlpmfdgaa
/- THE CELL 'sum', in the pinned program and in every row, IS THE sha256 OF THE DUMP (.gsa) THAT YthakhmnlpmfdgaaProg.lean LOADS. Nothing in Lean hashes anything: it is a label: what it is worth is what the hold of that sum in a sandbox is worth. -/
noncomputable def Try.pinned : Pinned := { name := "ythakhmnlpmfdgaa", sum := "f1dbca8423aeac2e7424660264c37463a7f53f836a6ddf6765425ccf256fe806", checked := Try.checked }
namespace Rows
def none {H : Type} : Left H := { results := [], args := [] }

/-- 'binnaclelaw16.RootUpdates': WHATEVER THE INPUT: true; the input reads as it did. -/
def rootUpdatesSpec : ChangeSpec := { name := "rootUpdates", fn := fun _ => fun
  | [d1, d2, d3] => { results := [.lit (.bool true)], args := [d1, d2, d3] }
  | _ => none }
def rootUpdatesRow : OpenClaim := { program := "ythakhmnlpmfdgaa", sum := "f1dbca8423aeac2e7424660264c37463a7f53f836a6ddf6765425ccf256fe806", func := "binnacle/binnaclelaw16.RootUpdates", spec := "rootUpdates", inPlace := ["math.Float64frombits", "math.Float64bits", "math.sqrt"], unfollowed := true, recurses := true, apart := false }
def RootUpdatesSaid : Prop := rootUpdatesRow.holds Try.pinned (OpenSpec.ofChange rootUpdatesSpec)

/-- ITS FALSE NEIGHBOUR: 'it returns false'. Refute it at one input. -/
def rootUpdatesWrong : ChangeSpec := { name := "rootUpdates", fn := fun _ => fun
  | [d1, d2, d3] => { results := [.lit (.bool false)], args := [d1, d2, d3] }
  | _ => none }
def RootUpdatesWrongFalsely : Prop := rootUpdatesRow.holds Try.pinned (OpenSpec.ofChange rootUpdatesWrong)

/-- 'binnaclelaw16.RootByRow': WHATEVER THE INPUT: true; the input reads as it did. -/
def rootByRowSpec : ChangeSpec := { name := "rootByRow", fn := fun _ => fun
  | [d1, d2, d3, d4] => { results := [.lit (.bool true)], args := [d1, d2, d3, d4] }
  | _ => none }
def rootByRowRow : OpenClaim := { program := "ythakhmnlpmfdgaa", sum := "f1dbca8423aeac2e7424660264c37463a7f53f836a6ddf6765425ccf256fe806", func := "binnacle/binnaclelaw16.RootByRow", spec := "rootByRow", inPlace := ["math.Float64bits", "math.Float64frombits", "math.sqrt"], unfollowed := true, recurses := true, apart := false }
def RootByRowSaid : Prop := rootByRowRow.holds Try.pinned (OpenSpec.ofChange rootByRowSpec)

/-- ITS FALSE NEIGHBOUR: 'it returns false'. Refute it at one input. -/
def rootByRowWrong : ChangeSpec := { name := "rootByRow", fn := fun _ => fun
  | [d1, d2, d3, d4] => { results := [.lit (.bool false)], args := [d1, d2, d3, d4] }
  | _ => none }
def RootByRowWrongFalsely : Prop := rootByRowRow.holds Try.pinned (OpenSpec.ofChange rootByRowWrong)

/- THE SECOND FORM. 'bulk': how many values and letters a reading holds, each counted each time it is reached (what is shared counts as often as it is met; a slice's spare places count too). A statement '..UptoSaid' is the law's where the arguments, and the package variables that the reading takes, are together of bulk at most 1048576: NARROWER than '..Said'. Prove '..Said' where nothing that the law and all that it calls make is longer than what came in: it says more and counts as full. Else prove '..UptoSaid'. A law counts once. -/
mutual
def uptoBulk {H : Type} : DataW H → Nat
  | .lit (.string bytes) => bytes.length + 1
  | .lit _ => 1
  | .nil => 1
  | .ptr d => uptoBulk d + 1
  | .slice elems spare => uptoBulkAll elems + uptoBulkAll spare + 1
  | .agg parts => uptoBulkAll parts + 1
  | .iface _ d => uptoBulk d + 1
  | .map entries => uptoBulkEntries entries + 1
  | .held _ => 1
def uptoBulkAll {H : Type} : List (DataW H) → Nat
  | [] => 0
  | d :: r => uptoBulk d + uptoBulkAll r
def uptoBulkEntries {H : Type} : List (Lit × DataW H) → Nat
  | [] => 0
  | x :: r => uptoBulkEntry x + uptoBulkEntries r
def uptoBulkEntry {H : Type} : Lit × DataW H → Nat
  | (.string bytes, d) => bytes.length + uptoBulk d + 1
  | (_, d) => uptoBulk d + 1
 end
def uptoSmall : (H : Type) → List (DataW H) → Bool := fun _ ds => decide (uptoBulkAll ds ≤ 1048576)
def OpenSpec.upto (s : _root_.Go.ChangeSpec) : _root_.Go.OpenSpec := { _root_.Go.OpenSpec.ofChange s with cond := some uptoSmall }

/-- 'binnaclelaw16.RootUpdates', WHERE WHAT IT READS IS OF BULK AT MOST 1048576: true; the input reads as it did. -/
def rootUpdatesUptoRow : OpenClaim := { program := "ythakhmnlpmfdgaa", sum := "f1dbca8423aeac2e7424660264c37463a7f53f836a6ddf6765425ccf256fe806", func := "binnacle/binnaclelaw16.RootUpdates", spec := "rootUpdates", inPlace := ["math.Float64frombits", "math.Float64bits", "math.sqrt"], unfollowed := true, recurses := true, apart := false, narrowed := true }
def RootUpdatesUptoSaid : Prop := rootUpdatesUptoRow.holds Try.pinned (OpenSpec.upto rootUpdatesSpec)

/-- 'binnaclelaw16.RootByRow', WHERE WHAT IT READS IS OF BULK AT MOST 1048576: true; the input reads as it did. -/
def rootByRowUptoRow : OpenClaim := { program := "ythakhmnlpmfdgaa", sum := "f1dbca8423aeac2e7424660264c37463a7f53f836a6ddf6765425ccf256fe806", func := "binnacle/binnaclelaw16.RootByRow", spec := "rootByRow", inPlace := ["math.Float64bits", "math.Float64frombits", "math.sqrt"], unfollowed := true, recurses := true, apart := false, narrowed := true }
def RootByRowUptoSaid : Prop := rootByRowUptoRow.holds Try.pinned (OpenSpec.upto rootByRowSpec)

end Rows
end Go.Proofs.Ythakhmnlpmfdgaa
