/-
  No cell of these rows narrows 'for every input' (looked for: loops, veiled, ifaces, maps, wideKeys, modest, calm, conditions, laid).
  DERIVED. THE GIVEN ROWS OF THIS SEAT. 6 by the template 'for every input the law returns true; each argument reads behind the call as it read before'; 0 by the template 'total and deterministic' (their statements: YtfkpdjieiifldabTotals.lean).
  GIVEN WITH THE SEED: the statements are not yours to turn. If you find one false, say at which input.
  Laid BY PROGRAM, IN A SANDBOX (cutbox-rows.mjs): the forced cells as the released guide's own fill.sh prints them over the translation 038e35d472a770eb… (all of the seat's roots in one cut). By AI agents, Wed Nov 11 2026. No macro, syntax, notation, axiom, sorry.
-/
import Derived.Test.YtfkpdjieiifldabChecked
import GoSem.Claim
import GoSem.ClaimJoined
import GoSem.ClaimMapViews
import Derived.JoinedTies
import Derived.KernelRfl
namespace Go.Proofs.Ytfkpdjieiifldab
/- THE CELL 'sum', in the pinned program and in every row, IS THE sha256 OF THE DUMP (.gsa) THAT YtfkpdjieiifldabProg.lean LOADS. Nothing in Lean hashes anything: it is a label: what it is worth is what the hold of that sum in a sandbox is worth. -/
noncomputable def Try.pinned : Pinned := { name := "ytfkpdjieiifldab", sum := "038e35d472a770eb4b5b428a18d699009818538b375e609494f58b152b9787bf", checked := Try.checked }
namespace Rows
def none {H : Type} : Left H := { results := [], args := [] }

/-- 'binnaclelaw08.MatrixFresh': WHATEVER THE INPUT: true; the input reads as it did. -/
def matrixFreshSpec : ChangeSpec := { name := "matrixFresh", fn := fun _ => fun
  | [d1, d2, d3, d4, d5, d6, d7, d8, d9] => { results := [.lit (.bool true)], args := [d1, d2, d3, d4, d5, d6, d7, d8, d9] }
  | _ => none }
def matrixFreshRow : OpenClaim := { program := "ytfkpdjieiifldab", sum := "038e35d472a770eb4b5b428a18d699009818538b375e609494f58b152b9787bf", func := "binnacle/binnaclelaw08.MatrixFresh", spec := "matrixFresh", inPlace := ["math.Float64frombits", "math.Float64bits"], unfollowed := true, recurses := true, apart := false }
def MatrixFreshSaid : Prop := matrixFreshRow.holds Try.pinned (OpenSpec.ofChange matrixFreshSpec)

/-- ITS FALSE NEIGHBOUR: 'it returns false'. Refute it at one input. -/
def matrixFreshWrong : ChangeSpec := { name := "matrixFresh", fn := fun _ => fun
  | [d1, d2, d3, d4, d5, d6, d7, d8, d9] => { results := [.lit (.bool false)], args := [d1, d2, d3, d4, d5, d6, d7, d8, d9] }
  | _ => none }
def MatrixFreshWrongFalsely : Prop := matrixFreshRow.holds Try.pinned (OpenSpec.ofChange matrixFreshWrong)

/-- 'binnaclelaw08.MatrixOne': WHATEVER THE INPUT: true; the input reads as it did. -/
def matrixOneSpec : ChangeSpec := { name := "matrixOne", fn := fun _ => fun
  | [d] => { results := [.lit (.bool true)], args := [d] }
  | _ => none }
def matrixOneRow : OpenClaim := { program := "ytfkpdjieiifldab", sum := "038e35d472a770eb4b5b428a18d699009818538b375e609494f58b152b9787bf", func := "binnacle/binnaclelaw08.MatrixOne", spec := "matrixOne", inPlace := ["math.Float64bits", "math.Float64frombits"], unfollowed := true, recurses := true, apart := false }
def MatrixOneSaid : Prop := matrixOneRow.holds Try.pinned (OpenSpec.ofChange matrixOneSpec)

/-- ITS FALSE NEIGHBOUR: 'it returns false'. Refute it at one input. -/
def matrixOneWrong : ChangeSpec := { name := "matrixOne", fn := fun _ => fun
  | [d] => { results := [.lit (.bool false)], args := [d] }
  | _ => none }
def MatrixOneWrongFalsely : Prop := matrixOneRow.holds Try.pinned (OpenSpec.ofChange matrixOneWrong)

/-- 'binnaclelaw08.MatrixSymmetric': WHATEVER THE INPUT: true; the input reads as it did. -/
def matrixSymmetricSpec : ChangeSpec := { name := "matrixSymmetric", fn := fun _ => fun
  | [d1, d2] => { results := [.lit (.bool true)], args := [d1, d2] }
  | _ => none }
def matrixSymmetricRow : OpenClaim := { program := "ytfkpdjieiifldab", sum := "038e35d472a770eb4b5b428a18d699009818538b375e609494f58b152b9787bf", func := "binnacle/binnaclelaw08.MatrixSymmetric", spec := "matrixSymmetric", inPlace := ["math.Float64bits", "math.Float64frombits"], unfollowed := true, recurses := true, apart := false }
def MatrixSymmetricSaid : Prop := matrixSymmetricRow.holds Try.pinned (OpenSpec.ofChange matrixSymmetricSpec)

/-- ITS FALSE NEIGHBOUR: 'it returns false'. Refute it at one input. -/
def matrixSymmetricWrong : ChangeSpec := { name := "matrixSymmetric", fn := fun _ => fun
  | [d1, d2] => { results := [.lit (.bool false)], args := [d1, d2] }
  | _ => none }
def MatrixSymmetricWrongFalsely : Prop := matrixSymmetricRow.holds Try.pinned (OpenSpec.ofChange matrixSymmetricWrong)

/-- 'binnaclelaw08.MatrixNear': WHATEVER THE INPUT: true; the input reads as it did. -/
def matrixNearSpec : ChangeSpec := { name := "matrixNear", fn := fun _ => fun
  | [d1, d2, d3] => { results := [.lit (.bool true)], args := [d1, d2, d3] }
  | _ => none }
def matrixNearRow : OpenClaim := { program := "ytfkpdjieiifldab", sum := "038e35d472a770eb4b5b428a18d699009818538b375e609494f58b152b9787bf", func := "binnacle/binnaclelaw08.MatrixNear", spec := "matrixNear", inPlace := ["math.Float64bits", "math.Float64frombits"], unfollowed := true, recurses := true, apart := false }
def MatrixNearSaid : Prop := matrixNearRow.holds Try.pinned (OpenSpec.ofChange matrixNearSpec)

/-- ITS FALSE NEIGHBOUR: 'it returns false'. Refute it at one input. -/
def matrixNearWrong : ChangeSpec := { name := "matrixNear", fn := fun _ => fun
  | [d1, d2, d3] => { results := [.lit (.bool false)], args := [d1, d2, d3] }
  | _ => none }
def MatrixNearWrongFalsely : Prop := matrixNearRow.holds Try.pinned (OpenSpec.ofChange matrixNearWrong)

/-- 'binnaclelaw08.MatrixBlocks': WHATEVER THE INPUT: true; the input reads as it did. -/
def matrixBlocksSpec : ChangeSpec := { name := "matrixBlocks", fn := fun _ => fun
  | [d1, d2, d3, d4, d5] => { results := [.lit (.bool true)], args := [d1, d2, d3, d4, d5] }
  | _ => none }
def matrixBlocksRow : OpenClaim := { program := "ytfkpdjieiifldab", sum := "038e35d472a770eb4b5b428a18d699009818538b375e609494f58b152b9787bf", func := "binnacle/binnaclelaw08.MatrixBlocks", spec := "matrixBlocks", inPlace := ["math.Float64bits", "math.Float64frombits"], unfollowed := true, recurses := true, apart := false }
def MatrixBlocksSaid : Prop := matrixBlocksRow.holds Try.pinned (OpenSpec.ofChange matrixBlocksSpec)

/-- ITS FALSE NEIGHBOUR: 'it returns false'. Refute it at one input. -/
def matrixBlocksWrong : ChangeSpec := { name := "matrixBlocks", fn := fun _ => fun
  | [d1, d2, d3, d4, d5] => { results := [.lit (.bool false)], args := [d1, d2, d3, d4, d5] }
  | _ => none }
def MatrixBlocksWrongFalsely : Prop := matrixBlocksRow.holds Try.pinned (OpenSpec.ofChange matrixBlocksWrong)

/-- 'binnaclelaw08.MatrixTwos': WHATEVER THE INPUT: true; the input reads as it did. -/
def matrixTwosSpec : ChangeSpec := { name := "matrixTwos", fn := fun _ => fun
  | [d1, d2] => { results := [.lit (.bool true)], args := [d1, d2] }
  | _ => none }
def matrixTwosRow : OpenClaim := { program := "ytfkpdjieiifldab", sum := "038e35d472a770eb4b5b428a18d699009818538b375e609494f58b152b9787bf", func := "binnacle/binnaclelaw08.MatrixTwos", spec := "matrixTwos", inPlace := ["math.Float64bits", "math.Float64frombits"], unfollowed := true, recurses := true, apart := false }
def MatrixTwosSaid : Prop := matrixTwosRow.holds Try.pinned (OpenSpec.ofChange matrixTwosSpec)

/-- ITS FALSE NEIGHBOUR: 'it returns false'. Refute it at one input. -/
def matrixTwosWrong : ChangeSpec := { name := "matrixTwos", fn := fun _ => fun
  | [d1, d2] => { results := [.lit (.bool false)], args := [d1, d2] }
  | _ => none }
def MatrixTwosWrongFalsely : Prop := matrixTwosRow.holds Try.pinned (OpenSpec.ofChange matrixTwosWrong)

/- THE SECOND FORM. 'bulk': how many values and letters a reading holds, each counted each time it is reached (what is shared counts as often as it is met; a slice's spare places count too). A statement '..UptoSaid' is the law's where the arguments, and the package variables that the reading takes, are together of bulk at most 1048576: NARROWER than '..Said'. Prove '..Said' where nothing that the law and all that it calls make is longer than what came in: it says more and counts as full. Else prove '..UptoSaid'. A law counts once. -/
mutual
def uptoBulk {H : Type} : DataW H → Nat
  | .lit (.string bytes) => bytes.length + 1
  | .lit _ => 1
  | .nil => 1
  | .ptr d => uptoBulk d + 1
  | .slice elems spare => uptoBulkAll elems + uptoBulkAll spare + 1
  | .agg parts => uptoBulkAll parts + 1
  | .iface _ d => uptoBulk d + 1
  | .map entries => uptoBulkEntries entries + 1
  | .held _ => 1
def uptoBulkAll {H : Type} : List (DataW H) → Nat
  | [] => 0
  | d :: r => uptoBulk d + uptoBulkAll r
def uptoBulkEntries {H : Type} : List (Lit × DataW H) → Nat
  | [] => 0
  | x :: r => uptoBulkEntry x + uptoBulkEntries r
def uptoBulkEntry {H : Type} : Lit × DataW H → Nat
  | (.string bytes, d) => bytes.length + uptoBulk d + 1
  | (_, d) => uptoBulk d + 1
 end
def uptoSmall : (H : Type) → List (DataW H) → Bool := fun _ ds => decide (uptoBulkAll ds ≤ 1048576)
def OpenSpec.upto (s : _root_.Go.ChangeSpec) : _root_.Go.OpenSpec := { _root_.Go.OpenSpec.ofChange s with cond := some uptoSmall }

/-- 'binnaclelaw08.MatrixFresh', WHERE WHAT IT READS IS OF BULK AT MOST 1048576: true; the input reads as it did. -/
def matrixFreshUptoRow : OpenClaim := { program := "ytfkpdjieiifldab", sum := "038e35d472a770eb4b5b428a18d699009818538b375e609494f58b152b9787bf", func := "binnacle/binnaclelaw08.MatrixFresh", spec := "matrixFresh", inPlace := ["math.Float64frombits", "math.Float64bits"], unfollowed := true, recurses := true, apart := false, narrowed := true }
def MatrixFreshUptoSaid : Prop := matrixFreshUptoRow.holds Try.pinned (OpenSpec.upto matrixFreshSpec)

/-- 'binnaclelaw08.MatrixOne', WHERE WHAT IT READS IS OF BULK AT MOST 1048576: true; the input reads as it did. -/
def matrixOneUptoRow : OpenClaim := { program := "ytfkpdjieiifldab", sum := "038e35d472a770eb4b5b428a18d699009818538b375e609494f58b152b9787bf", func := "binnacle/binnaclelaw08.MatrixOne", spec := "matrixOne", inPlace := ["math.Float64bits", "math.Float64frombits"], unfollowed := true, recurses := true, apart := false, narrowed := true }
def MatrixOneUptoSaid : Prop := matrixOneUptoRow.holds Try.pinned (OpenSpec.upto matrixOneSpec)

/-- 'binnaclelaw08.MatrixSymmetric', WHERE WHAT IT READS IS OF BULK AT MOST 1048576: true; the input reads as it did. -/
def matrixSymmetricUptoRow : OpenClaim := { program := "ytfkpdjieiifldab", sum := "038e35d472a770eb4b5b428a18d699009818538b375e609494f58b152b9787bf", func := "binnacle/binnaclelaw08.MatrixSymmetric", spec := "matrixSymmetric", inPlace := ["math.Float64bits", "math.Float64frombits"], unfollowed := true, recurses := true, apart := false, narrowed := true }
def MatrixSymmetricUptoSaid : Prop := matrixSymmetricUptoRow.holds Try.pinned (OpenSpec.upto matrixSymmetricSpec)

/-- 'binnaclelaw08.MatrixNear', WHERE WHAT IT READS IS OF BULK AT MOST 1048576: true; the input reads as it did. -/
def matrixNearUptoRow : OpenClaim := { program := "ytfkpdjieiifldab", sum := "038e35d472a770eb4b5b428a18d699009818538b375e609494f58b152b9787bf", func := "binnacle/binnaclelaw08.MatrixNear", spec := "matrixNear", inPlace := ["math.Float64bits", "math.Float64frombits"], unfollowed := true, recurses := true, apart := false, narrowed := true }
def MatrixNearUptoSaid : Prop := matrixNearUptoRow.holds Try.pinned (OpenSpec.upto matrixNearSpec)

/-- 'binnaclelaw08.MatrixBlocks', WHERE WHAT IT READS IS OF BULK AT MOST 1048576: true; the input reads as it did. -/
def matrixBlocksUptoRow : OpenClaim := { program := "ytfkpdjieiifldab", sum := "038e35d472a770eb4b5b428a18d699009818538b375e609494f58b152b9787bf", func := "binnacle/binnaclelaw08.MatrixBlocks", spec := "matrixBlocks", inPlace := ["math.Float64bits", "math.Float64frombits"], unfollowed := true, recurses := true, apart := false, narrowed := true }
def MatrixBlocksUptoSaid : Prop := matrixBlocksUptoRow.holds Try.pinned (OpenSpec.upto matrixBlocksSpec)

/-- 'binnaclelaw08.MatrixTwos', WHERE WHAT IT READS IS OF BULK AT MOST 1048576: true; the input reads as it did. -/
def matrixTwosUptoRow : OpenClaim := { program := "ytfkpdjieiifldab", sum := "038e35d472a770eb4b5b428a18d699009818538b375e609494f58b152b9787bf", func := "binnacle/binnaclelaw08.MatrixTwos", spec := "matrixTwos", inPlace := ["math.Float64bits", "math.Float64frombits"], unfollowed := true, recurses := true, apart := false, narrowed := true }
def MatrixTwosUptoSaid : Prop := matrixTwosUptoRow.holds Try.pinned (OpenSpec.upto matrixTwosSpec)

end Rows
end Go.Proofs.Ytfkpdjieiifldab
