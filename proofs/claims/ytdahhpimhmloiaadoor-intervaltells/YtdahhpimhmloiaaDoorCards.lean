/-
  DERIVED. GIVEN WITH THE SEED: THE CARDS: each row of YtdahhpimhmloiaaDoorRows.lean that lists a variable, with what it lists TIED to the program's text (the seventh form; the later family's looks); each row that meets fmt, with fmt's text TOLD by the authors' own Lean function (tested against real Go, not proved from fmt's source: count such statements apart). THE CARD IS WHAT COUNTS. Prove the row's statement (the work); the ties are given (YtdahhpimhmloiaaDoorTie.lean); close each card by the builder's one call (the guide's Derived/Test/ToyasCard.lean, 'card_holds'). Laid BY PROGRAM, IN A SANDBOX (cutbox-door.mjs). By AI agents, Wed Nov 11 2026. No macro, syntax, notation, axiom, sorry.
-/
import Derived.Test.YtdahhpimhmloiaaDoorRows
import GoSem.ClaimSeven
namespace Go.Proofs.YtdahhpimhmloiaaDoor
namespace Rows

/-- THE TIED CARD OF 'binnaclelaw06.IntervalSets'. -/
def intervalSetsCard : Claim7 := { stood := { row := intervalSetsRow, standIns := [], harness := (true, "9f9c9f5d403bdb5b590e588bf265c5d37c9e7369b3ea46a29b7cc445cbd0e48a"), looks := false }, kinds := [], alts := [], laidByText := true, laidKinds := [.data], laidTests := true, laidLooks := .later }
def IntervalSetsCardSaid : Prop := Claim7.holds Tryd.pinned (.plain (OpenSpec.ofChange intervalSetsSpec)) intervalSetsCard

/-- THE TIED CARD OF 'binnaclelaw06.IntervalTells'. -/
def intervalTellsCard : Claim7 := { stood := { row := intervalTellsRow, standIns := [], harness := (true, "9f9c9f5d403bdb5b590e588bf265c5d37c9e7369b3ea46a29b7cc445cbd0e48a"), looks := false }, kinds := [], alts := [], laidByText := true, laidKinds := [.data], laidTests := true, laidLooks := .later }
def IntervalTellsCardSaid : Prop := Claim7.holds Tryd.pinned (.plain (OpenSpec.ofChange intervalTellsSpec)) intervalTellsCard

/-- THE TIED CARD OF 'binnaclelaw06.IntervalTurns'. -/
def intervalTurnsCard : Claim7 := { stood := { row := intervalTurnsRow, standIns := [], harness := (true, "9f9c9f5d403bdb5b590e588bf265c5d37c9e7369b3ea46a29b7cc445cbd0e48a"), looks := false }, kinds := [], alts := [], laidByText := true, laidKinds := [.data], laidTests := true, laidLooks := .later }
def IntervalTurnsCardSaid : Prop := Claim7.holds Tryd.pinned (.plain (OpenSpec.ofChange intervalTurnsSpec)) intervalTurnsCard

/-- THE SECOND FORM's CARD OF 'binnaclelaw06.IntervalSets'. -/
def intervalSetsUptoCard : Claim7 := { stood := { row := intervalSetsUptoRow, standIns := [], harness := (true, "9f9c9f5d403bdb5b590e588bf265c5d37c9e7369b3ea46a29b7cc445cbd0e48a"), looks := false }, kinds := [], alts := [], laidByText := true, laidKinds := [.data], laidTests := true, laidLooks := .later }
def IntervalSetsUptoCardSaid : Prop := Claim7.holds Tryd.pinned (.plain (OpenSpec.upto intervalSetsSpec)) intervalSetsUptoCard

/-- THE SECOND FORM's CARD OF 'binnaclelaw06.IntervalTells'. -/
def intervalTellsUptoCard : Claim7 := { stood := { row := intervalTellsUptoRow, standIns := [], harness := (true, "9f9c9f5d403bdb5b590e588bf265c5d37c9e7369b3ea46a29b7cc445cbd0e48a"), looks := false }, kinds := [], alts := [], laidByText := true, laidKinds := [.data], laidTests := true, laidLooks := .later }
def IntervalTellsUptoCardSaid : Prop := Claim7.holds Tryd.pinned (.plain (OpenSpec.upto intervalTellsSpec)) intervalTellsUptoCard

/-- THE SECOND FORM's CARD OF 'binnaclelaw06.IntervalTurns'. -/
def intervalTurnsUptoCard : Claim7 := { stood := { row := intervalTurnsUptoRow, standIns := [], harness := (true, "9f9c9f5d403bdb5b590e588bf265c5d37c9e7369b3ea46a29b7cc445cbd0e48a"), looks := false }, kinds := [], alts := [], laidByText := true, laidKinds := [.data], laidTests := true, laidLooks := .later }
def IntervalTurnsUptoCardSaid : Prop := Claim7.holds Tryd.pinned (.plain (OpenSpec.upto intervalTurnsSpec)) intervalTurnsUptoCard
end Rows
end Go.Proofs.YtdahhpimhmloiaaDoor
