/-
  DERIVED. GIVEN WITH THE SEED: THE CARDS: each row of YtilffgmekeeohaaDoorRows.lean that lists a variable, with what it lists TIED to the program's text (the seventh form; the later family's looks); each row that meets fmt, with fmt's text TOLD by the authors' own Lean function (tested against real Go, not proved from fmt's source: count such statements apart). THE CARD IS WHAT COUNTS. Prove the row's statement (the work); the ties are given (YtilffgmekeeohaaDoorTie.lean); close each card by the builder's one call (the guide's Derived/Test/ToyasCard.lean, 'card_holds'). Laid BY PROGRAM, IN A SANDBOX (cutbox-door.mjs). By AI agents, Wed Nov 11 2026. No macro, syntax, notation, axiom, sorry.
-/
import Derived.Test.YtilffgmekeeohaaDoorRows
import GoSem.ClaimSeven
namespace Go.Proofs.YtilffgmekeeohaaDoor
namespace Rows

/-- THE TIED CARD OF 'binnaclelaw06.IntervalCentre'. -/
def intervalCentreCard : Claim7 := { stood := { row := intervalCentreRow, standIns := [], harness := (true, "e4406a4d0ae6f2332b58e00a42c9e0f20d0cde3b098f34b7cb1d9f902306bc11"), looks := false }, kinds := [], alts := [], laidByText := true, laidKinds := [.data], laidTests := true, laidLooks := .later }
def IntervalCentreCardSaid : Prop := Claim7.holds Tryd.pinned (.plain (OpenSpec.ofChange intervalCentreSpec)) intervalCentreCard

/-- THE SECOND FORM's CARD OF 'binnaclelaw06.IntervalCentre'. -/
def intervalCentreUptoCard : Claim7 := { stood := { row := intervalCentreUptoRow, standIns := [], harness := (true, "e4406a4d0ae6f2332b58e00a42c9e0f20d0cde3b098f34b7cb1d9f902306bc11"), looks := false }, kinds := [], alts := [], laidByText := true, laidKinds := [.data], laidTests := true, laidLooks := .later }
def IntervalCentreUptoCardSaid : Prop := Claim7.holds Tryd.pinned (.plain (OpenSpec.upto intervalCentreSpec)) intervalCentreUptoCard
end Rows
end Go.Proofs.YtilffgmekeeohaaDoor
