/-
  DERIVED. GIVEN WITH THE SEED: THE CARDS: each row of YtofmdeidgopneaaDoorRows.lean that lists a variable, with what it lists TIED to the program's text (the seventh form; the later family's looks); each row that meets fmt, with fmt's text TOLD by the authors' own Lean function (tested against real Go, not proved from fmt's source: count such statements apart). THE CARD IS WHAT COUNTS. Prove the row's statement (the work); the ties are given (YtofmdeidgopneaaDoorTie.lean); close each card by the builder's one call (the guide's Derived/Test/ToyasCard.lean, 'card_holds'). Laid BY PROGRAM, IN A SANDBOX (cutbox-door.mjs). By AI agents, Wed Nov 11 2026. No macro, syntax, notation, axiom, sorry.
-/
import Derived.Test.YtofmdeidgopneaaDoorRows
import GoSem.ClaimSeven
namespace Go.Proofs.YtofmdeidgopneaaDoor
namespace Rows

/-- THE TIED CARD OF 'binnaclelaw01.AnatomyParts'. -/
def anatomyPartsCard : Claim7 := { stood := { row := anatomyPartsRow, standIns := [], harness := (true, "2cce507ffb11589c3182987d590e441a17eb166f9f40e6755efd4d853d042f47"), looks := false }, kinds := [], alts := [], laidByText := true, laidKinds := [.data], laidTests := true, laidLooks := .later }
def AnatomyPartsCardSaid : Prop := Claim7.holds Tryd.pinned (.plain (OpenSpec.ofChange anatomyPartsSpec)) anatomyPartsCard

/-- THE TIED CARD OF 'binnaclelaw02.ConvertNarrows'. -/
def convertNarrowsCard : Claim7 := { stood := { row := convertNarrowsRow, standIns := [], harness := (true, "2cce507ffb11589c3182987d590e441a17eb166f9f40e6755efd4d853d042f47"), looks := false }, kinds := [], alts := [], laidByText := true, laidKinds := [.data], laidTests := true, laidLooks := .later }
def ConvertNarrowsCardSaid : Prop := Claim7.holds Tryd.pinned (.plain (OpenSpec.ofChange convertNarrowsSpec)) convertNarrowsCard

/-- THE TIED CARD OF 'binnaclelaw02.ConvertScales'. -/
def convertScalesCard : Claim7 := { stood := { row := convertScalesRow, standIns := [], harness := (true, "2cce507ffb11589c3182987d590e441a17eb166f9f40e6755efd4d853d042f47"), looks := false }, kinds := [], alts := [], laidByText := true, laidKinds := [.data], laidTests := true, laidLooks := .later }
def ConvertScalesCardSaid : Prop := Claim7.holds Tryd.pinned (.plain (OpenSpec.ofChange convertScalesSpec)) convertScalesCard

/-- THE TIED CARD OF 'binnaclelaw02.ConvertBetween'. -/
def convertBetweenCard : Claim7 := { stood := { row := convertBetweenRow, standIns := [], harness := (true, "2cce507ffb11589c3182987d590e441a17eb166f9f40e6755efd4d853d042f47"), looks := false }, kinds := [], alts := [], laidByText := true, laidKinds := [.data], laidTests := true, laidLooks := .later }
def ConvertBetweenCardSaid : Prop := Claim7.holds Tryd.pinned (.plain (OpenSpec.ofChange convertBetweenSpec)) convertBetweenCard

/-- THE TIED CARD OF 'binnaclelaw02.ConvertSterbenz'. -/
def convertSterbenzCard : Claim7 := { stood := { row := convertSterbenzRow, standIns := [], harness := (true, "2cce507ffb11589c3182987d590e441a17eb166f9f40e6755efd4d853d042f47"), looks := false }, kinds := [], alts := [], laidByText := true, laidKinds := [.data], laidTests := true, laidLooks := .later }
def ConvertSterbenzCardSaid : Prop := Claim7.holds Tryd.pinned (.plain (OpenSpec.ofChange convertSterbenzSpec)) convertSterbenzCard

/-- THE SECOND FORM's CARD OF 'binnaclelaw01.AnatomyParts'. -/
def anatomyPartsUptoCard : Claim7 := { stood := { row := anatomyPartsUptoRow, standIns := [], harness := (true, "2cce507ffb11589c3182987d590e441a17eb166f9f40e6755efd4d853d042f47"), looks := false }, kinds := [], alts := [], laidByText := true, laidKinds := [.data], laidTests := true, laidLooks := .later }
def AnatomyPartsUptoCardSaid : Prop := Claim7.holds Tryd.pinned (.plain (OpenSpec.upto anatomyPartsSpec)) anatomyPartsUptoCard

/-- THE SECOND FORM's CARD OF 'binnaclelaw02.ConvertNarrows'. -/
def convertNarrowsUptoCard : Claim7 := { stood := { row := convertNarrowsUptoRow, standIns := [], harness := (true, "2cce507ffb11589c3182987d590e441a17eb166f9f40e6755efd4d853d042f47"), looks := false }, kinds := [], alts := [], laidByText := true, laidKinds := [.data], laidTests := true, laidLooks := .later }
def ConvertNarrowsUptoCardSaid : Prop := Claim7.holds Tryd.pinned (.plain (OpenSpec.upto convertNarrowsSpec)) convertNarrowsUptoCard

/-- THE SECOND FORM's CARD OF 'binnaclelaw02.ConvertScales'. -/
def convertScalesUptoCard : Claim7 := { stood := { row := convertScalesUptoRow, standIns := [], harness := (true, "2cce507ffb11589c3182987d590e441a17eb166f9f40e6755efd4d853d042f47"), looks := false }, kinds := [], alts := [], laidByText := true, laidKinds := [.data], laidTests := true, laidLooks := .later }
def ConvertScalesUptoCardSaid : Prop := Claim7.holds Tryd.pinned (.plain (OpenSpec.upto convertScalesSpec)) convertScalesUptoCard

/-- THE SECOND FORM's CARD OF 'binnaclelaw02.ConvertBetween'. -/
def convertBetweenUptoCard : Claim7 := { stood := { row := convertBetweenUptoRow, standIns := [], harness := (true, "2cce507ffb11589c3182987d590e441a17eb166f9f40e6755efd4d853d042f47"), looks := false }, kinds := [], alts := [], laidByText := true, laidKinds := [.data], laidTests := true, laidLooks := .later }
def ConvertBetweenUptoCardSaid : Prop := Claim7.holds Tryd.pinned (.plain (OpenSpec.upto convertBetweenSpec)) convertBetweenUptoCard

/-- THE SECOND FORM's CARD OF 'binnaclelaw02.ConvertSterbenz'. -/
def convertSterbenzUptoCard : Claim7 := { stood := { row := convertSterbenzUptoRow, standIns := [], harness := (true, "2cce507ffb11589c3182987d590e441a17eb166f9f40e6755efd4d853d042f47"), looks := false }, kinds := [], alts := [], laidByText := true, laidKinds := [.data], laidTests := true, laidLooks := .later }
def ConvertSterbenzUptoCardSaid : Prop := Claim7.holds Tryd.pinned (.plain (OpenSpec.upto convertSterbenzSpec)) convertSterbenzUptoCard
end Rows
end Go.Proofs.YtofmdeidgopneaaDoor
