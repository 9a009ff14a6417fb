/-
  DERIVED. GIVEN WITH THE SEED: THE CARDS: each row of YtlbllbegkfbjhabDoorRows.lean that lists a variable, with what it lists TIED to the program's text (the seventh form; the later family's looks); each row that meets fmt, with fmt's text TOLD by the authors' own Lean function (tested against real Go, not proved from fmt's source: count such statements apart). THE CARD IS WHAT COUNTS. Prove the row's statement (the work); the ties are given (YtlbllbegkfbjhabDoorTie.lean); close each card by the builder's one call (the guide's Derived/Test/ToyasCard.lean, 'card_holds'). Laid BY PROGRAM, IN A SANDBOX (cutbox-door.mjs). By AI agents, Wed Nov 11 2026. No macro, syntax, notation, axiom, sorry.
-/
import Derived.Test.YtlbllbegkfbjhabDoorRows
import GoSem.ClaimSeven
namespace Go.Proofs.YtlbllbegkfbjhabDoor
namespace Rows

/-- THE TIED CARD OF 'binnaclelaw02.ConvertFigueroa'. -/
def convertFigueroaCard : Claim7 := { stood := { row := convertFigueroaRow, standIns := [], harness := (true, "05878f569e932c11bc232d3eef68cd88ca77d5f75e159ce2c77bfbecf3ec2a8d"), looks := false }, kinds := [], alts := [], laidByText := true, laidKinds := [.data], laidTests := true, laidLooks := .later }
def ConvertFigueroaCardSaid : Prop := Claim7.holds Tryd.pinned (.plain (OpenSpec.ofChange convertFigueroaSpec)) convertFigueroaCard

/-- THE TIED CARD OF 'binnaclelaw02.ConvertBetween'. -/
def convertBetweenCard : Claim7 := { stood := { row := convertBetweenRow, standIns := [], harness := (true, "05878f569e932c11bc232d3eef68cd88ca77d5f75e159ce2c77bfbecf3ec2a8d"), looks := false }, kinds := [], alts := [], laidByText := true, laidKinds := [.data], laidTests := true, laidLooks := .later }
def ConvertBetweenCardSaid : Prop := Claim7.holds Tryd.pinned (.plain (OpenSpec.ofChange convertBetweenSpec)) convertBetweenCard

/-- THE TIED CARD OF 'binnaclelaw02.ConvertTurned'. -/
def convertTurnedCard : Claim7 := { stood := { row := convertTurnedRow, standIns := [], harness := (true, "05878f569e932c11bc232d3eef68cd88ca77d5f75e159ce2c77bfbecf3ec2a8d"), looks := false }, kinds := [], alts := [], laidByText := true, laidKinds := [.data], laidTests := true, laidLooks := .later }
def ConvertTurnedCardSaid : Prop := Claim7.holds Tryd.pinned (.plain (OpenSpec.ofChange convertTurnedSpec)) convertTurnedCard

/-- THE TIED CARD OF 'binnaclelaw02.ConvertRises'. -/
def convertRisesCard : Claim7 := { stood := { row := convertRisesRow, standIns := [], harness := (true, "05878f569e932c11bc232d3eef68cd88ca77d5f75e159ce2c77bfbecf3ec2a8d"), looks := false }, kinds := [], alts := [], laidByText := true, laidKinds := [.data], laidTests := true, laidLooks := .later }
def ConvertRisesCardSaid : Prop := Claim7.holds Tryd.pinned (.plain (OpenSpec.ofChange convertRisesSpec)) convertRisesCard

/-- THE TIED CARD OF 'binnaclelaw02.ConvertBack'. -/
def convertBackCard : Claim7 := { stood := { row := convertBackRow, standIns := [], harness := (true, "05878f569e932c11bc232d3eef68cd88ca77d5f75e159ce2c77bfbecf3ec2a8d"), looks := false }, kinds := [], alts := [], laidByText := true, laidKinds := [.data], laidTests := true, laidLooks := .later }
def ConvertBackCardSaid : Prop := Claim7.holds Tryd.pinned (.plain (OpenSpec.ofChange convertBackSpec)) convertBackCard

/-- THE TIED CARD OF 'binnaclelaw02.ConvertSterbenz'. -/
def convertSterbenzCard : Claim7 := { stood := { row := convertSterbenzRow, standIns := [], harness := (true, "05878f569e932c11bc232d3eef68cd88ca77d5f75e159ce2c77bfbecf3ec2a8d"), looks := false }, kinds := [], alts := [], laidByText := true, laidKinds := [.data], laidTests := true, laidLooks := .later }
def ConvertSterbenzCardSaid : Prop := Claim7.holds Tryd.pinned (.plain (OpenSpec.ofChange convertSterbenzSpec)) convertSterbenzCard

/-- THE SECOND FORM's CARD OF 'binnaclelaw02.ConvertFigueroa'. -/
def convertFigueroaUptoCard : Claim7 := { stood := { row := convertFigueroaUptoRow, standIns := [], harness := (true, "05878f569e932c11bc232d3eef68cd88ca77d5f75e159ce2c77bfbecf3ec2a8d"), looks := false }, kinds := [], alts := [], laidByText := true, laidKinds := [.data], laidTests := true, laidLooks := .later }
def ConvertFigueroaUptoCardSaid : Prop := Claim7.holds Tryd.pinned (.plain (OpenSpec.upto convertFigueroaSpec)) convertFigueroaUptoCard

/-- THE SECOND FORM's CARD OF 'binnaclelaw02.ConvertBetween'. -/
def convertBetweenUptoCard : Claim7 := { stood := { row := convertBetweenUptoRow, standIns := [], harness := (true, "05878f569e932c11bc232d3eef68cd88ca77d5f75e159ce2c77bfbecf3ec2a8d"), looks := false }, kinds := [], alts := [], laidByText := true, laidKinds := [.data], laidTests := true, laidLooks := .later }
def ConvertBetweenUptoCardSaid : Prop := Claim7.holds Tryd.pinned (.plain (OpenSpec.upto convertBetweenSpec)) convertBetweenUptoCard

/-- THE SECOND FORM's CARD OF 'binnaclelaw02.ConvertTurned'. -/
def convertTurnedUptoCard : Claim7 := { stood := { row := convertTurnedUptoRow, standIns := [], harness := (true, "05878f569e932c11bc232d3eef68cd88ca77d5f75e159ce2c77bfbecf3ec2a8d"), looks := false }, kinds := [], alts := [], laidByText := true, laidKinds := [.data], laidTests := true, laidLooks := .later }
def ConvertTurnedUptoCardSaid : Prop := Claim7.holds Tryd.pinned (.plain (OpenSpec.upto convertTurnedSpec)) convertTurnedUptoCard

/-- THE SECOND FORM's CARD OF 'binnaclelaw02.ConvertRises'. -/
def convertRisesUptoCard : Claim7 := { stood := { row := convertRisesUptoRow, standIns := [], harness := (true, "05878f569e932c11bc232d3eef68cd88ca77d5f75e159ce2c77bfbecf3ec2a8d"), looks := false }, kinds := [], alts := [], laidByText := true, laidKinds := [.data], laidTests := true, laidLooks := .later }
def ConvertRisesUptoCardSaid : Prop := Claim7.holds Tryd.pinned (.plain (OpenSpec.upto convertRisesSpec)) convertRisesUptoCard

/-- THE SECOND FORM's CARD OF 'binnaclelaw02.ConvertBack'. -/
def convertBackUptoCard : Claim7 := { stood := { row := convertBackUptoRow, standIns := [], harness := (true, "05878f569e932c11bc232d3eef68cd88ca77d5f75e159ce2c77bfbecf3ec2a8d"), looks := false }, kinds := [], alts := [], laidByText := true, laidKinds := [.data], laidTests := true, laidLooks := .later }
def ConvertBackUptoCardSaid : Prop := Claim7.holds Tryd.pinned (.plain (OpenSpec.upto convertBackSpec)) convertBackUptoCard

/-- THE SECOND FORM's CARD OF 'binnaclelaw02.ConvertSterbenz'. -/
def convertSterbenzUptoCard : Claim7 := { stood := { row := convertSterbenzUptoRow, standIns := [], harness := (true, "05878f569e932c11bc232d3eef68cd88ca77d5f75e159ce2c77bfbecf3ec2a8d"), looks := false }, kinds := [], alts := [], laidByText := true, laidKinds := [.data], laidTests := true, laidLooks := .later }
def ConvertSterbenzUptoCardSaid : Prop := Claim7.holds Tryd.pinned (.plain (OpenSpec.upto convertSterbenzSpec)) convertSterbenzUptoCard
end Rows
end Go.Proofs.YtlbllbegkfbjhabDoor
