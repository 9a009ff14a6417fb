/-
  DERIVED. GIVEN WITH THE SEED: THE CARDS: each row of YtpgcelbgmpfliaaDoorRows.lean that lists a variable, with what it lists TIED to the program's text (the seventh form; the later family's looks); each row that meets fmt, with fmt's text TOLD by the authors' own Lean function (tested against real Go, not proved from fmt's source: count such statements apart). THE CARD IS WHAT COUNTS. Prove the row's statement (the work); the ties are given (YtpgcelbgmpfliaaDoorTie.lean); close each card by the builder's one call (the guide's Derived/Test/ToyasCard.lean, 'card_holds'). Laid BY PROGRAM, IN A SANDBOX (cutbox-door.mjs). By AI agents, Wed Nov 11 2026. No macro, syntax, notation, axiom, sorry.
-/
import Derived.Test.YtpgcelbgmpfliaaDoorRows
import GoSem.ClaimSeven
namespace Go.Proofs.YtpgcelbgmpfliaaDoor
namespace Rows

/-- THE TIED CARD OF 'binnaclelaw02.ConvertTurned'. -/
def convertTurnedCard : Claim7 := { stood := { row := convertTurnedRow, standIns := [], harness := (true, "be497768a338a3596177f63c7936f46d0f5e82b40b05bc0f2b41abf2a530300f"), looks := false }, kinds := [], alts := [], laidByText := true, laidKinds := [.data], laidTests := true, laidLooks := .later }
def ConvertTurnedCardSaid : Prop := Claim7.holds Tryd.pinned (.plain (OpenSpec.ofChange convertTurnedSpec)) convertTurnedCard

/-- THE TIED CARD OF 'binnaclelaw02.ConvertSterbenz'. -/
def convertSterbenzCard : Claim7 := { stood := { row := convertSterbenzRow, standIns := [], harness := (true, "be497768a338a3596177f63c7936f46d0f5e82b40b05bc0f2b41abf2a530300f"), looks := false }, kinds := [], alts := [], laidByText := true, laidKinds := [.data], laidTests := true, laidLooks := .later }
def ConvertSterbenzCardSaid : Prop := Claim7.holds Tryd.pinned (.plain (OpenSpec.ofChange convertSterbenzSpec)) convertSterbenzCard

/-- THE TIED CARD OF 'binnaclelaw02.ConvertBetween'. -/
def convertBetweenCard : Claim7 := { stood := { row := convertBetweenRow, standIns := [], harness := (true, "be497768a338a3596177f63c7936f46d0f5e82b40b05bc0f2b41abf2a530300f"), looks := false }, kinds := [], alts := [], laidByText := true, laidKinds := [.data], laidTests := true, laidLooks := .later }
def ConvertBetweenCardSaid : Prop := Claim7.holds Tryd.pinned (.plain (OpenSpec.ofChange convertBetweenSpec)) convertBetweenCard

/-- THE SECOND FORM's CARD OF 'binnaclelaw02.ConvertTurned'. -/
def convertTurnedUptoCard : Claim7 := { stood := { row := convertTurnedUptoRow, standIns := [], harness := (true, "be497768a338a3596177f63c7936f46d0f5e82b40b05bc0f2b41abf2a530300f"), looks := false }, kinds := [], alts := [], laidByText := true, laidKinds := [.data], laidTests := true, laidLooks := .later }
def ConvertTurnedUptoCardSaid : Prop := Claim7.holds Tryd.pinned (.plain (OpenSpec.upto convertTurnedSpec)) convertTurnedUptoCard

/-- THE SECOND FORM's CARD OF 'binnaclelaw02.ConvertSterbenz'. -/
def convertSterbenzUptoCard : Claim7 := { stood := { row := convertSterbenzUptoRow, standIns := [], harness := (true, "be497768a338a3596177f63c7936f46d0f5e82b40b05bc0f2b41abf2a530300f"), looks := false }, kinds := [], alts := [], laidByText := true, laidKinds := [.data], laidTests := true, laidLooks := .later }
def ConvertSterbenzUptoCardSaid : Prop := Claim7.holds Tryd.pinned (.plain (OpenSpec.upto convertSterbenzSpec)) convertSterbenzUptoCard

/-- THE SECOND FORM's CARD OF 'binnaclelaw02.ConvertBetween'. -/
def convertBetweenUptoCard : Claim7 := { stood := { row := convertBetweenUptoRow, standIns := [], harness := (true, "be497768a338a3596177f63c7936f46d0f5e82b40b05bc0f2b41abf2a530300f"), looks := false }, kinds := [], alts := [], laidByText := true, laidKinds := [.data], laidTests := true, laidLooks := .later }
def ConvertBetweenUptoCardSaid : Prop := Claim7.holds Tryd.pinned (.plain (OpenSpec.upto convertBetweenSpec)) convertBetweenUptoCard
end Rows
end Go.Proofs.YtpgcelbgmpfliaaDoor
