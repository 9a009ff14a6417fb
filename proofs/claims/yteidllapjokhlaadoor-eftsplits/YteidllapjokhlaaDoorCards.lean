/-
  DERIVED. GIVEN WITH THE SEED: THE CARDS: each row of YteidllapjokhlaaDoorRows.lean that lists a variable, with what it lists TIED to the program's text (the seventh form; the later family's looks); each row that meets fmt, with fmt's text TOLD by the authors' own Lean function (tested against real Go, not proved from fmt's source: count such statements apart). THE CARD IS WHAT COUNTS. Prove the row's statement (the work); the ties are given (YteidllapjokhlaaDoorTie.lean); close each card by the builder's one call (the guide's Derived/Test/ToyasCard.lean, 'card_holds'). Laid BY PROGRAM, IN A SANDBOX (cutbox-door.mjs). By AI agents, Wed Nov 11 2026. No macro, syntax, notation, axiom, sorry.
-/
import Derived.Test.YteidllapjokhlaaDoorRows
import GoSem.ClaimSeven
namespace Go.Proofs.YteidllapjokhlaaDoor
namespace Rows

/-- THE TIED CARD OF 'binnaclelaw04.EftTurned'. -/
def eftTurnedCard : Claim7 := { stood := { row := eftTurnedRow, standIns := [], harness := (true, "54f25dfb2edb765a4e8c3a55c2bfff386ba3acff4628ec15c52e8cc25c2b18ff"), looks := false }, kinds := [], alts := [], laidByText := true, laidKinds := [.data, .data], laidTests := true, laidLooks := .later }
def EftTurnedCardSaid : Prop := Claim7.holds Tryd.pinned (.plain (OpenSpec.ofChange eftTurnedSpec)) eftTurnedCard

/-- THE TIED CARD OF 'binnaclelaw04.EftSigns'. -/
def eftSignsCard : Claim7 := { stood := { row := eftSignsRow, standIns := [], harness := (true, "54f25dfb2edb765a4e8c3a55c2bfff386ba3acff4628ec15c52e8cc25c2b18ff"), looks := false }, kinds := [], alts := [], laidByText := true, laidKinds := [.data, .data], laidTests := true, laidLooks := .later }
def EftSignsCardSaid : Prop := Claim7.holds Tryd.pinned (.plain (OpenSpec.ofChange eftSignsSpec)) eftSignsCard

/-- THE TIED CARD OF 'binnaclelaw04.EftExact'. -/
def eftExactCard : Claim7 := { stood := { row := eftExactRow, standIns := [], harness := (true, "54f25dfb2edb765a4e8c3a55c2bfff386ba3acff4628ec15c52e8cc25c2b18ff"), looks := false }, kinds := [], alts := [], laidByText := true, laidKinds := [.data, .data], laidTests := true, laidLooks := .later }
def EftExactCardSaid : Prop := Claim7.holds Tryd.pinned (.plain (OpenSpec.ofChange eftExactSpec)) eftExactCard

/-- THE TIED CARD OF 'binnaclelaw04.EftSplits'. -/
def eftSplitsCard : Claim7 := { stood := { row := eftSplitsRow, standIns := [], harness := (true, "54f25dfb2edb765a4e8c3a55c2bfff386ba3acff4628ec15c52e8cc25c2b18ff"), looks := false }, kinds := [], alts := [], laidByText := true, laidKinds := [.data, .data], laidTests := true, laidLooks := .later }
def EftSplitsCardSaid : Prop := Claim7.holds Tryd.pinned (.plain (OpenSpec.ofChange eftSplitsSpec)) eftSplitsCard

/-- THE SECOND FORM's CARD OF 'binnaclelaw04.EftTurned'. -/
def eftTurnedUptoCard : Claim7 := { stood := { row := eftTurnedUptoRow, standIns := [], harness := (true, "54f25dfb2edb765a4e8c3a55c2bfff386ba3acff4628ec15c52e8cc25c2b18ff"), looks := false }, kinds := [], alts := [], laidByText := true, laidKinds := [.data, .data], laidTests := true, laidLooks := .later }
def EftTurnedUptoCardSaid : Prop := Claim7.holds Tryd.pinned (.plain (OpenSpec.upto eftTurnedSpec)) eftTurnedUptoCard

/-- THE SECOND FORM's CARD OF 'binnaclelaw04.EftSigns'. -/
def eftSignsUptoCard : Claim7 := { stood := { row := eftSignsUptoRow, standIns := [], harness := (true, "54f25dfb2edb765a4e8c3a55c2bfff386ba3acff4628ec15c52e8cc25c2b18ff"), looks := false }, kinds := [], alts := [], laidByText := true, laidKinds := [.data, .data], laidTests := true, laidLooks := .later }
def EftSignsUptoCardSaid : Prop := Claim7.holds Tryd.pinned (.plain (OpenSpec.upto eftSignsSpec)) eftSignsUptoCard

/-- THE SECOND FORM's CARD OF 'binnaclelaw04.EftExact'. -/
def eftExactUptoCard : Claim7 := { stood := { row := eftExactUptoRow, standIns := [], harness := (true, "54f25dfb2edb765a4e8c3a55c2bfff386ba3acff4628ec15c52e8cc25c2b18ff"), looks := false }, kinds := [], alts := [], laidByText := true, laidKinds := [.data, .data], laidTests := true, laidLooks := .later }
def EftExactUptoCardSaid : Prop := Claim7.holds Tryd.pinned (.plain (OpenSpec.upto eftExactSpec)) eftExactUptoCard

/-- THE SECOND FORM's CARD OF 'binnaclelaw04.EftSplits'. -/
def eftSplitsUptoCard : Claim7 := { stood := { row := eftSplitsUptoRow, standIns := [], harness := (true, "54f25dfb2edb765a4e8c3a55c2bfff386ba3acff4628ec15c52e8cc25c2b18ff"), looks := false }, kinds := [], alts := [], laidByText := true, laidKinds := [.data, .data], laidTests := true, laidLooks := .later }
def EftSplitsUptoCardSaid : Prop := Claim7.holds Tryd.pinned (.plain (OpenSpec.upto eftSplitsSpec)) eftSplitsUptoCard
end Rows
end Go.Proofs.YteidllapjokhlaaDoor
