/-
  DERIVED. GIVEN WITH THE SEED: THE CARDS: each row of YtcfbahaclmehaabDoorRows.lean that lists a variable, with what it lists TIED to the program's text (the seventh form; the later family's looks); each row that meets fmt, with fmt's text TOLD by the authors' own Lean function (tested against real Go, not proved from fmt's source: count such statements apart). THE CARD IS WHAT COUNTS. Prove the row's statement (the work); the ties are given (YtcfbahaclmehaabDoorTie.lean); close each card by the builder's one call (the guide's Derived/Test/ToyasCard.lean, 'card_holds'). Laid BY PROGRAM, IN A SANDBOX (cutbox-door.mjs). By AI agents, Wed Nov 11 2026. No macro, syntax, notation, axiom, sorry.
-/
import Derived.Test.YtcfbahaclmehaabDoorRows
import GoSem.ClaimSeven
namespace Go.Proofs.YtcfbahaclmehaabDoor
namespace Rows

/-- THE TIED CARD OF 'binnaclelaw01.AnatomyNear'. -/
def anatomyNearCard : Claim7 := { stood := { row := anatomyNearRow, standIns := [], harness := (true, "feb1fefd8719da80745dbf3a69ac49ea5c8d9302789d116f30fe1b8c89e9e7c4"), looks := false }, kinds := [], alts := [], laidByText := true, laidKinds := [.data], laidTests := true, laidLooks := .later }
def AnatomyNearCardSaid : Prop := Claim7.holds Tryd.pinned (.plain (OpenSpec.ofChange anatomyNearSpec)) anatomyNearCard

/-- THE TIED CARD OF 'binnaclelaw01.AnatomyOrder'. -/
def anatomyOrderCard : Claim7 := { stood := { row := anatomyOrderRow, standIns := [], harness := (true, "feb1fefd8719da80745dbf3a69ac49ea5c8d9302789d116f30fe1b8c89e9e7c4"), looks := false }, kinds := [], alts := [], laidByText := true, laidKinds := [.data], laidTests := true, laidLooks := .later }
def AnatomyOrderCardSaid : Prop := Claim7.holds Tryd.pinned (.plain (OpenSpec.ofChange anatomyOrderSpec)) anatomyOrderCard

/-- THE TIED CARD OF 'binnaclelaw01.AnatomySteps'. -/
def anatomyStepsCard : Claim7 := { stood := { row := anatomyStepsRow, standIns := [], harness := (true, "feb1fefd8719da80745dbf3a69ac49ea5c8d9302789d116f30fe1b8c89e9e7c4"), looks := false }, kinds := [], alts := [], laidByText := true, laidKinds := [.data], laidTests := true, laidLooks := .later }
def AnatomyStepsCardSaid : Prop := Claim7.holds Tryd.pinned (.plain (OpenSpec.ofChange anatomyStepsSpec)) anatomyStepsCard

/-- THE SECOND FORM's CARD OF 'binnaclelaw01.AnatomyNear'. -/
def anatomyNearUptoCard : Claim7 := { stood := { row := anatomyNearUptoRow, standIns := [], harness := (true, "feb1fefd8719da80745dbf3a69ac49ea5c8d9302789d116f30fe1b8c89e9e7c4"), looks := false }, kinds := [], alts := [], laidByText := true, laidKinds := [.data], laidTests := true, laidLooks := .later }
def AnatomyNearUptoCardSaid : Prop := Claim7.holds Tryd.pinned (.plain (OpenSpec.upto anatomyNearSpec)) anatomyNearUptoCard

/-- THE SECOND FORM's CARD OF 'binnaclelaw01.AnatomyOrder'. -/
def anatomyOrderUptoCard : Claim7 := { stood := { row := anatomyOrderUptoRow, standIns := [], harness := (true, "feb1fefd8719da80745dbf3a69ac49ea5c8d9302789d116f30fe1b8c89e9e7c4"), looks := false }, kinds := [], alts := [], laidByText := true, laidKinds := [.data], laidTests := true, laidLooks := .later }
def AnatomyOrderUptoCardSaid : Prop := Claim7.holds Tryd.pinned (.plain (OpenSpec.upto anatomyOrderSpec)) anatomyOrderUptoCard

/-- THE SECOND FORM's CARD OF 'binnaclelaw01.AnatomySteps'. -/
def anatomyStepsUptoCard : Claim7 := { stood := { row := anatomyStepsUptoRow, standIns := [], harness := (true, "feb1fefd8719da80745dbf3a69ac49ea5c8d9302789d116f30fe1b8c89e9e7c4"), looks := false }, kinds := [], alts := [], laidByText := true, laidKinds := [.data], laidTests := true, laidLooks := .later }
def AnatomyStepsUptoCardSaid : Prop := Claim7.holds Tryd.pinned (.plain (OpenSpec.upto anatomyStepsSpec)) anatomyStepsUptoCard
end Rows
end Go.Proofs.YtcfbahaclmehaabDoor
