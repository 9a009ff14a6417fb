/-
  DERIVED. GIVEN WITH THE SEED: THE CARDS: each row of YtfeojdmffipinaaDoorRows.lean that lists a variable, with what it lists TIED to the program's text (the seventh form; the later family's looks); each row that meets fmt, with fmt's text TOLD by the authors' own Lean function (tested against real Go, not proved from fmt's source: count such statements apart). THE CARD IS WHAT COUNTS. Prove the row's statement (the work); the ties are given (YtfeojdmffipinaaDoorTie.lean); close each card by the builder's one call (the guide's Derived/Test/ToyasCard.lean, 'card_holds'). Laid BY PROGRAM, IN A SANDBOX (cutbox-door.mjs). By AI agents, Wed Nov 11 2026. No macro, syntax, notation, axiom, sorry.
-/
import Derived.Test.YtfeojdmffipinaaDoorRows
import GoSem.ClaimSeven
namespace Go.Proofs.YtfeojdmffipinaaDoor
namespace Rows

/-- THE TIED CARD OF 'binnaclelaw01.AnatomyBack'. -/
def anatomyBackCard : Claim7 := { stood := { row := anatomyBackRow, standIns := [], harness := (true, "a32aba356635e8a6eb3eb2178527088e6073dfbbae84cf0375af625bc9adbcca"), looks := false }, kinds := [], alts := [], laidByText := true, laidKinds := [.data], laidTests := true, laidLooks := .later }
def AnatomyBackCardSaid : Prop := Claim7.holds Tryd.pinned (.plain (OpenSpec.ofChange anatomyBackSpec)) anatomyBackCard

/-- THE TIED CARD OF 'binnaclelaw01.AnatomyFields'. -/
def anatomyFieldsCard : Claim7 := { stood := { row := anatomyFieldsRow, standIns := [], harness := (true, "a32aba356635e8a6eb3eb2178527088e6073dfbbae84cf0375af625bc9adbcca"), looks := false }, kinds := [], alts := [], laidByText := true, laidKinds := [.data], laidTests := true, laidLooks := .later }
def AnatomyFieldsCardSaid : Prop := Claim7.holds Tryd.pinned (.plain (OpenSpec.ofChange anatomyFieldsSpec)) anatomyFieldsCard

/-- THE TIED CARD OF 'binnaclelaw01.AnatomyFields32'. -/
def anatomyFields32Card : Claim7 := { stood := { row := anatomyFields32Row, standIns := [], harness := (true, "a32aba356635e8a6eb3eb2178527088e6073dfbbae84cf0375af625bc9adbcca"), looks := false }, kinds := [], alts := [], laidByText := true, laidKinds := [.data], laidTests := true, laidLooks := .later }
def AnatomyFields32CardSaid : Prop := Claim7.holds Tryd.pinned (.plain (OpenSpec.ofChange anatomyFields32Spec)) anatomyFields32Card

/-- THE TIED CARD OF 'binnaclelaw01.AnatomyNext'. -/
def anatomyNextCard : Claim7 := { stood := { row := anatomyNextRow, standIns := [], harness := (true, "a32aba356635e8a6eb3eb2178527088e6073dfbbae84cf0375af625bc9adbcca"), looks := false }, kinds := [], alts := [], laidByText := true, laidKinds := [.data], laidTests := true, laidLooks := .later }
def AnatomyNextCardSaid : Prop := Claim7.holds Tryd.pinned (.plain (OpenSpec.ofChange anatomyNextSpec)) anatomyNextCard

/-- THE TIED CARD OF 'binnaclelaw02.ConvertBack'. -/
def convertBackCard : Claim7 := { stood := { row := convertBackRow, standIns := [], harness := (true, "a32aba356635e8a6eb3eb2178527088e6073dfbbae84cf0375af625bc9adbcca"), looks := false }, kinds := [], alts := [], laidByText := true, laidKinds := [.data], laidTests := true, laidLooks := .later }
def ConvertBackCardSaid : Prop := Claim7.holds Tryd.pinned (.plain (OpenSpec.ofChange convertBackSpec)) convertBackCard

/-- THE TIED CARD OF 'binnaclelaw02.ConvertRises'. -/
def convertRisesCard : Claim7 := { stood := { row := convertRisesRow, standIns := [], harness := (true, "a32aba356635e8a6eb3eb2178527088e6073dfbbae84cf0375af625bc9adbcca"), looks := false }, kinds := [], alts := [], laidByText := true, laidKinds := [.data], laidTests := true, laidLooks := .later }
def ConvertRisesCardSaid : Prop := Claim7.holds Tryd.pinned (.plain (OpenSpec.ofChange convertRisesSpec)) convertRisesCard

/-- THE SECOND FORM's CARD OF 'binnaclelaw01.AnatomyBack'. -/
def anatomyBackUptoCard : Claim7 := { stood := { row := anatomyBackUptoRow, standIns := [], harness := (true, "a32aba356635e8a6eb3eb2178527088e6073dfbbae84cf0375af625bc9adbcca"), looks := false }, kinds := [], alts := [], laidByText := true, laidKinds := [.data], laidTests := true, laidLooks := .later }
def AnatomyBackUptoCardSaid : Prop := Claim7.holds Tryd.pinned (.plain (OpenSpec.upto anatomyBackSpec)) anatomyBackUptoCard

/-- THE SECOND FORM's CARD OF 'binnaclelaw01.AnatomyFields'. -/
def anatomyFieldsUptoCard : Claim7 := { stood := { row := anatomyFieldsUptoRow, standIns := [], harness := (true, "a32aba356635e8a6eb3eb2178527088e6073dfbbae84cf0375af625bc9adbcca"), looks := false }, kinds := [], alts := [], laidByText := true, laidKinds := [.data], laidTests := true, laidLooks := .later }
def AnatomyFieldsUptoCardSaid : Prop := Claim7.holds Tryd.pinned (.plain (OpenSpec.upto anatomyFieldsSpec)) anatomyFieldsUptoCard

/-- THE SECOND FORM's CARD OF 'binnaclelaw01.AnatomyFields32'. -/
def anatomyFields32UptoCard : Claim7 := { stood := { row := anatomyFields32UptoRow, standIns := [], harness := (true, "a32aba356635e8a6eb3eb2178527088e6073dfbbae84cf0375af625bc9adbcca"), looks := false }, kinds := [], alts := [], laidByText := true, laidKinds := [.data], laidTests := true, laidLooks := .later }
def AnatomyFields32UptoCardSaid : Prop := Claim7.holds Tryd.pinned (.plain (OpenSpec.upto anatomyFields32Spec)) anatomyFields32UptoCard

/-- THE SECOND FORM's CARD OF 'binnaclelaw01.AnatomyNext'. -/
def anatomyNextUptoCard : Claim7 := { stood := { row := anatomyNextUptoRow, standIns := [], harness := (true, "a32aba356635e8a6eb3eb2178527088e6073dfbbae84cf0375af625bc9adbcca"), looks := false }, kinds := [], alts := [], laidByText := true, laidKinds := [.data], laidTests := true, laidLooks := .later }
def AnatomyNextUptoCardSaid : Prop := Claim7.holds Tryd.pinned (.plain (OpenSpec.upto anatomyNextSpec)) anatomyNextUptoCard

/-- THE SECOND FORM's CARD OF 'binnaclelaw02.ConvertBack'. -/
def convertBackUptoCard : Claim7 := { stood := { row := convertBackUptoRow, standIns := [], harness := (true, "a32aba356635e8a6eb3eb2178527088e6073dfbbae84cf0375af625bc9adbcca"), looks := false }, kinds := [], alts := [], laidByText := true, laidKinds := [.data], laidTests := true, laidLooks := .later }
def ConvertBackUptoCardSaid : Prop := Claim7.holds Tryd.pinned (.plain (OpenSpec.upto convertBackSpec)) convertBackUptoCard

/-- THE SECOND FORM's CARD OF 'binnaclelaw02.ConvertRises'. -/
def convertRisesUptoCard : Claim7 := { stood := { row := convertRisesUptoRow, standIns := [], harness := (true, "a32aba356635e8a6eb3eb2178527088e6073dfbbae84cf0375af625bc9adbcca"), looks := false }, kinds := [], alts := [], laidByText := true, laidKinds := [.data], laidTests := true, laidLooks := .later }
def ConvertRisesUptoCardSaid : Prop := Claim7.holds Tryd.pinned (.plain (OpenSpec.upto convertRisesSpec)) convertRisesUptoCard
end Rows
end Go.Proofs.YtfeojdmffipinaaDoor
