/-
  DERIVED. GIVEN WITH THE SEED: THE CARDS: each row of YtpjdmhidhllbkaaGreatDoorRows.lean that lists a variable, with what it lists TIED to the program's text (the seventh form; the later family's looks); each row that meets fmt, with fmt's text TOLD by the authors' own Lean function (tested against real Go, not proved from fmt's source: count such statements apart). THE CARD IS WHAT COUNTS. Prove the row's statement (the work); the ties are given (YtpjdmhidhllbkaaGreatDoorTie.lean); close each card by the builder's one call (the guide's Derived/Test/ToyasCard.lean, 'card_holds'). Laid BY PROGRAM, IN A SANDBOX (cutbox-door.mjs). By AI agents, Wed Nov 11 2026. No macro, syntax, notation, axiom, sorry.
-/
import Derived.Test.YtpjdmhidhllbkaaGreatDoorRows
import GoSem.ClaimSeven
namespace Go.Proofs.YtpjdmhidhllbkaaGreatDoor
namespace Rows

/-- THE TIED CARD OF 'binnaclelaw05.SumWays'. -/
def sumWaysCard : Claim7 := { stood := { row := sumWaysRow, standIns := [], harness := (true, "f5c0d8c9e2866d0fec3800c8ffc84d2a4b8970a9a18c5dfddd82caa68456f254"), looks := false }, kinds := [], alts := [], laidByText := true, laidKinds := [.data, .data], laidTests := true, laidLooks := .later }
def SumWaysCardSaid : Prop := Claim7.holds Tryz.pinned (.plain (OpenSpec.ofChange sumWaysSpec)) sumWaysCard

/-- THE TIED CARD OF 'binnaclelaw05.SumDots'. -/
def sumDotsCard : Claim7 := { stood := { row := sumDotsRow, standIns := [], harness := (true, "f5c0d8c9e2866d0fec3800c8ffc84d2a4b8970a9a18c5dfddd82caa68456f254"), looks := false }, kinds := [], alts := [], laidByText := true, laidKinds := [.data, .data], laidTests := true, laidLooks := .later }
def SumDotsCardSaid : Prop := Claim7.holds Tryz.pinned (.plain (OpenSpec.ofChange sumDotsSpec)) sumDotsCard

/-- THE TIED CARD OF 'binnaclelaw05.SumNearest'. -/
def sumNearestCard : Claim7 := { stood := { row := sumNearestRow, standIns := [], harness := (true, "f5c0d8c9e2866d0fec3800c8ffc84d2a4b8970a9a18c5dfddd82caa68456f254"), looks := false }, kinds := [], alts := [], laidByText := true, laidKinds := [.data, .data], laidTests := true, laidLooks := .later }
def SumNearestCardSaid : Prop := Claim7.holds Tryz.pinned (.plain (OpenSpec.ofChange sumNearestSpec)) sumNearestCard

/-- THE SECOND FORM's CARD OF 'binnaclelaw05.SumWays'. -/
def sumWaysUptoCard : Claim7 := { stood := { row := sumWaysUptoRow, standIns := [], harness := (true, "f5c0d8c9e2866d0fec3800c8ffc84d2a4b8970a9a18c5dfddd82caa68456f254"), looks := false }, kinds := [], alts := [], laidByText := true, laidKinds := [.data, .data], laidTests := true, laidLooks := .later }
def SumWaysUptoCardSaid : Prop := Claim7.holds Tryz.pinned (.plain (OpenSpec.upto sumWaysSpec)) sumWaysUptoCard

/-- THE SECOND FORM's CARD OF 'binnaclelaw05.SumDots'. -/
def sumDotsUptoCard : Claim7 := { stood := { row := sumDotsUptoRow, standIns := [], harness := (true, "f5c0d8c9e2866d0fec3800c8ffc84d2a4b8970a9a18c5dfddd82caa68456f254"), looks := false }, kinds := [], alts := [], laidByText := true, laidKinds := [.data, .data], laidTests := true, laidLooks := .later }
def SumDotsUptoCardSaid : Prop := Claim7.holds Tryz.pinned (.plain (OpenSpec.upto sumDotsSpec)) sumDotsUptoCard

/-- THE SECOND FORM's CARD OF 'binnaclelaw05.SumNearest'. -/
def sumNearestUptoCard : Claim7 := { stood := { row := sumNearestUptoRow, standIns := [], harness := (true, "f5c0d8c9e2866d0fec3800c8ffc84d2a4b8970a9a18c5dfddd82caa68456f254"), looks := false }, kinds := [], alts := [], laidByText := true, laidKinds := [.data, .data], laidTests := true, laidLooks := .later }
def SumNearestUptoCardSaid : Prop := Claim7.holds Tryz.pinned (.plain (OpenSpec.upto sumNearestSpec)) sumNearestUptoCard
end Rows
end Go.Proofs.YtpjdmhidhllbkaaGreatDoor
