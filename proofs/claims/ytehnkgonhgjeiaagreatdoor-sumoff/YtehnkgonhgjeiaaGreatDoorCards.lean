/-
  DERIVED. GIVEN WITH THE SEED: THE CARDS: each row of YtehnkgonhgjeiaaGreatDoorRows.lean that lists a variable, with what it lists TIED to the program's text (the seventh form; the later family's looks); each row that meets fmt, with fmt's text TOLD by the authors' own Lean function (tested against real Go, not proved from fmt's source: count such statements apart). THE CARD IS WHAT COUNTS. Prove the row's statement (the work); the ties are given (YtehnkgonhgjeiaaGreatDoorTie.lean); close each card by the builder's one call (the guide's Derived/Test/ToyasCard.lean, 'card_holds'). Laid BY PROGRAM, IN A SANDBOX (cutbox-door.mjs). By AI agents, Wed Nov 11 2026. No macro, syntax, notation, axiom, sorry.
-/
import Derived.Test.YtehnkgonhgjeiaaGreatDoorRows
import GoSem.ClaimSeven
namespace Go.Proofs.YtehnkgonhgjeiaaGreatDoor
namespace Rows

/-- THE TIED CARD OF 'binnaclelaw05.SumWays'. -/
def sumWaysCard : Claim7 := { stood := { row := sumWaysRow, standIns := [], harness := (true, "47e59b668bcb0990d19ffa817c81b8fa425e2d48111d2363d61017140d577d27"), looks := false }, kinds := [], alts := [], laidByText := true, laidKinds := [.data, .data], laidTests := true, laidLooks := .later }
def SumWaysCardSaid : Prop := Claim7.holds Tryz.pinned (.plain (OpenSpec.ofChange sumWaysSpec)) sumWaysCard

/-- THE TIED CARD OF 'binnaclelaw05.SumOff'. -/
def sumOffCard : Claim7 := { stood := { row := sumOffRow, standIns := [], harness := (true, "47e59b668bcb0990d19ffa817c81b8fa425e2d48111d2363d61017140d577d27"), looks := false }, kinds := [], alts := [], laidByText := true, laidKinds := [.data, .data], laidTests := true, laidLooks := .later }
def SumOffCardSaid : Prop := Claim7.holds Tryz.pinned (.plain (OpenSpec.ofChange sumOffSpec)) sumOffCard

/-- THE TIED CARD OF 'binnaclelaw05.SumMeans'. -/
def sumMeansCard : Claim7 := { stood := { row := sumMeansRow, standIns := [], harness := (true, "47e59b668bcb0990d19ffa817c81b8fa425e2d48111d2363d61017140d577d27"), looks := false }, kinds := [], alts := [], laidByText := true, laidKinds := [.data, .data], laidTests := true, laidLooks := .later }
def SumMeansCardSaid : Prop := Claim7.holds Tryz.pinned (.plain (OpenSpec.ofChange sumMeansSpec)) sumMeansCard

/-- THE TIED CARD OF 'binnaclelaw05.SumBounds'. -/
def sumBoundsCard : Claim7 := { stood := { row := sumBoundsRow, standIns := [], harness := (true, "47e59b668bcb0990d19ffa817c81b8fa425e2d48111d2363d61017140d577d27"), looks := false }, kinds := [], alts := [], laidByText := true, laidKinds := [.data, .data], laidTests := true, laidLooks := .later }
def SumBoundsCardSaid : Prop := Claim7.holds Tryz.pinned (.plain (OpenSpec.ofChange sumBoundsSpec)) sumBoundsCard

/-- THE SECOND FORM's CARD OF 'binnaclelaw05.SumWays'. -/
def sumWaysUptoCard : Claim7 := { stood := { row := sumWaysUptoRow, standIns := [], harness := (true, "47e59b668bcb0990d19ffa817c81b8fa425e2d48111d2363d61017140d577d27"), looks := false }, kinds := [], alts := [], laidByText := true, laidKinds := [.data, .data], laidTests := true, laidLooks := .later }
def SumWaysUptoCardSaid : Prop := Claim7.holds Tryz.pinned (.plain (OpenSpec.upto sumWaysSpec)) sumWaysUptoCard

/-- THE SECOND FORM's CARD OF 'binnaclelaw05.SumOff'. -/
def sumOffUptoCard : Claim7 := { stood := { row := sumOffUptoRow, standIns := [], harness := (true, "47e59b668bcb0990d19ffa817c81b8fa425e2d48111d2363d61017140d577d27"), looks := false }, kinds := [], alts := [], laidByText := true, laidKinds := [.data, .data], laidTests := true, laidLooks := .later }
def SumOffUptoCardSaid : Prop := Claim7.holds Tryz.pinned (.plain (OpenSpec.upto sumOffSpec)) sumOffUptoCard

/-- THE SECOND FORM's CARD OF 'binnaclelaw05.SumMeans'. -/
def sumMeansUptoCard : Claim7 := { stood := { row := sumMeansUptoRow, standIns := [], harness := (true, "47e59b668bcb0990d19ffa817c81b8fa425e2d48111d2363d61017140d577d27"), looks := false }, kinds := [], alts := [], laidByText := true, laidKinds := [.data, .data], laidTests := true, laidLooks := .later }
def SumMeansUptoCardSaid : Prop := Claim7.holds Tryz.pinned (.plain (OpenSpec.upto sumMeansSpec)) sumMeansUptoCard

/-- THE SECOND FORM's CARD OF 'binnaclelaw05.SumBounds'. -/
def sumBoundsUptoCard : Claim7 := { stood := { row := sumBoundsUptoRow, standIns := [], harness := (true, "47e59b668bcb0990d19ffa817c81b8fa425e2d48111d2363d61017140d577d27"), looks := false }, kinds := [], alts := [], laidByText := true, laidKinds := [.data, .data], laidTests := true, laidLooks := .later }
def SumBoundsUptoCardSaid : Prop := Claim7.holds Tryz.pinned (.plain (OpenSpec.upto sumBoundsSpec)) sumBoundsUptoCard
end Rows
end Go.Proofs.YtehnkgonhgjeiaaGreatDoor
