/-
  DERIVED. GIVEN WITH THE SEED: THE CARDS: each row of YtijadahpddmhjaaGreatDoorRows.lean that lists a variable, with what it lists TIED to the program's text (the seventh form; the later family's looks); each row that meets fmt, with fmt's text TOLD by the authors' own Lean function (tested against real Go, not proved from fmt's source: count such statements apart). THE CARD IS WHAT COUNTS. Prove the row's statement (the work); the ties are given (YtijadahpddmhjaaGreatDoorTie.lean); close each card by the builder's one call (the guide's Derived/Test/ToyasCard.lean, 'card_holds'). Laid BY PROGRAM, IN A SANDBOX (cutbox-door.mjs). By AI agents, Wed Nov 11 2026. No macro, syntax, notation, axiom, sorry.
-/
import Derived.Test.YtijadahpddmhjaaGreatDoorRows
import GoSem.ClaimSeven
namespace Go.Proofs.YtijadahpddmhjaaGreatDoor
namespace Rows

/-- THE TIED CARD OF 'binnaclelaw04.EftTransforms'. -/
def eftTransformsCard : Claim7 := { stood := { row := eftTransformsRow, standIns := [], harness := (true, "db7ffa6a92a1840e917dc45ead396bd10d2b37db7c9678f9e5a55b8a566db5b4"), looks := false }, kinds := [], alts := [], laidByText := true, laidKinds := [.data, .data], laidTests := true, laidLooks := .later }
def EftTransformsCardSaid : Prop := Claim7.holds Tryz.pinned (.plain (OpenSpec.ofChange eftTransformsSpec)) eftTransformsCard

/-- THE TIED CARD OF 'binnaclelaw04.EftProducts'. -/
def eftProductsCard : Claim7 := { stood := { row := eftProductsRow, standIns := [], harness := (true, "db7ffa6a92a1840e917dc45ead396bd10d2b37db7c9678f9e5a55b8a566db5b4"), looks := false }, kinds := [], alts := [], laidByText := true, laidKinds := [.data, .data], laidTests := true, laidLooks := .later }
def EftProductsCardSaid : Prop := Claim7.holds Tryz.pinned (.plain (OpenSpec.ofChange eftProductsSpec)) eftProductsCard

/-- THE SECOND FORM's CARD OF 'binnaclelaw04.EftTransforms'. -/
def eftTransformsUptoCard : Claim7 := { stood := { row := eftTransformsUptoRow, standIns := [], harness := (true, "db7ffa6a92a1840e917dc45ead396bd10d2b37db7c9678f9e5a55b8a566db5b4"), looks := false }, kinds := [], alts := [], laidByText := true, laidKinds := [.data, .data], laidTests := true, laidLooks := .later }
def EftTransformsUptoCardSaid : Prop := Claim7.holds Tryz.pinned (.plain (OpenSpec.upto eftTransformsSpec)) eftTransformsUptoCard

/-- THE SECOND FORM's CARD OF 'binnaclelaw04.EftProducts'. -/
def eftProductsUptoCard : Claim7 := { stood := { row := eftProductsUptoRow, standIns := [], harness := (true, "db7ffa6a92a1840e917dc45ead396bd10d2b37db7c9678f9e5a55b8a566db5b4"), looks := false }, kinds := [], alts := [], laidByText := true, laidKinds := [.data, .data], laidTests := true, laidLooks := .later }
def EftProductsUptoCardSaid : Prop := Claim7.holds Tryz.pinned (.plain (OpenSpec.upto eftProductsSpec)) eftProductsUptoCard
end Rows
end Go.Proofs.YtijadahpddmhjaaGreatDoor
