/-
  DERIVED. GIVEN WITH THE SEED: THE CARDS: each row of YtpncignipghicaaDoorRows.lean that lists a variable, with what it lists TIED to the program's text (the seventh form; the later family's looks); each row that meets fmt, with fmt's text TOLD by the authors' own Lean function (tested against real Go, not proved from fmt's source: count such statements apart). THE CARD IS WHAT COUNTS. Prove the row's statement (the work); the ties are given (YtpncignipghicaaDoorTie.lean); close each card by the builder's one call (the guide's Derived/Test/ToyasCard.lean, 'card_holds'). Laid BY PROGRAM, IN A SANDBOX (cutbox-door.mjs). By AI agents, Wed Nov 11 2026. No macro, syntax, notation, axiom, sorry.
-/
import Derived.Test.YtpncignipghicaaDoorRows
import GoSem.ClaimSeven
namespace Go.Proofs.YtpncignipghicaaDoor
namespace Rows

/-- THE TIED CARD OF 'binnaclelaw03.DyadRing'. -/
def dyadRingCard : Claim7 := { stood := { row := dyadRingRow, standIns := [], harness := (true, "03c1add7f3c1617474199218daecfc8a03c7e5e6027b4883f638aaabe21e3c22"), looks := false }, kinds := [], alts := [], laidByText := true, laidKinds := [.data, .data], laidTests := true, laidLooks := .later }
def DyadRingCardSaid : Prop := Claim7.holds Tryd.pinned (.plain (OpenSpec.ofChange dyadRingSpec)) dyadRingCard

/-- THE TIED CARD OF 'binnaclelaw03.DyadFresh'. -/
def dyadFreshCard : Claim7 := { stood := { row := dyadFreshRow, standIns := [], harness := (true, "03c1add7f3c1617474199218daecfc8a03c7e5e6027b4883f638aaabe21e3c22"), looks := false }, kinds := [], alts := [], laidByText := true, laidKinds := [.data, .data], laidTests := true, laidLooks := .later }
def DyadFreshCardSaid : Prop := Claim7.holds Tryd.pinned (.plain (OpenSpec.ofChange dyadFreshSpec)) dyadFreshCard

/-- THE TIED CARD OF 'binnaclelaw03.DyadOnce'. -/
def dyadOnceCard : Claim7 := { stood := { row := dyadOnceRow, standIns := [], harness := (true, "03c1add7f3c1617474199218daecfc8a03c7e5e6027b4883f638aaabe21e3c22"), looks := false }, kinds := [], alts := [], laidByText := true, laidKinds := [.data, .data], laidTests := true, laidLooks := .later }
def DyadOnceCardSaid : Prop := Claim7.holds Tryd.pinned (.plain (OpenSpec.ofChange dyadOnceSpec)) dyadOnceCard

/-- THE TIED CARD OF 'binnaclelaw03.DyadMakes'. -/
def dyadMakesCard : Claim7 := { stood := { row := dyadMakesRow, standIns := [], harness := (true, "03c1add7f3c1617474199218daecfc8a03c7e5e6027b4883f638aaabe21e3c22"), looks := false }, kinds := [], alts := [], laidByText := true, laidKinds := [.data, .data], laidTests := true, laidLooks := .later }
def DyadMakesCardSaid : Prop := Claim7.holds Tryd.pinned (.plain (OpenSpec.ofChange dyadMakesSpec)) dyadMakesCard

/-- THE TIED CARD OF 'binnaclelaw03.DyadReckons'. -/
def dyadReckonsCard : Claim7 := { stood := { row := dyadReckonsRow, standIns := [], harness := (true, "03c1add7f3c1617474199218daecfc8a03c7e5e6027b4883f638aaabe21e3c22"), looks := false }, kinds := [], alts := [], laidByText := true, laidKinds := [.data, .data], laidTests := true, laidLooks := .later }
def DyadReckonsCardSaid : Prop := Claim7.holds Tryd.pinned (.plain (OpenSpec.ofChange dyadReckonsSpec)) dyadReckonsCard

/-- THE TIED CARD OF 'binnaclelaw03.DyadRises'. -/
def dyadRisesCard : Claim7 := { stood := { row := dyadRisesRow, standIns := [], harness := (true, "03c1add7f3c1617474199218daecfc8a03c7e5e6027b4883f638aaabe21e3c22"), looks := false }, kinds := [], alts := [], laidByText := true, laidKinds := [.data, .data], laidTests := true, laidLooks := .later }
def DyadRisesCardSaid : Prop := Claim7.holds Tryd.pinned (.plain (OpenSpec.ofChange dyadRisesSpec)) dyadRisesCard

/-- THE SECOND FORM's CARD OF 'binnaclelaw03.DyadRing'. -/
def dyadRingUptoCard : Claim7 := { stood := { row := dyadRingUptoRow, standIns := [], harness := (true, "03c1add7f3c1617474199218daecfc8a03c7e5e6027b4883f638aaabe21e3c22"), looks := false }, kinds := [], alts := [], laidByText := true, laidKinds := [.data, .data], laidTests := true, laidLooks := .later }
def DyadRingUptoCardSaid : Prop := Claim7.holds Tryd.pinned (.plain (OpenSpec.upto dyadRingSpec)) dyadRingUptoCard

/-- THE SECOND FORM's CARD OF 'binnaclelaw03.DyadFresh'. -/
def dyadFreshUptoCard : Claim7 := { stood := { row := dyadFreshUptoRow, standIns := [], harness := (true, "03c1add7f3c1617474199218daecfc8a03c7e5e6027b4883f638aaabe21e3c22"), looks := false }, kinds := [], alts := [], laidByText := true, laidKinds := [.data, .data], laidTests := true, laidLooks := .later }
def DyadFreshUptoCardSaid : Prop := Claim7.holds Tryd.pinned (.plain (OpenSpec.upto dyadFreshSpec)) dyadFreshUptoCard

/-- THE SECOND FORM's CARD OF 'binnaclelaw03.DyadOnce'. -/
def dyadOnceUptoCard : Claim7 := { stood := { row := dyadOnceUptoRow, standIns := [], harness := (true, "03c1add7f3c1617474199218daecfc8a03c7e5e6027b4883f638aaabe21e3c22"), looks := false }, kinds := [], alts := [], laidByText := true, laidKinds := [.data, .data], laidTests := true, laidLooks := .later }
def DyadOnceUptoCardSaid : Prop := Claim7.holds Tryd.pinned (.plain (OpenSpec.upto dyadOnceSpec)) dyadOnceUptoCard

/-- THE SECOND FORM's CARD OF 'binnaclelaw03.DyadMakes'. -/
def dyadMakesUptoCard : Claim7 := { stood := { row := dyadMakesUptoRow, standIns := [], harness := (true, "03c1add7f3c1617474199218daecfc8a03c7e5e6027b4883f638aaabe21e3c22"), looks := false }, kinds := [], alts := [], laidByText := true, laidKinds := [.data, .data], laidTests := true, laidLooks := .later }
def DyadMakesUptoCardSaid : Prop := Claim7.holds Tryd.pinned (.plain (OpenSpec.upto dyadMakesSpec)) dyadMakesUptoCard

/-- THE SECOND FORM's CARD OF 'binnaclelaw03.DyadReckons'. -/
def dyadReckonsUptoCard : Claim7 := { stood := { row := dyadReckonsUptoRow, standIns := [], harness := (true, "03c1add7f3c1617474199218daecfc8a03c7e5e6027b4883f638aaabe21e3c22"), looks := false }, kinds := [], alts := [], laidByText := true, laidKinds := [.data, .data], laidTests := true, laidLooks := .later }
def DyadReckonsUptoCardSaid : Prop := Claim7.holds Tryd.pinned (.plain (OpenSpec.upto dyadReckonsSpec)) dyadReckonsUptoCard

/-- THE SECOND FORM's CARD OF 'binnaclelaw03.DyadRises'. -/
def dyadRisesUptoCard : Claim7 := { stood := { row := dyadRisesUptoRow, standIns := [], harness := (true, "03c1add7f3c1617474199218daecfc8a03c7e5e6027b4883f638aaabe21e3c22"), looks := false }, kinds := [], alts := [], laidByText := true, laidKinds := [.data, .data], laidTests := true, laidLooks := .later }
def DyadRisesUptoCardSaid : Prop := Claim7.holds Tryd.pinned (.plain (OpenSpec.upto dyadRisesSpec)) dyadRisesUptoCard
end Rows
end Go.Proofs.YtpncignipghicaaDoor
