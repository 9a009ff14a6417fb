/-
  DERIVED. GIVEN WITH THE SEED: THE CARDS: each row of YtpjdmhidhllbkaaDoorRows.lean that lists a variable, with what it lists TIED to the program's text (the seventh form; the later family's looks); each row that meets fmt, with fmt's text TOLD by the authors' own Lean function (tested against real Go, not proved from fmt's source: count such statements apart). THE CARD IS WHAT COUNTS. Prove the row's statement (the work); the ties are given (YtpjdmhidhllbkaaDoorTie.lean); close each card by the builder's one call (the guide's Derived/Test/ToyasCard.lean, 'card_holds'). Laid BY PROGRAM, IN A SANDBOX (cutbox-door.mjs). By AI agents, Wed Nov 11 2026. No macro, syntax, notation, axiom, sorry.
-/
import Derived.Test.YtpjdmhidhllbkaaDoorRows
import GoSem.ClaimSeven
namespace Go.Proofs.YtpjdmhidhllbkaaDoor
namespace Rows

/-- THE TIED CARD OF 'binnaclelaw05.SumRunning'. -/
def sumRunningCard : Claim7 := { stood := { row := sumRunningRow, standIns := [], harness := (true, "99f991adae551df4ea57f78fdbbeaa5a5ba2dd716326fcfb74c6cbff026050c5"), looks := false }, kinds := [], alts := [], laidByText := true, laidKinds := [.data, .data], laidTests := true, laidLooks := .later }
def SumRunningCardSaid : Prop := Claim7.holds Tryd.pinned (.plain (OpenSpec.ofChange sumRunningSpec)) sumRunningCard

/-- THE TIED CARD OF 'binnaclelaw05.SumNoOrder'. -/
def sumNoOrderCard : Claim7 := { stood := { row := sumNoOrderRow, standIns := [], harness := (true, "99f991adae551df4ea57f78fdbbeaa5a5ba2dd716326fcfb74c6cbff026050c5"), looks := false }, kinds := [], alts := [], laidByText := true, laidKinds := [.data, .data], laidTests := true, laidLooks := .later }
def SumNoOrderCardSaid : Prop := Claim7.holds Tryd.pinned (.plain (OpenSpec.ofChange sumNoOrderSpec)) sumNoOrderCard

/-- THE SECOND FORM's CARD OF 'binnaclelaw05.SumRunning'. -/
def sumRunningUptoCard : Claim7 := { stood := { row := sumRunningUptoRow, standIns := [], harness := (true, "99f991adae551df4ea57f78fdbbeaa5a5ba2dd716326fcfb74c6cbff026050c5"), looks := false }, kinds := [], alts := [], laidByText := true, laidKinds := [.data, .data], laidTests := true, laidLooks := .later }
def SumRunningUptoCardSaid : Prop := Claim7.holds Tryd.pinned (.plain (OpenSpec.upto sumRunningSpec)) sumRunningUptoCard

/-- THE SECOND FORM's CARD OF 'binnaclelaw05.SumNoOrder'. -/
def sumNoOrderUptoCard : Claim7 := { stood := { row := sumNoOrderUptoRow, standIns := [], harness := (true, "99f991adae551df4ea57f78fdbbeaa5a5ba2dd716326fcfb74c6cbff026050c5"), looks := false }, kinds := [], alts := [], laidByText := true, laidKinds := [.data, .data], laidTests := true, laidLooks := .later }
def SumNoOrderUptoCardSaid : Prop := Claim7.holds Tryd.pinned (.plain (OpenSpec.upto sumNoOrderSpec)) sumNoOrderUptoCard
end Rows
end Go.Proofs.YtpjdmhidhllbkaaDoor
