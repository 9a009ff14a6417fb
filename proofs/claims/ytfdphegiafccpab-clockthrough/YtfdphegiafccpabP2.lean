
/- What the small calls of layer 1 do: math's bit views, Key, Compare, canon, Same. -/
import Derived.Test.YtfdphegiafccpabRows
import Derived.Test.YtfdphegiafccpabP1
import Derived.WalkKit
import Derived.WalkSpells
import Derived.WalkLawsBesides
import Derived.Deep.RegionHeld3
namespace Go.Proofs.Ytfdphegiafccpab
open Go.RowKit

theorem bcell {W w1 : World} (hb : Below W.heap.size W w1) : (∀ b o, b < W.heap.size → w1.cell? ⟨b, o, none⟩ = W.cell? ⟨b, o, none⟩) ∧ (∀ b o, b < W.heap.size → w1.frozen? ⟨b, o, none⟩ = W.frozen? ⟨b, o, none⟩) :=
  ⟨fun b o h => hb.cell (p := ⟨b, o, none⟩) h, fun b o h => hb.frozen (p := ⟨b, o, none⟩) h⟩

def cmpOf (a b : Int) : Int := if a < b then -1 else if b < a then 1 else 0
end Go.Proofs.Ytfdphegiafccpab
