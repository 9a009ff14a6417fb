
/- The document's Of64: the numbers of bits, in memory of its own. -/
import Derived.Test.YtggiklghcnojiaaP9
import Derived.Test.YtggiklghcnojiaaP10
namespace Go.Proofs.Ytggiklghcnojiaa
open Go.RowKit Go.IntWalk

theorem U64At.below {W W' : World} {sa : Option Addr} {n : Nat} {xs : List Nat} (h : U64At W sa n xs) (hb : Below W.heap.size W W') : U64At W' sa n xs := by
  refine ⟨h.1, h.2.1, fun hn => ?_⟩
  obtain ⟨b, off, h1, h2, h3⟩ := h.2.2 hn
  exact ⟨b, off, h1, Nat.lt_of_lt_of_le h2 hb.size, fun i hi => by rw [hb.cell (p := ⟨b, off + i, none⟩) h2]; exact h3 i hi⟩
theorem take_next (xs : List Nat) (k : Nat) (h : k < xs.length) : xs.take (k + 1) = xs.take k ++ [xs.getD k 0] := by
  rw [List.take_add_one, List.getD_eq_getElem?_getD, List.getElem?_eq_getElem h]
  rfl
end Go.Proofs.Ytggiklghcnojiaa
