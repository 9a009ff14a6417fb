
/- What the document's Lsh does. -/
import Derived.Test.YtfdphegiafccpaaP8
import Derived.Deep.RegionHeld3
namespace Go.Proofs.Ytfdphegiafccpaa
open Go.RowKit Go.IntWalk

/-- What a function of magnitudes answers: words of a value, that need no cutting. -/
def MagOk (v bound : Nat) (r : Ending) (w' : World) : Prop := ∃ (L' : List Nat) (a' : Option Addr) (cap' : Nat), r = .returned (.slice a' L'.length cap') ∧ L'.length ≤ cap' ∧ L'.length ≤ bound ∧ MagAt w' a' L' ∧ DigL L' ∧ CanL L' ∧ natL L' = v
theorem MagOk.nil (bound : Nat) (w : World) (a : Option Addr) (cap : Nat) : MagOk 0 bound (.returned (.slice a 0 cap)) w :=
  ⟨[], a, cap, rfl, Nat.zero_le _, Nat.zero_le _, fun _ hi => absurd hi (Nat.not_lt_zero _), fun _ hd => absurd hd List.not_mem_nil, fun h => absurd rfl h, rfl⟩
set_option maxHeartbeats 400000 in
theorem left_nil (cap : Nat) (a : Option Addr) (N : Int) (w : World) :
    Calls Try.prog 53 #[.slice a 0 cap, .int .u64 N] w fun r w' => r = .returned (.slice none 0 0) ∧ w' = w := by
  go_enter Try.func53, Try.ntmps53
  go_wp2
  go_ret
  exact ⟨rfl, rfl⟩
theorem left_any (L : List Nat) (a : Option Addr) (cap q s : Nat) (w : World) (hm : MagAt w a L) (hs : s < 32) (hq : q ≤ 1000000) (hn : L.length ≤ 1000000) (hD : DigL L) :
    Calls Try.prog 53 #[.slice a L.length cap, .int .u64 ((32 * q + s : Nat) : Int)] w fun r w' => MagOk (natL L * 2 ^ (32 * q + s)) (q + L.length + 1) r w' ∧ Below w.heap.size w w' := by
  by_cases h0 : L.length = 0
  · have hl : L = [] := List.length_eq_zero_iff.1 h0
    subst hl
    refine (left_nil cap a _ w).mono ?_
    rintro r w' ⟨rfl, rfl⟩
    refine ⟨?_, Below.refl _ _⟩
    rw [show natL [] * 2 ^ (32 * q + s) = 0 from Nat.zero_mul _]
    exact MagOk.nil _ _ _ _
  · obtain ⟨b, off, rfl, hb, _⟩ := hm 0 (by omega)
    refine (left_loop L b off cap q s w hb (fun i hi => ?_) h0 hs hq hn hD).mono ?_
    · obtain ⟨b', off', e, _, hc⟩ := hm i hi
      cases e
      exact hc
    · rintro r w' ⟨⟨L', rfl, h1, h2, h3, h4, h5⟩, hb⟩
      exact ⟨⟨L', _, _, rfl, h1, h1, h2, h3, h4, h5⟩, hb⟩
/-- All is as it was but z, which is a whole number's block still. -/
def ZOk (z : Nat) (w w' : World) : Prop := But z w w' ∧ ∃ neg0 a0 n0 cap0, w'.heap[z]? = some (.cells #[.bool neg0, .slice a0 n0 cap0] 53)
theorem ZOk.below {z : Nat} {w w1 w2 : World} (h : ZOk z w w1) (hb : Below w1.heap.size w1 w2) : ZOk z w w2 := by
  obtain ⟨h1, a, b, c, d, h2⟩ := h
  exact ⟨h1.trans (But.of_below hb), a, b, c, d, by rw [hb.block z (int_cells h2).2.2.2]; exact h2⟩
theorem ZOk.drew {z : Nat} {w w1 : World} (h : ZOk z w w1) : ZOk z w w1.drew := h.below (Below.refl _ _).drew
theorem ZOk.big {z : Nat} {w w1 w2 : World} {neg : Bool} {L : List Nat} (_ : ZOk z w w1) (hb : But z w w2) (h2 : BigAt w2 z neg L) : ZOk z w w2 := by
  obtain ⟨a, cap, ho, _⟩ := h2
  exact ⟨hb, _, _, _, _, ho⟩
theorem But.cell {z : Nat} {w w' : World} (h : But z w w') {x o : Nat} {v : Value} (hc : w.cell? ⟨x, o, none⟩ = some v) (hx : x ≠ z) : w'.cell? ⟨x, o, none⟩ = some v := by
  rw [← hc]
  exact World.cell?_of_block (h.block x (World.block_lt_of_cell? w _ hc) hx)
/-- What a function of magnitudes has answered, its value taken apart. -/
def MagIs (v bound : Nat) (L' : List Nat) (a' : Option Addr) (cap' : Nat) (w' : World) : Prop := L'.length ≤ cap' ∧ L'.length ≤ bound ∧ MagAt w' a' L' ∧ DigL L' ∧ CanL L' ∧ natL L' = v
theorem put_is (z : Nat) (neg : Bool) (v bound : Nat) (w w1 : World) (L' : List Nat) (a' : Option Addr) (cap' : Nat) (hz : ZOk z w w1) (hM : MagIs v bound L' a' cap' w1) (hbd : bound ≤ 1099511627776) :
    Calls Try.prog 37 #[.pointer (some ⟨z, 0, none⟩), .bool neg, .slice a' L'.length cap'] w1 fun r w' => r = .returned (.pointer (some ⟨z, 0, none⟩)) ∧ ∃ L', natL L' = v ∧ L'.length ≤ bound ∧ BigAt w' z (neg && decide (v ≠ 0)) L' ∧ But z w w' := by
  obtain ⟨h1, h2, h3, h4, h5, h6⟩ := hM
  obtain ⟨hb, neg0, a0, n0, cap0, ho⟩ := hz
  have := put_any z neg neg0 a' a0 n0 cap' cap0 L' w1 ho h3 h4 h1 (by omega)
  refine this.mono ?_
  rintro r w' ⟨rfl, M, e1, e2, e3, e4⟩
  exact ⟨rfl, M, e1.trans h6, by omega, by rw [← h6]; exact e3, hb.trans e4⟩
/-- What a method leaves: z holds that number, all else is as it was. -/
def PutIs (z : Nat) (neg : Bool) (v bound : Nat) (w w' : World) : Prop := ∃ L', natL L' = v ∧ L'.length ≤ bound ∧ BigAt w' z neg L' ∧ But z w w'
end Go.Proofs.Ytfdphegiafccpaa
