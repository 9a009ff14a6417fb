
/- A region's many orders brought to one: what follows hangs on a relation alone. Blocks that are kept by allocs and calls. -/
import Derived.Test.YtfdphegiafccpabP2
namespace Go.Proofs.Ytfdphegiafccpab
open Go.RowKit Go.IntWalk

/-- R at a normal end, and no other end. -/
def AtEnd (R : Act → World → Prop) : Exit → Act → World → Prop
  | .normal, a, w => R a w
  | _, _, _ => False
theorem region_merge {P : Program} {id : Nat} {ops : Array Oper} {b : Bool} {Q : Exit → Act → World → Prop} {a : Act} {w : World} (R : Act → Act → World → Prop) (h : (Code.region id ops b).wp P (AtEnd (R a)) a w) (hR : ∀ a' w', R a a' w' → Q .normal a' w') : (Code.region id ops b).wp P Q a w := by
  refine Code.wp_mono (fun e a' w' hh => ?_) h
  cases e <;> first | exact hR _ _ hh | exact (hh : False).elim
/-- What follows told by a relation, hidden from the walk. -/
theorem region_merge2 {P : Program} {id : Nat} {ops : Array Oper} {b : Bool} {Q : Exit → Act → World → Prop} {a : Act} {w : World} (R : Act → Act → World → Prop) (h : Hid (∀ a' w', R a a' w' → Q .normal a' w') → (Code.region id ops b).wp P Q a w) (hR : ∀ a' w', R a a' w' → Q .normal a' w') : (Code.region id ops b).wp P Q a w := h hR
/-- All blocks of W are in W' as they were. -/
def KeepH (W W' : World) : Prop := W.heap.size ≤ W'.heap.size ∧ ∀ (n : Nat) (o : Obj), W.heap[n]? = some o → W'.heap[n]? = some o
theorem Below.keepH {W W' : World} (h : Below W.heap.size W W') : KeepH W W' := ⟨h.size, fun _ _ hn => (h.block _ (Array.getElem?_eq_some_iff.1 hn).1).trans hn⟩
theorem keepH {W W' : World} (h : KeepH W W') {n : Nat} {o : Obj} (hn : W.heap[n]? = some o) : W'.heap[n]? = some o := h.2 n o hn
theorem new_al {W : World} {o : Obj} {n : Nat} (h : n = W.heap.size) : (W.alloc o).heap[n]? = some o := by rw [h]; exact Array.getElem?_push_size
theorem keep_al {W : World} {o o' : Obj} {n : Nat} (h : W.heap[n]? = some o) : (W.alloc o').heap[n]? = some o := keepH (Below.keepH ((Below.refl W.heap.size W).alloc (Nat.le_refl _) o')) h
theorem keep_dr {W : World} {o : Obj} {n : Nat} (h : W.heap[n]? = some o) : W.drew.heap[n]? = some o := keepH (Below.keepH (Below.refl W.heap.size W).drew) h
theorem ne_blk {W : World} {o : Obj} {n m : Nat} (h : W.heap[n]? = some o) (hm : m = W.heap.size) : n ≠ m := by
  have := (Array.getElem?_eq_some_iff.1 h).1
  omega
/-- A take by hand, its place told. -/
theorem take_at {P : Program} {md : Region.Mode} {ops : Array Oper} {Q : Exit → Act → World → Prop} {S : World → Prop} (i d : Nat) (v : Value) {oi : Oper} {fuel : Nat} {listed : Array Bool} {a : Act} {w : World} (hi : ops[i]? = some oi) (hd : oi.dst = some d)
    (hs : Region.noSelect ops = true) (hf : Region.free md ops listed i = true) (hr : (Region.ready md ops listed).contains i = true)
    (hQ : ∀ c a w, Q (.panic c) (a.put (some d) v) w → Q (.panic c) a w) (hy : YieldsIf P ops S oi v a) (hS : S w)
    (h : wpAnyH P md ops Q S fuel (listed.setIfInBounds i true) (a.put (some d) v) w) : wpAnyH P md ops Q S (fuel + 1) listed a w :=
  wpAnyH_take hi hs hf hr (by rw [hd]; exact hQ) hy hS (by rw [hd]; exact h)
end Go.Proofs.Ytfdphegiafccpab
