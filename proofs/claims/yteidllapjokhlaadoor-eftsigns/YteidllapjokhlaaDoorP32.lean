
/- What dyad's aligned does: both magnitudes by one exponent. -/
import Derived.Test.YteidllapjokhlaaDoorP31
namespace Go.Proofs.YteidllapjokhlaaDoor
open Go.RowKit Go.IntWalk

/-- A dyad in a block of its own. -/
def DyBox (neg : Bool) (a : Option Addr) (n cap : Nat) (e : Int) : Obj := .cells #[.bool neg, .slice a n cap, .int .i64 e] 57
def AlW (w : World) (n1 n2 : Bool) (a1 a2 : Option Addr) (l1 l2 c1 c2 : Nat) (e1 e2 : Int) : World := (w.alloc (DyBox n1 a1 l1 c1 e1)).alloc (DyBox n2 a2 l2 c2 e2)
def DCells (W : World) (b : Nat) (neg : Bool) (a : Option Addr) (n cap : Nat) (e : Int) : Prop := W.cell? ⟨b, 0, none⟩ = some (.bool neg) ∧ W.cell? ⟨b, 1, none⟩ = some (.slice a n cap) ∧ W.cell? ⟨b, 2, none⟩ = some (.int .i64 e)
theorem dcells_of {W : World} {b : Nat} {neg : Bool} {a : Option Addr} {n cap : Nat} {e : Int} (h : W.heap[b]? = some (DyBox neg a n cap e)) : DCells W b neg a n cap e :=
  ⟨by simp [World.cell?, h, DyBox], by simp [World.cell?, h, DyBox], by simp [World.cell?, h, DyBox]⟩
theorem new_blk (w : World) (o : Obj) (k : Nat) (hk : k = w.heap.size) : (w.alloc o).heap[k]? = some o := by
  rw [hk]
  exact Array.getElem?_push_size
theorem AlW.size (w : World) (n1 n2 : Bool) (a1 a2 : Option Addr) (l1 l2 c1 c2 : Nat) (e1 e2 : Int) : (AlW w n1 n2 a1 a2 l1 l2 c1 c2 e1 e2).heap.size = w.heap.size + 2 := by unfold AlW; simp
theorem AlW.below (w : World) (n1 n2 : Bool) (a1 a2 : Option Addr) (l1 l2 c1 c2 : Nat) (e1 e2 : Int) : Below w.heap.size w (AlW w n1 n2 a1 a2 l1 l2 c1 c2 e1 e2) := ((Below.refl _ _).alloc (Nat.le_refl _) _).alloc (by simp) _
theorem AlW.cells (w : World) (n1 n2 : Bool) (a1 a2 : Option Addr) (l1 l2 c1 c2 : Nat) (e1 e2 : Int) : (AlW w n1 n2 a1 a2 l1 l2 c1 c2 e1 e2).heap[w.heap.size]? = some (DyBox n1 a1 l1 c1 e1) ∧ (AlW w n1 n2 a1 a2 l1 l2 c1 c2 e1 e2).heap[w.heap.size + 1]? = some (DyBox n2 a2 l2 c2 e2) := by
  unfold AlW
  refine ⟨?_, new_blk _ _ _ (by simp)⟩
  rw [((Below.refl _ (w.alloc (DyBox n1 a1 l1 c1 e1))).alloc (Nat.le_refl _) _).block w.heap.size (by simp)]
  exact new_blk w _ _ rfl
/-- What stays while both are shifted. -/
def AlFr (w : World) (n1 n2 : Bool) (a1 a2 : Option Addr) (l1 l2 c1 c2 : Nat) (e1 e2 : Int) (W : World) : Prop := Below (w.heap.size + 2) (AlW w n1 n2 a1 a2 l1 l2 c1 c2 e1 e2) W
theorem AlFr.all {w : World} {n1 n2 : Bool} {a1 a2 : Option Addr} {l1 l2 c1 c2 : Nat} {e1 e2 : Int} {W : World} (h : AlFr w n1 n2 a1 a2 l1 l2 c1 c2 e1 e2 W) : DCells W w.heap.size n1 a1 l1 c1 e1 ∧ DCells W (w.heap.size + 1) n2 a2 l2 c2 e2 ∧ Below w.heap.size w W ∧ w.heap.size + 2 ≤ W.heap.size := by
  obtain ⟨a, b⟩ := AlW.cells w n1 n2 a1 a2 l1 l2 c1 c2 e1 e2
  have hs := h.size
  rw [AlW.size] at hs
  exact ⟨dcells_of ((h.block _ (by omega)).trans a), dcells_of ((h.block _ (by omega)).trans b), (AlW.below w n1 n2 a1 a2 l1 l2 c1 c2 e1 e2).trans (h.mono (by omega)), hs⟩
theorem AlFr.call {w : World} {n1 n2 : Bool} {a1 a2 : Option Addr} {l1 l2 c1 c2 : Nat} {e1 e2 : Int} {W W' : World} (h : AlFr w n1 n2 a1 a2 l1 l2 c1 c2 e1 e2 W) (hb : Below W.heap.size W W') : AlFr w n1 n2 a1 a2 l1 l2 c1 c2 e1 e2 W' := h.trans (hb.mono h.all.2.2.2)
end Go.Proofs.YteidllapjokhlaaDoor

namespace Go.Proofs.YteidllapjokhlaaDoor
open Go.RowKit Go.IntWalk

theorem mag_ne3 {w : World} {z : Nat} {x : Bool} {a a' : Option Addr} {n c : Nat} {e : Int} {T : TypeId} {L : List Nat} (h : w.heap[z]? = some (.cells #[.bool x, .slice a' n c, .int .i64 e] T)) (hm : MagAt w a L) : ∀ b off, a = some ⟨b, off, none⟩ → L.length ≠ 0 → b ≠ z := by
  intro b off ha h0 hz
  obtain ⟨b', off', e1, _, hc⟩ := hm 0 (by omega)
  rw [ha] at e1
  cases e1
  subst hz
  rw [Nat.add_zero] at hc
  simp only [World.cell?, h] at hc
  rcases (show off = 0 ∨ off = 1 ∨ off = 2 ∨ 3 ≤ off by omega) with rfl | rfl | rfl | h3
  · simp at hc
  · simp at hc
  · simp at hc
  · rw [Array.getElem?_eq_none (by simpa using h3)] at hc
    simp at hc
/-- written, while an answer is made. -/
theorem written_res (z : Nat) (w W1 W : World) (neg : Bool) (v bd : Nat) (LS : List Nat) (a : Option Addr) (cap : Nat) (e : Int) (hW : Res z W1 W) (h1 : Below w.heap.size w W1) (hz1 : w.heap.size ≤ z) (hT : Tab32 w) (hs : 1 < w.heap.size) (hM : MagIs v bd LS a cap W) (hbd : bd ≤ 2048) (he1 : -100000 ≤ e) (he2 : e + 32 * bd ≤ 99900) :
    Calls Tryd.prog 78 #[.bool neg, .slice a LS.length cap, .int .i64 e] W fun r w' => ∃ neg' a' n' cap' e' v0 v1 v2, r = .returned (.tuple #[.agg #[.bool neg', .slice a' n' cap', .int .i64 e'], .int .i64 0]) ∧ Hid (DyRet (sgnN neg v) e (z + 1) neg' a' n' cap' e' w') ∧ Hid (Res z W1 w') ∧ (∀ o, w'.frozen? ⟨z, o, none⟩ = false) ∧ w'.cell? ⟨z, 0, none⟩ = some v0 ∧ w'.cell? ⟨z, 1, none⟩ = some v1 ∧ w'.cell? ⟨z, 2, none⟩ = some v2 := by
  obtain ⟨m1, m2, m3, m4, m5, m6⟩ := hM
  have hbW : Below w.heap.size w W := h1.trans (hW.but.below h1.size hz1)
  have hzW := hW.facts.2.1
  have e1 : intL neg LS = sgnN neg v := by unfold intL sgnN; rw [m6]
  have := written_any neg LS a cap e W m3 m4 m5 m1 (by omega) he1 (by omega) (hT.below hs hbW) (Nat.lt_of_lt_of_le hs hbW.size)
  rw [e1] at this
  refine this.mono ?_
  rintro r w' ⟨ho, hb⟩
  obtain ⟨neg', a', n', cap', e', rfl, hr⟩ := ho.ret
  have hres := hW.call hb
  obtain ⟨f1, _, v0, v1, v2, f2, f3, f4⟩ := hres.facts
  exact ⟨neg', a', n', cap', e', v0, v1, v2, rfl, DyOut.but hr (But.refl z _) (by omega) (by omega), hres, f1, f2, f3, f4⟩
theorem MagIs.but {v bd : Nat} {L : List Nat} {a : Option Addr} {cap z : Nat} {W W' : World} (h : MagIs v bd L a cap W) (hb : But z W W') (hz : ∀ b off, a = some ⟨b, off, none⟩ → L.length ≠ 0 → b ≠ z) : MagIs v bd L a cap W' := ⟨h.1, h.2.1, h.2.2.1.but hb hz, h.2.2.2⟩
/-- The answer's end. -/
theorem res_end {z : Nat} {w W1 w3 : World} {Z e e' : Int} {neg : Bool} {a : Option Addr} {n cap : Nat} (h1 : Below w.heap.size w W1) (hz1 : w.heap.size ≤ z) (hr : Hid (DyRet Z e (z + 1) neg a n cap e' w3)) (hf : Hid (Res z W1 w3)) : DyOut Z e w.heap.size (.returned (.tuple #[.agg #[.bool neg, .slice a n cap, .int .i64 e'], .int .i64 0])) (((w3.setCell ⟨z, 0, none⟩ (.bool neg)).setCell ⟨z, 1, none⟩ (.slice a n cap)).setCell ⟨z, 2, none⟩ (.int .i64 e')) ∧ Below w.heap.size w (((w3.setCell ⟨z, 0, none⟩ (.bool neg)).setCell ⟨z, 1, none⟩ (.slice a n cap)).setCell ⟨z, 2, none⟩ (.int .i64 e')) :=
  ⟨DyOut.but hr.out (But.setCell (But.setCell (But.setCell (But.refl _ _) 0 _) 1 _) 2 _) (Nat.lt_succ_self _) (by omega), h1.trans ((res_store hf _ _ _).out.but.below h1.size hz1)⟩
theorem sgn_add (n : Bool) (a b : Nat) : sgnN n (a + b) = sgnN n a + sgnN n b := by unfold sgnN; cases n <;> simp <;> omega
theorem sgn_sub (n : Bool) (a b : Nat) (h : b ≤ a) : sgnN n (a - b) = sgnN n a + sgnN (!n) b := by unfold sgnN; cases n <;> simp <;> omega
theorem sgn_mul (n : Bool) (L : List Nat) (i : Nat) : sgnN n (natL L * 2 ^ i) = intL n L * 2 ^ i := by
  unfold sgnN intL
  cases n
  · rw [if_neg (by decide), if_neg (by decide), Int.natCast_mul, Int.natCast_pow]; rfl
  · rw [if_pos rfl, if_pos rfl, Int.natCast_mul, Int.natCast_pow, Int.neg_mul]; rfl
/-- The two numbers and the answer's place. -/
def AdW (w : World) (n1 n2 : Bool) (a1 a2 : Option Addr) (l1 l2 c1 c2 : Nat) (e1 e2 : Int) : World := (AlW w n1 n2 a1 a2 l1 l2 c1 c2 e1 e2).alloc (DyBox false none 0 0 0)
theorem AdW.facts (w : World) (n1 n2 : Bool) (a1 a2 : Option Addr) (l1 l2 c1 c2 : Nat) (e1 e2 : Int) : (AdW w n1 n2 a1 a2 l1 l2 c1 c2 e1 e2).heap.size = w.heap.size + 3 ∧ Below w.heap.size w (AdW w n1 n2 a1 a2 l1 l2 c1 c2 e1 e2) ∧ (AdW w n1 n2 a1 a2 l1 l2 c1 c2 e1 e2).heap[w.heap.size]? = some (DyBox n1 a1 l1 c1 e1) ∧ (AdW w n1 n2 a1 a2 l1 l2 c1 c2 e1 e2).heap[w.heap.size + 1]? = some (DyBox n2 a2 l2 c2 e2) ∧ (AdW w n1 n2 a1 a2 l1 l2 c1 c2 e1 e2).heap[w.heap.size + 2]? = some (DyBox false none 0 0 0) := by
  obtain ⟨p, q⟩ := AlW.cells w n1 n2 a1 a2 l1 l2 c1 c2 e1 e2
  have hs := AlW.size w n1 n2 a1 a2 l1 l2 c1 c2 e1 e2
  have hb := (Below.refl _ (AlW w n1 n2 a1 a2 l1 l2 c1 c2 e1 e2)).alloc (Nat.le_refl _) (DyBox false none 0 0 0)
  unfold AdW
  refine ⟨by simp [hs], (AlW.below w n1 n2 a1 a2 l1 l2 c1 c2 e1 e2).alloc (by rw [hs]; omega) _, ?_, ?_, new_blk _ _ _ hs.symm⟩
  · rw [hb.block _ (by rw [hs]; omega)]; exact p
  · rw [hb.block _ (by rw [hs]; omega)]; exact q
end Go.Proofs.YteidllapjokhlaaDoor
