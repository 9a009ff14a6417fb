
/- What dyad's aligned does: both magnitudes by one exponent. -/
import Derived.Test.YtijadahpddmhjaaGreatDoorP31
import Derived.Test.YtijadahpddmhjaaGreatDoorP6
namespace Go.Proofs.YtijadahpddmhjaaGreatDoor
open Go.RowKit Go.IntWalk

/-- A dyad in a block of its own. -/
def DyBox (neg : Bool) (a : Option Addr) (n cap : Nat) (e : Int) : Obj := .cells #[.bool neg, .slice a n cap, .int .i64 e] 86
def AlW (w : World) (n1 n2 : Bool) (a1 a2 : Option Addr) (l1 l2 c1 c2 : Nat) (e1 e2 : Int) : World := (w.alloc (DyBox n1 a1 l1 c1 e1)).alloc (DyBox n2 a2 l2 c2 e2)
def DCells (W : World) (b : Nat) (neg : Bool) (a : Option Addr) (n cap : Nat) (e : Int) : Prop := W.cell? ⟨b, 0, none⟩ = some (.bool neg) ∧ W.cell? ⟨b, 1, none⟩ = some (.slice a n cap) ∧ W.cell? ⟨b, 2, none⟩ = some (.int .i64 e)
theorem dcells_of {W : World} {b : Nat} {neg : Bool} {a : Option Addr} {n cap : Nat} {e : Int} (h : W.heap[b]? = some (DyBox neg a n cap e)) : DCells W b neg a n cap e :=
  ⟨by simp [World.cell?, h, DyBox], by simp [World.cell?, h, DyBox], by simp [World.cell?, h, DyBox]⟩
theorem new_blk (w : World) (o : Obj) (k : Nat) (hk : k = w.heap.size) : (w.alloc o).heap[k]? = some o := by
  rw [hk]
  exact Array.getElem?_push_size
theorem AlW.size (w : World) (n1 n2 : Bool) (a1 a2 : Option Addr) (l1 l2 c1 c2 : Nat) (e1 e2 : Int) : (AlW w n1 n2 a1 a2 l1 l2 c1 c2 e1 e2).heap.size = w.heap.size + 2 := by unfold AlW; simp
theorem AlW.below (w : World) (n1 n2 : Bool) (a1 a2 : Option Addr) (l1 l2 c1 c2 : Nat) (e1 e2 : Int) : Below w.heap.size w (AlW w n1 n2 a1 a2 l1 l2 c1 c2 e1 e2) := ((Below.refl _ _).alloc (Nat.le_refl _) _).alloc (by simp) _
theorem AlW.cells (w : World) (n1 n2 : Bool) (a1 a2 : Option Addr) (l1 l2 c1 c2 : Nat) (e1 e2 : Int) : (AlW w n1 n2 a1 a2 l1 l2 c1 c2 e1 e2).heap[w.heap.size]? = some (DyBox n1 a1 l1 c1 e1) ∧ (AlW w n1 n2 a1 a2 l1 l2 c1 c2 e1 e2).heap[w.heap.size + 1]? = some (DyBox n2 a2 l2 c2 e2) := by
  unfold AlW
  refine ⟨?_, new_blk _ _ _ (by simp)⟩
  rw [((Below.refl _ (w.alloc (DyBox n1 a1 l1 c1 e1))).alloc (Nat.le_refl _) _).block w.heap.size (by simp)]
  exact new_blk w _ _ rfl
/-- What stays while both are shifted. -/
def AlFr (w : World) (n1 n2 : Bool) (a1 a2 : Option Addr) (l1 l2 c1 c2 : Nat) (e1 e2 : Int) (W : World) : Prop := Below (w.heap.size + 2) (AlW w n1 n2 a1 a2 l1 l2 c1 c2 e1 e2) W
theorem AlFr.all {w : World} {n1 n2 : Bool} {a1 a2 : Option Addr} {l1 l2 c1 c2 : Nat} {e1 e2 : Int} {W : World} (h : AlFr w n1 n2 a1 a2 l1 l2 c1 c2 e1 e2 W) : DCells W w.heap.size n1 a1 l1 c1 e1 ∧ DCells W (w.heap.size + 1) n2 a2 l2 c2 e2 ∧ Below w.heap.size w W ∧ w.heap.size + 2 ≤ W.heap.size := by
  obtain ⟨a, b⟩ := AlW.cells w n1 n2 a1 a2 l1 l2 c1 c2 e1 e2
  have hs := h.size
  rw [AlW.size] at hs
  exact ⟨dcells_of ((h.block _ (by omega)).trans a), dcells_of ((h.block _ (by omega)).trans b), (AlW.below w n1 n2 a1 a2 l1 l2 c1 c2 e1 e2).trans (h.mono (by omega)), hs⟩
theorem AlFr.call {w : World} {n1 n2 : Bool} {a1 a2 : Option Addr} {l1 l2 c1 c2 : Nat} {e1 e2 : Int} {W W' : World} (h : AlFr w n1 n2 a1 a2 l1 l2 c1 c2 e1 e2 W) (hb : Below W.heap.size W W') : AlFr w n1 n2 a1 a2 l1 l2 c1 c2 e1 e2 W' := h.trans (hb.mono h.all.2.2.2)
end Go.Proofs.YtijadahpddmhjaaGreatDoor

namespace Go.Proofs.YtijadahpddmhjaaGreatDoor
open Go.RowKit Go.IntWalk

theorem mag_ne3 {w : World} {z : Nat} {x : Bool} {a a' : Option Addr} {n c : Nat} {e : Int} {T : TypeId} {L : List Nat} (h : w.heap[z]? = some (.cells #[.bool x, .slice a' n c, .int .i64 e] T)) (hm : MagAt w a L) : ∀ b off, a = some ⟨b, off, none⟩ → L.length ≠ 0 → b ≠ z := by
  intro b off ha h0 hz
  obtain ⟨b', off', e1, _, hc⟩ := hm 0 (by omega)
  rw [ha] at e1
  cases e1
  subst hz
  rw [Nat.add_zero] at hc
  simp only [World.cell?, h] at hc
  rcases (show off = 0 ∨ off = 1 ∨ off = 2 ∨ 3 ≤ off by omega) with rfl | rfl | rfl | h3
  · simp at hc
  · simp at hc
  · simp at hc
  · rw [Array.getElem?_eq_none (by simpa using h3)] at hc
    simp at hc
/-- written, while an answer is made. -/
theorem written_res (z : Nat) (w W1 W : World) (neg : Bool) (v bd : Nat) (LS : List Nat) (a : Option Addr) (cap : Nat) (e : Int) (hW : Res z W1 W) (h1 : Below w.heap.size w W1) (hz1 : w.heap.size ≤ z) (hT : Tab32 w) (hs : 1 < w.heap.size) (hM : MagIs v bd LS a cap W) (hbd : bd ≤ 2048) (he1 : -100000 ≤ e) (he2 : e + 32 * bd ≤ 99900) :
    Calls Tryz.prog 110 #[.bool neg, .slice a LS.length cap, .int .i64 e] W fun r w' => ∃ neg' a' n' cap' e' v0 v1 v2, r = .returned (.tuple #[.agg #[.bool neg', .slice a' n' cap', .int .i64 e'], .int .i64 0]) ∧ Hid (DyRet (sgnN neg v) e (z + 1) neg' a' n' cap' e' w') ∧ Hid (Res z W1 w') ∧ (∀ o, w'.frozen? ⟨z, o, none⟩ = false) ∧ w'.cell? ⟨z, 0, none⟩ = some v0 ∧ w'.cell? ⟨z, 1, none⟩ = some v1 ∧ w'.cell? ⟨z, 2, none⟩ = some v2 := by
  obtain ⟨m1, m2, m3, m4, m5, m6⟩ := hM
  have hbW : Below w.heap.size w W := h1.trans (hW.but.below h1.size hz1)
  have hzW := hW.facts.2.1
  have e1 : intL neg LS = sgnN neg v := by unfold intL sgnN; rw [m6]
  have := written_any neg LS a cap e W m3 m4 m5 m1 (by omega) he1 (by omega) (hT.below hs hbW) (Nat.lt_of_lt_of_le hs hbW.size)
  rw [e1] at this
  refine this.mono ?_
  rintro r w' ⟨ho, hb⟩
  obtain ⟨neg', a', n', cap', e', rfl, hr⟩ := ho.ret
  have hres := hW.call hb
  obtain ⟨f1, _, v0, v1, v2, f2, f3, f4⟩ := hres.facts
  exact ⟨neg', a', n', cap', e', v0, v1, v2, rfl, DyOut.but hr (But.refl z _) (by omega) (by omega), hres, f1, f2, f3, f4⟩
theorem MagIs.but {v bd : Nat} {L : List Nat} {a : Option Addr} {cap z : Nat} {W W' : World} (h : MagIs v bd L a cap W) (hb : But z W W') (hz : ∀ b off, a = some ⟨b, off, none⟩ → L.length ≠ 0 → b ≠ z) : MagIs v bd L a cap W' := ⟨h.1, h.2.1, h.2.2.1.but hb hz, h.2.2.2⟩
/-- The answer's end. -/
theorem res_end {z : Nat} {w W1 w3 : World} {Z e e' : Int} {neg : Bool} {a : Option Addr} {n cap : Nat} (h1 : Below w.heap.size w W1) (hz1 : w.heap.size ≤ z) (hr : Hid (DyRet Z e (z + 1) neg a n cap e' w3)) (hf : Hid (Res z W1 w3)) : DyOut Z e w.heap.size (.returned (.tuple #[.agg #[.bool neg, .slice a n cap, .int .i64 e'], .int .i64 0])) (((w3.setCell ⟨z, 0, none⟩ (.bool neg)).setCell ⟨z, 1, none⟩ (.slice a n cap)).setCell ⟨z, 2, none⟩ (.int .i64 e')) ∧ Below w.heap.size w (((w3.setCell ⟨z, 0, none⟩ (.bool neg)).setCell ⟨z, 1, none⟩ (.slice a n cap)).setCell ⟨z, 2, none⟩ (.int .i64 e')) :=
  ⟨DyOut.but hr.out (But.setCell (But.setCell (But.setCell (But.refl _ _) 0 _) 1 _) 2 _) (Nat.lt_succ_self _) (by omega), h1.trans ((res_store hf _ _ _).out.but.below h1.size hz1)⟩
theorem sgn_add (n : Bool) (a b : Nat) : sgnN n (a + b) = sgnN n a + sgnN n b := by unfold sgnN; cases n <;> simp <;> omega
theorem sgn_sub (n : Bool) (a b : Nat) (h : b ≤ a) : sgnN n (a - b) = sgnN n a + sgnN (!n) b := by unfold sgnN; cases n <;> simp <;> omega
theorem sgn_mul (n : Bool) (L : List Nat) (i : Nat) : sgnN n (natL L * 2 ^ i) = intL n L * 2 ^ i := by
  unfold sgnN intL
  cases n
  · rw [if_neg (by decide), if_neg (by decide), Int.natCast_mul, Int.natCast_pow]; rfl
  · rw [if_pos rfl, if_pos rfl, Int.natCast_mul, Int.natCast_pow, Int.neg_mul]; rfl
/-- The two numbers and the answer's place. -/
def AdW (w : World) (n1 n2 : Bool) (a1 a2 : Option Addr) (l1 l2 c1 c2 : Nat) (e1 e2 : Int) : World := (AlW w n1 n2 a1 a2 l1 l2 c1 c2 e1 e2).alloc (DyBox false none 0 0 0)
theorem AdW.facts (w : World) (n1 n2 : Bool) (a1 a2 : Option Addr) (l1 l2 c1 c2 : Nat) (e1 e2 : Int) : (AdW w n1 n2 a1 a2 l1 l2 c1 c2 e1 e2).heap.size = w.heap.size + 3 ∧ Below w.heap.size w (AdW w n1 n2 a1 a2 l1 l2 c1 c2 e1 e2) ∧ (AdW w n1 n2 a1 a2 l1 l2 c1 c2 e1 e2).heap[w.heap.size]? = some (DyBox n1 a1 l1 c1 e1) ∧ (AdW w n1 n2 a1 a2 l1 l2 c1 c2 e1 e2).heap[w.heap.size + 1]? = some (DyBox n2 a2 l2 c2 e2) ∧ (AdW w n1 n2 a1 a2 l1 l2 c1 c2 e1 e2).heap[w.heap.size + 2]? = some (DyBox false none 0 0 0) := by
  obtain ⟨p, q⟩ := AlW.cells w n1 n2 a1 a2 l1 l2 c1 c2 e1 e2
  have hs := AlW.size w n1 n2 a1 a2 l1 l2 c1 c2 e1 e2
  have hb := (Below.refl _ (AlW w n1 n2 a1 a2 l1 l2 c1 c2 e1 e2)).alloc (Nat.le_refl _) (DyBox false none 0 0 0)
  unfold AdW
  refine ⟨by simp [hs], (AlW.below w n1 n2 a1 a2 l1 l2 c1 c2 e1 e2).alloc (by rw [hs]; omega) _, ?_, ?_, new_blk _ _ _ hs.symm⟩
  · rw [hb.block _ (by rw [hs]; omega)]; exact p
  · rw [hb.block _ (by rw [hs]; omega)]; exact q
end Go.Proofs.YtijadahpddmhjaaGreatDoor

namespace Go.Proofs.YtijadahpddmhjaaGreatDoor
open Go.RowKit Go.IntWalk

/-- A dyad in memory, and the number z * 2^e that it stands for. -/
def DyAt (w : World) (neg : Bool) (a : Option Addr) (n cap : Nat) (e' z e : Int) : Prop := ∃ L, L.length = n ∧ n ≤ cap ∧ MagAt w a L ∧ DyV neg L e' z e ∧ DyMay neg L e'
theorem DyRet.at {Z e e' : Int} {B : Nat} {neg : Bool} {a : Option Addr} {n cap : Nat} {w : World} (h : DyRet Z e B neg a n cap e' w) : DyAt w neg a n cap e' Z e := by
  obtain ⟨neg1, L, a1, cap1, e1, h0, h1, h2, h3, h4, h5⟩ := h
  cases h0
  exact ⟨L, rfl, h1, h2, h3, h4⟩
theorem DyAt.below {w w' : World} {neg : Bool} {a : Option Addr} {n cap : Nat} {e' z e : Int} (h : DyAt w neg a n cap e' z e) (hb : Below w.heap.size w w') : DyAt w' neg a n cap e' z e := by
  obtain ⟨L, h1, h2, h3, h4, h5⟩ := h
  exact ⟨L, h1, h2, h3.below hb, h4, h5⟩
theorem DyAt.may {w : World} {neg : Bool} {a : Option Addr} {n cap : Nat} {e' z e : Int} (h : DyAt w neg a n cap e' z e) : Calls Tryz.prog 117 #[.agg #[.bool neg, .slice a n cap, .int .i64 e']] w fun r w' => r = .returned (.bool true) ∧ Below w.heap.size w w' := by
  obtain ⟨L, rfl, h2, h3, h4, h5⟩ := h
  exact May_yes neg L a cap e' w h3 h5
theorem DyV.conv {n : Bool} {L : List Nat} {e' S m T e : Int} {i j : Nat} (h : DyV n L e' S m) (h1 : S * 2 ^ i = T * 2 ^ j) (h2 : m - i = e - j) : DyV n L e' T e := by
  have := h.low i
  rw [h1, h2] at this
  have := this.high
  rwa [show e - (j : Int) + (j : Int) = e by omega] at this
theorem DyOut.conv {S m T e : Int} {B : Nat} {r : Ending} {w : World} {i j : Nat} (h : DyOut S m B r w) (h1 : S * 2 ^ i = T * 2 ^ j) (h2 : m - i = e - j) : DyOut T e B r w := by
  obtain ⟨neg, L, a, cap, e', rfl, g1, g2, g3, g4, g5⟩ := h
  exact ⟨neg, L, a, cap, e', rfl, g1, g2, g3.conv h1 h2, g4, g5⟩
theorem intL_abs (n : Bool) (L : List Nat) : (intL n L).natAbs = natL L := by unfold intL; cases n <;> simp
/-- How long a dyad's words are, and where its exponent lies. -/
theorem DyV.size {n : Bool} {L : List Nat} {e' z e : Int} {N : Nat} (h : DyV n L e' z e) (hz : z.natAbs < 2 ^ N) (hN : N ≤ 6400) (he1 : -3000 ≤ e) (he2 : e ≤ 3000) : L.length ≤ 201 ∧ -3000 ≤ e' ∧ e' ≤ 9400 := by
  have hc := h.2.1
  rcases h.val with ⟨z0, l0, m0, x0⟩ | ⟨l0, o0, z0, k, hk, hx⟩
  · rw [l0, x0]; exact ⟨by simp, by decide, by decide⟩
  · have ha : natL L * 2 ^ k = z.natAbs := by rw [← hk, Int.natAbs_mul, intL_abs, Int.natAbs_pow]; rfl
    have hn1 : 1 ≤ natL L := by omega
    have hp := Nat.two_pow_pos k
    have h1 : 2 ^ k ≤ z.natAbs := by rw [← ha]; exact Nat.le_mul_of_pos_left _ hn1
    have h2 : natL L ≤ z.natAbs := by rw [← ha]; exact Nat.le_mul_of_pos_right _ hp
    have hkN : k < N := (Nat.pow_lt_pow_iff_right (by decide)).1 (Nat.lt_of_le_of_lt h1 hz)
    have h3 := natL_ge L l0 hc
    rw [pow32] at h3
    have h4 : 32 * (L.length - 1) < N := (Nat.pow_lt_pow_iff_right (by decide)).1 (Nat.lt_of_le_of_lt h3 (Nat.lt_of_le_of_lt h2 hz))
    omega
/-- A sum at the lesser exponent is the sum. -/
theorem sum_conv (i1 i2 z1 z2 e e1 e2 m : Int) (i j : Nat) (hi : e1 - m = (i : Int)) (hj : e2 - m = (j : Int)) (h1 : (z1 = 0 ∧ i1 = 0) ∨ ∃ k : Nat, i1 * 2 ^ k = z1 ∧ e1 = e + k) (h2 : (z2 = 0 ∧ i2 = 0) ∨ ∃ k : Nat, i2 * 2 ^ k = z2 ∧ e2 = e + k) : ∃ p q : Nat, (i1 * 2 ^ i + i2 * 2 ^ j) * 2 ^ p = (z1 + z2) * 2 ^ q ∧ m - p = e - q := by
  refine ⟨(m - min m e).toNat, (e - min m e).toNat, ?_, by omega⟩
  have key : ∀ (a z x : Int) (t : Nat), x - m = (t : Int) → ((z = 0 ∧ a = 0) ∨ ∃ k : Nat, a * 2 ^ k = z ∧ x = e + k) → a * 2 ^ t * 2 ^ (m - min m e).toNat = z * 2 ^ (e - min m e).toNat := by
    intro a z x t ht h
    rcases h with ⟨h, h'⟩ | ⟨k, h, hx⟩
    · rw [h, h', Int.zero_mul, Int.zero_mul, Int.zero_mul]
    · rw [← h, Int.mul_assoc, Int.mul_assoc, ← Int.pow_add, ← Int.pow_add]
      congr 2
      omega
  rw [Int.add_mul, Int.add_mul, key i1 z1 e1 i hi h1, key i2 z2 e2 j hj h2]
end Go.Proofs.YtijadahpddmhjaaGreatDoor

namespace Go.Proofs.YtijadahpddmhjaaGreatDoor
open Go.RowKit Go.IntWalk

/-- A variable that holds a dyad. -/
def DyVar (W : World) (b : Nat) (neg : Bool) (a : Option Addr) (n cap : Nat) (e' z e : Int) : Prop := W.heap[b]? = some (DyBox neg a n cap e') ∧ DyAt W neg a n cap e' z e
theorem DyVar.below {W W' : World} {b : Nat} {neg : Bool} {a : Option Addr} {n cap : Nat} {e' z e : Int} (h : DyVar W b neg a n cap e' z e) (hb : Below W.heap.size W W') : DyVar W' b neg a n cap e' z e :=
  ⟨by rw [hb.block b (Array.getElem?_eq_some_iff.1 h.1).1]; exact h.1, h.2.below hb⟩
theorem DyVar.new {Z e e' : Int} {B : Nat} {neg : Bool} {a : Option Addr} {n cap : Nat} {w : World} (h : DyRet Z e B neg a n cap e' w) : DyVar (w.alloc (DyBox neg a n cap e')) w.heap.size neg a n cap e' Z e :=
  ⟨new_blk _ _ _ rfl, h.at.below ((Below.refl _ _).alloc (Nat.le_refl _) _)⟩
theorem DyVar.cells {W : World} {b : Nat} {neg : Bool} {a : Option Addr} {n cap : Nat} {e' z e : Int} (h : DyVar W b neg a n cap e' z e) : W.cell? ⟨b, 0, none⟩ = some (.bool neg) ∧ W.cell? ⟨b, 1, none⟩ = some (.slice a n cap) ∧ W.cell? ⟨b, 2, none⟩ = some (.int .i64 e') := dcells_of h.1
theorem abs_add {a b : Int} {n : Nat} (ha : a.natAbs < 2 ^ n) (hb : b.natAbs < 2 ^ n) : (a + b).natAbs < 2 ^ (n + 1) := by
  have := Int.natAbs_add_le a b
  rw [Nat.pow_succ]
  omega
theorem abs_mul {a b : Int} {n m : Nat} (ha : a.natAbs < 2 ^ n) (hb : b.natAbs < 2 ^ m) : (a * b).natAbs < 2 ^ (n + m) := by
  rw [Int.natAbs_mul, Nat.pow_add]
  have h1 : a.natAbs * b.natAbs ≤ a.natAbs * 2 ^ m := Nat.mul_le_mul_left _ (Nat.le_of_lt hb)
  have h2 : a.natAbs * 2 ^ m < 2 ^ n * 2 ^ m := Nat.mul_lt_mul_of_pos_right ha (Nat.two_pow_pos m)
  omega
theorem abs_more {a : Int} {n m : Nat} (ha : a.natAbs < 2 ^ n) (h : n ≤ m) : a.natAbs < 2 ^ m := Nat.lt_of_lt_of_le ha (Nat.pow_le_pow_right (by decide) h)
def kN : Nat := 2098
theorem kN_is : kN = 2098 := rfl
/-- A finite number in steps of 2^-1074. -/
theorem sv_parts (x : Nat) (hf : x % 9223372036854775808 < 9218868437227405312) : ∃ k : Nat, sgnN (pNeg x) (pMant x) * 2 ^ k = sv x ∧ pExp x - k = -1074 ∧ (sv x).natAbs < 2 ^ kN ∧ pErr x = 0 ∧ -1074 ≤ pExp x ∧ pExp x ≤ 2000 ∧ pMant x < 18446744073709551616 := by
  obtain ⟨v1, v2, v3, v4, v5⟩ := parts_val x hf
  have hN : pNeg x = decide (9223372036854775808 ≤ x) := by unfold pNeg; rw [if_neg v1, v2]
  have hE : pErr x = 0 := by unfold pErr; rw [if_neg v1]
  have hsv : sv x = sgnN (pNeg x) (nv (x % 9223372036854775808)) := by
    unfold sv sgnN
    rw [hN]
    by_cases c : 9223372036854775808 ≤ x
    · rw [if_pos c, decide_eq_true c, if_pos rfl]
    · rw [if_neg c, decide_eq_false c, if_neg (by decide)]
  have habs : (sv x).natAbs = nv (x % 9223372036854775808) := by
    rw [hsv]
    unfold sgnN
    split <;> simp
  by_cases h0 : mantOf x = 0
  · have hx0 := v4.1 h0
    have hm : pMant x = 0 := by
      unfold pMant
      rw [if_neg v1, h0]
      exact Nat.zero_div _
    have hp : pExp x = 0 := by unfold pExp; rw [if_pos (Or.inr h0)]
    have hz : sv x = 0 := by
      rw [hsv, hx0, nv_zero]
      unfold sgnN
      split <;> rfl
    refine ⟨1074, ?_, by rw [hp]; rfl, ?_, hE, by rw [hp]; decide, by rw [hp]; decide, by rw [hm]; decide⟩
    · rw [hm, hz]
      have : sgnN (pNeg x) 0 = 0 := by unfold sgnN; split <;> rfl
      rw [this, Int.zero_mul]
    · rw [hz, Int.natAbs_zero]; exact Nat.two_pow_pos kN
  · obtain ⟨p1, p2, p3, p4, p5, p6⟩ := v5 h0
    have hbp := bitLen_pos p1
    refine ⟨(pExp x + 1074).toNat, ?_, by omega, ?_, hE, p2, by omega, p6⟩
    · rw [hsv, p3]
      obtain ⟨k, hk⟩ : ∃ k, (pExp x + 1074).toNat = k := ⟨_, rfl⟩
      rw [hk]
      unfold sgnN
      split
      · rw [Int.natCast_mul, Int.natCast_pow, Int.neg_mul]; rfl
      · rw [Int.natCast_mul, Int.natCast_pow]; rfl
    · rw [habs, p3]
      have h1 : pMant x < 2 ^ bitLen (pMant x) := bitLen_hi _
      have h2 : pMant x * 2 ^ (pExp x + 1074).toNat < 2 ^ bitLen (pMant x) * 2 ^ (pExp x + 1074).toNat := Nat.mul_lt_mul_of_pos_right h1 (Nat.two_pow_pos _)
      rw [← Nat.pow_add] at h2
      have hk := kN_is
      exact Nat.lt_of_lt_of_le h2 (Nat.pow_le_pow_right (by decide) (by omega))
end Go.Proofs.YtijadahpddmhjaaGreatDoor
