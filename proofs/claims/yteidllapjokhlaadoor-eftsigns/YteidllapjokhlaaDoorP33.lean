
/- What dyad's Add does, by the numbers that its dyads stand for. -/
import Derived.Test.YteidllapjokhlaaDoorP32
import Derived.Test.YteidllapjokhlaaDoorP10
namespace Go.Proofs.YteidllapjokhlaaDoor
open Go.RowKit Go.IntWalk

/-- A dyad in memory, and the number z * 2^e that it stands for. -/
def DyAt (w : World) (neg : Bool) (a : Option Addr) (n cap : Nat) (e' z e : Int) : Prop := ∃ L, L.length = n ∧ n ≤ cap ∧ MagAt w a L ∧ DyV neg L e' z e ∧ DyMay neg L e'
theorem DyRet.at {Z e e' : Int} {B : Nat} {neg : Bool} {a : Option Addr} {n cap : Nat} {w : World} (h : DyRet Z e B neg a n cap e' w) : DyAt w neg a n cap e' Z e := by
  obtain ⟨neg1, L, a1, cap1, e1, h0, h1, h2, h3, h4, h5⟩ := h
  cases h0
  exact ⟨L, rfl, h1, h2, h3, h4⟩
theorem DyAt.below {w w' : World} {neg : Bool} {a : Option Addr} {n cap : Nat} {e' z e : Int} (h : DyAt w neg a n cap e' z e) (hb : Below w.heap.size w w') : DyAt w' neg a n cap e' z e := by
  obtain ⟨L, h1, h2, h3, h4, h5⟩ := h
  exact ⟨L, h1, h2, h3.below hb, h4, h5⟩
theorem DyAt.may {w : World} {neg : Bool} {a : Option Addr} {n cap : Nat} {e' z e : Int} (h : DyAt w neg a n cap e' z e) : Calls Tryd.prog 96 #[.agg #[.bool neg, .slice a n cap, .int .i64 e']] w fun r w' => r = .returned (.bool true) ∧ Below w.heap.size w w' := by
  obtain ⟨L, rfl, h2, h3, h4, h5⟩ := h
  exact May_yes neg L a cap e' w h3 h5
theorem DyV.conv {n : Bool} {L : List Nat} {e' S m T e : Int} {i j : Nat} (h : DyV n L e' S m) (h1 : S * 2 ^ i = T * 2 ^ j) (h2 : m - i = e - j) : DyV n L e' T e := by
  have := h.low i
  rw [h1, h2] at this
  have := this.high
  rwa [show e - (j : Int) + (j : Int) = e by omega] at this
theorem DyOut.conv {S m T e : Int} {B : Nat} {r : Ending} {w : World} {i j : Nat} (h : DyOut S m B r w) (h1 : S * 2 ^ i = T * 2 ^ j) (h2 : m - i = e - j) : DyOut T e B r w := by
  obtain ⟨neg, L, a, cap, e', rfl, g1, g2, g3, g4, g5⟩ := h
  exact ⟨neg, L, a, cap, e', rfl, g1, g2, g3.conv h1 h2, g4, g5⟩
theorem intL_abs (n : Bool) (L : List Nat) : (intL n L).natAbs = natL L := by unfold intL; cases n <;> simp
/-- How long a dyad's words are, and where its exponent lies. -/
theorem DyV.size {n : Bool} {L : List Nat} {e' z e : Int} {N : Nat} (h : DyV n L e' z e) (hz : z.natAbs < 2 ^ N) (hN : N ≤ 6400) (he1 : -3000 ≤ e) (he2 : e ≤ 3000) : L.length ≤ 201 ∧ -3000 ≤ e' ∧ e' ≤ 9400 := by
  have hc := h.2.1
  rcases h.val with ⟨z0, l0, m0, x0⟩ | ⟨l0, o0, z0, k, hk, hx⟩
  · rw [l0, x0]; exact ⟨by simp, by decide, by decide⟩
  · have ha : natL L * 2 ^ k = z.natAbs := by rw [← hk, Int.natAbs_mul, intL_abs, Int.natAbs_pow]; rfl
    have hn1 : 1 ≤ natL L := by omega
    have hp := Nat.two_pow_pos k
    have h1 : 2 ^ k ≤ z.natAbs := by rw [← ha]; exact Nat.le_mul_of_pos_left _ hn1
    have h2 : natL L ≤ z.natAbs := by rw [← ha]; exact Nat.le_mul_of_pos_right _ hp
    have hkN : k < N := (Nat.pow_lt_pow_iff_right (by decide)).1 (Nat.lt_of_le_of_lt h1 hz)
    have h3 := natL_ge L l0 hc
    rw [pow32] at h3
    have h4 : 32 * (L.length - 1) < N := (Nat.pow_lt_pow_iff_right (by decide)).1 (Nat.lt_of_le_of_lt h3 (Nat.lt_of_le_of_lt h2 hz))
    omega
/-- A sum at the lesser exponent is the sum. -/
theorem sum_conv (i1 i2 z1 z2 e e1 e2 m : Int) (i j : Nat) (hi : e1 - m = (i : Int)) (hj : e2 - m = (j : Int)) (h1 : (z1 = 0 ∧ i1 = 0) ∨ ∃ k : Nat, i1 * 2 ^ k = z1 ∧ e1 = e + k) (h2 : (z2 = 0 ∧ i2 = 0) ∨ ∃ k : Nat, i2 * 2 ^ k = z2 ∧ e2 = e + k) : ∃ p q : Nat, (i1 * 2 ^ i + i2 * 2 ^ j) * 2 ^ p = (z1 + z2) * 2 ^ q ∧ m - p = e - q := by
  refine ⟨(m - min m e).toNat, (e - min m e).toNat, ?_, by omega⟩
  have key : ∀ (a z x : Int) (t : Nat), x - m = (t : Int) → ((z = 0 ∧ a = 0) ∨ ∃ k : Nat, a * 2 ^ k = z ∧ x = e + k) → a * 2 ^ t * 2 ^ (m - min m e).toNat = z * 2 ^ (e - min m e).toNat := by
    intro a z x t ht h
    rcases h with ⟨h, h'⟩ | ⟨k, h, hx⟩
    · rw [h, h', Int.zero_mul, Int.zero_mul, Int.zero_mul]
    · rw [← h, Int.mul_assoc, Int.mul_assoc, ← Int.pow_add, ← Int.pow_add]
      congr 2
      omega
  rw [Int.add_mul, Int.add_mul, key i1 z1 e1 i hi h1, key i2 z2 e2 j hj h2]
end Go.Proofs.YteidllapjokhlaaDoor

namespace Go.Proofs.YteidllapjokhlaaDoor
open Go.RowKit Go.IntWalk

/-- A variable that holds a dyad. -/
def DyVar (W : World) (b : Nat) (neg : Bool) (a : Option Addr) (n cap : Nat) (e' z e : Int) : Prop := W.heap[b]? = some (DyBox neg a n cap e') ∧ DyAt W neg a n cap e' z e
theorem DyVar.below {W W' : World} {b : Nat} {neg : Bool} {a : Option Addr} {n cap : Nat} {e' z e : Int} (h : DyVar W b neg a n cap e' z e) (hb : Below W.heap.size W W') : DyVar W' b neg a n cap e' z e :=
  ⟨by rw [hb.block b (Array.getElem?_eq_some_iff.1 h.1).1]; exact h.1, h.2.below hb⟩
theorem DyVar.new {Z e e' : Int} {B : Nat} {neg : Bool} {a : Option Addr} {n cap : Nat} {w : World} (h : DyRet Z e B neg a n cap e' w) : DyVar (w.alloc (DyBox neg a n cap e')) w.heap.size neg a n cap e' Z e :=
  ⟨new_blk _ _ _ rfl, h.at.below ((Below.refl _ _).alloc (Nat.le_refl _) _)⟩
theorem DyVar.cells {W : World} {b : Nat} {neg : Bool} {a : Option Addr} {n cap : Nat} {e' z e : Int} (h : DyVar W b neg a n cap e' z e) : W.cell? ⟨b, 0, none⟩ = some (.bool neg) ∧ W.cell? ⟨b, 1, none⟩ = some (.slice a n cap) ∧ W.cell? ⟨b, 2, none⟩ = some (.int .i64 e') := dcells_of h.1
theorem abs_add {a b : Int} {n : Nat} (ha : a.natAbs < 2 ^ n) (hb : b.natAbs < 2 ^ n) : (a + b).natAbs < 2 ^ (n + 1) := by
  have := Int.natAbs_add_le a b
  rw [Nat.pow_succ]
  omega
theorem abs_mul {a b : Int} {n m : Nat} (ha : a.natAbs < 2 ^ n) (hb : b.natAbs < 2 ^ m) : (a * b).natAbs < 2 ^ (n + m) := by
  rw [Int.natAbs_mul, Nat.pow_add]
  have h1 : a.natAbs * b.natAbs ≤ a.natAbs * 2 ^ m := Nat.mul_le_mul_left _ (Nat.le_of_lt hb)
  have h2 : a.natAbs * 2 ^ m < 2 ^ n * 2 ^ m := Nat.mul_lt_mul_of_pos_right ha (Nat.two_pow_pos m)
  omega
theorem abs_more {a : Int} {n m : Nat} (ha : a.natAbs < 2 ^ n) (h : n ≤ m) : a.natAbs < 2 ^ m := Nat.lt_of_lt_of_le ha (Nat.pow_le_pow_right (by decide) h)
def kN : Nat := 2098
theorem kN_is : kN = 2098 := rfl
/-- A finite number in steps of 2^-1074. -/
theorem sv_parts (x : Nat) (hf : x % 9223372036854775808 < 9218868437227405312) : ∃ k : Nat, sgnN (pNeg x) (pMant x) * 2 ^ k = sv x ∧ pExp x - k = -1074 ∧ (sv x).natAbs < 2 ^ kN ∧ pErr x = 0 ∧ -1074 ≤ pExp x ∧ pExp x ≤ 2000 ∧ pMant x < 18446744073709551616 := by
  obtain ⟨v1, v2, v3, v4, v5⟩ := parts_val x hf
  have hN : pNeg x = decide (9223372036854775808 ≤ x) := by unfold pNeg; rw [if_neg v1, v2]
  have hE : pErr x = 0 := by unfold pErr; rw [if_neg v1]
  have hsv : sv x = sgnN (pNeg x) (nv (x % 9223372036854775808)) := by
    unfold sv sgnN
    rw [hN]
    by_cases c : 9223372036854775808 ≤ x
    · rw [if_pos c, decide_eq_true c, if_pos rfl]
    · rw [if_neg c, decide_eq_false c, if_neg (by decide)]
  have habs : (sv x).natAbs = nv (x % 9223372036854775808) := by
    rw [hsv]
    unfold sgnN
    split <;> simp
  by_cases h0 : mantOf x = 0
  · have hx0 := v4.1 h0
    have hm : pMant x = 0 := by
      unfold pMant
      rw [if_neg v1, h0]
      exact Nat.zero_div _
    have hp : pExp x = 0 := by unfold pExp; rw [if_pos (Or.inr h0)]
    have hz : sv x = 0 := by
      rw [hsv, hx0, nv_zero]
      unfold sgnN
      split <;> rfl
    refine ⟨1074, ?_, by rw [hp]; rfl, ?_, hE, by rw [hp]; decide, by rw [hp]; decide, by rw [hm]; decide⟩
    · rw [hm, hz]
      have : sgnN (pNeg x) 0 = 0 := by unfold sgnN; split <;> rfl
      rw [this, Int.zero_mul]
    · rw [hz, Int.natAbs_zero]; exact Nat.two_pow_pos kN
  · obtain ⟨p1, p2, p3, p4, p5, p6⟩ := v5 h0
    have hbp := bitLen_pos p1
    refine ⟨(pExp x + 1074).toNat, ?_, by omega, ?_, hE, p2, by omega, p6⟩
    · rw [hsv, p3]
      obtain ⟨k, hk⟩ : ∃ k, (pExp x + 1074).toNat = k := ⟨_, rfl⟩
      rw [hk]
      unfold sgnN
      split
      · rw [Int.natCast_mul, Int.natCast_pow, Int.neg_mul]; rfl
      · rw [Int.natCast_mul, Int.natCast_pow]; rfl
    · rw [habs, p3]
      have h1 : pMant x < 2 ^ bitLen (pMant x) := bitLen_hi _
      have h2 : pMant x * 2 ^ (pExp x + 1074).toNat < 2 ^ bitLen (pMant x) * 2 ^ (pExp x + 1074).toNat := Nat.mul_lt_mul_of_pos_right h1 (Nat.two_pow_pos _)
      rw [← Nat.pow_add] at h2
      have hk := kN_is
      exact Nat.lt_of_lt_of_le h2 (Nat.pow_le_pow_right (by decide) (by omega))
end Go.Proofs.YteidllapjokhlaaDoor
