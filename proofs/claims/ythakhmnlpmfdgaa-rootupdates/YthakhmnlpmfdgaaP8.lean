
/- Rounding to a format, in plain arithmetic; no program is spoken of. -/
import Derived.Test.YthakhmnlpmfdgaaP5
import Derived.Test.YthakhmnlpmfdgaaP3
namespace Go.Proofs.Ythakhmnlpmfdgaa
open Go Go.RowKit Go.IntWalk

/-- Whether what was cut off is taken away from 0; the mode of the other side. -/
def growsOf (mode : Int) (neg odd : Bool) (left : Nat) : Bool :=
  if mode = 0 then (left == 3 || (left == 2 && odd)) else if mode = 1 then decide (2 ≤ left) else if mode = 2 then false else if mode = 3 then !neg else if mode = 4 then neg else false
def turnM (mode : Int) : Int := if mode = 3 then 4 else if mode = 4 then 3 else mode
theorem grows_turn (mode : Int) (neg odd : Bool) (left : Nat) : growsOf (turnM mode) (!neg) odd left = growsOf mode neg odd left := by
  unfold growsOf turnM
  by_cases h3 : mode = 3
  · subst h3; simp
  · by_cases h4 : mode = 4
    · subst h4; simp
    · simp [h3, h4]

/-- Whole steps in m, what is left over (0 nothing, 1 little, 2 a half, 3 most). -/
def cutQ (m : Nat) (sh : Int) : Nat := if sh ≤ 0 then m * 2 ^ (-sh).toNat else m / 2 ^ sh.toNat
def restN (m s : Nat) : Nat := if m % 2 ^ s = 0 then 0 else if 2 * (m % 2 ^ s) < 2 ^ s then 1 else if 2 * (m % 2 ^ s) = 2 ^ s then 2 else 3
def cutR (m : Nat) (sh : Int) : Nat := if sh ≤ 0 then 0 else restN m sh.toNat
def stepQ (m : Nat) (sh : Int) (mode : Int) (neg : Bool) : Nat := cutQ m sh + if cutR m sh ≠ 0 ∧ growsOf mode neg (decide (cutQ m sh % 2 = 1)) (cutR m sh) = true then 1 else 0
theorem stepQ_turn (m : Nat) (sh mode : Int) (neg : Bool) : stepQ m sh (turnM mode) (!neg) = stepQ m sh mode neg := by
  unfold stepQ; rw [grows_turn]

theorem bitLen_pos {m : Nat} (h : m ≠ 0) : 1 ≤ bitLen m := by unfold bitLen; rw [if_neg h]; omega
theorem bitLen_lo {m : Nat} (h : m ≠ 0) : 2 ^ (bitLen m - 1) ≤ m := (bitLen_spec m).2 h
theorem bitLen_hi (m : Nat) : m < 2 ^ bitLen m := (bitLen_spec m).1
theorem bitLen_zero : bitLen 0 = 0 := by decide
theorem bitLen_pow (k : Nat) : bitLen (2 ^ k) = k + 1 := by
  unfold bitLen
  rw [if_neg (Nat.pos_iff_ne_zero.1 (Nat.two_pow_pos k)), Nat.log2_two_pow]
theorem lt_bitLen {m k : Nat} (h : 2 ^ k ≤ m) : k < bitLen m := by
  have := Nat.lt_of_le_of_lt h (bitLen_hi m)
  exact (Nat.pow_lt_pow_iff_right (by decide : 1 < 2)).1 this
theorem tz_len (m : Nat) (h0 : m ≠ 0) (hm : m < 18446744073709551616) : lenOf m + tzOf m = bitLen m := by
  obtain ⟨q, hq, hmq⟩ := odd_spec m h0 hm
  obtain ⟨l1, l2, l3⟩ := len_spec m h0 hm
  have hp := bitLen_pos h0
  have e : oddOf m * 2 ^ tzOf m = m := by rw [hq, Nat.mul_comm]; exact hmq.symm
  have := pow_sum (oddOf m) (tzOf m) (lenOf m) (bitLen m - 1) l2 l3 l1 (by rw [e]; exact bitLen_lo h0) (by rw [e, Nat.sub_add_cancel hp]; exact bitLen_hi m)
  omega

/-- How great the count of steps may be. -/
theorem cutQ_lt (m : Nat) (e u : Int) (k : Nat) (h : e + (bitLen m : Int) - u ≤ (k : Int)) : cutQ m (u - e) < 2 ^ k := by
  have hb := bitLen_hi m
  unfold cutQ
  by_cases hs : u - e ≤ 0
  · rw [if_pos hs]
    have e1 : m * 2 ^ (-(u - e)).toNat < 2 ^ bitLen m * 2 ^ (-(u - e)).toNat := Nat.mul_lt_mul_of_pos_right hb (Nat.two_pow_pos _)
    rw [← Nat.pow_add] at e1
    exact Nat.lt_of_lt_of_le e1 (Nat.pow_le_pow_right (by decide) (by omega))
  · rw [if_neg hs]
    rw [Nat.div_lt_iff_lt_mul (Nat.two_pow_pos _), ← Nat.pow_add]
    exact Nat.lt_of_lt_of_le hb (Nat.pow_le_pow_right (by decide) (by omega))
theorem cutQ_ge (m : Nat) (e u : Int) (k : Nat) (h0 : m ≠ 0) (h : (k : Int) + 1 ≤ e + (bitLen m : Int) - u) : 2 ^ k ≤ cutQ m (u - e) := by
  have hb := bitLen_lo h0
  have hp := bitLen_pos h0
  unfold cutQ
  by_cases hs : u - e ≤ 0
  · rw [if_pos hs]
    have e1 : 2 ^ (bitLen m - 1) * 2 ^ (-(u - e)).toNat ≤ m * 2 ^ (-(u - e)).toNat := Nat.mul_le_mul_right _ hb
    rw [← Nat.pow_add] at e1
    exact Nat.le_trans (Nat.pow_le_pow_right (by decide) (by omega)) e1
  · rw [if_neg hs]
    rw [Nat.le_div_iff_mul_le (Nat.two_pow_pos _), ← Nat.pow_add]
    exact Nat.le_trans (Nat.pow_le_pow_right (by decide) (by omega)) hb

/-- A number of s steps of 2^u is there. -/
theorem good_word (s : Nat) (u : Int) (hs : s ≤ 9007199254740992) (hu : -1074 ≤ u) (ht : u + (bitLen s : Int) - 1 ≤ 1023) : ¬ wBad s u := by
  rintro ⟨h0, hb⟩
  have hsl : s < 18446744073709551616 := by omega
  have htl := tz_len s h0 hsl
  obtain ⟨l1, l2, l3⟩ := len_spec s h0 hsl
  have hl : lenOf s ≤ 53 := by
    rcases Nat.lt_or_eq_of_le hs with h | h
    · exact bitLen_le _ 53 (Nat.lt_of_le_of_lt (odd_le s) (by simpa using h))
    · rw [h]; decide +kernel
  unfold wField at hb
  omega
/-- Its value. -/
theorem good_val (s : Nat) (u : Int) (h0 : s ≠ 0) (hs : s ≤ 9007199254740992) (hu : -1074 ≤ u) (ht : u + (bitLen s : Int) - 1 ≤ 1023) : wMag s u < 9218868437227405312 ∧ nv (wMag s u) = s * 2 ^ (u + 1074).toNat := by
  have hsl : s < 18446744073709551616 := by omega
  have htl := tz_len s h0 hsl
  obtain ⟨l1, l2, l3⟩ := len_spec s h0 hsl
  obtain ⟨q, hq, hmq⟩ := odd_spec s h0 hsl
  have es : oddOf s * 2 ^ tzOf s = s := by rw [hq, Nat.mul_comm]; exact hmq.symm
  have hl : lenOf s ≤ 53 := by
    rcases Nat.lt_or_eq_of_le hs with h | h
    · exact bitLen_le _ 53 (Nat.lt_of_le_of_lt (odd_le s) (by simpa using h))
    · rw [h]; decide +kernel
  unfold wMag
  rw [if_neg h0]
  unfold wField
  by_cases hx : u + (tzOf s : Int) + (lenOf s : Int) - 1 + 1075 - 52 < 1
  · rw [if_pos hx]
    have hlt := sub_lt_w s (u + (tzOf s : Int) + 1074).toNat (by omega)
    refine ⟨by omega, ?_⟩
    unfold nv
    rw [if_pos hlt]
    have e1 : (u + (tzOf s : Int) + 1074).toNat = tzOf s + (u + 1074).toNat := by omega
    rw [e1, Nat.pow_add, ← Nat.mul_assoc, es]
  · rw [if_neg hx]
    have hf := wfrac_lt s
    obtain ⟨X, hX⟩ : ∃ X, (u + (tzOf s : Int) + (lenOf s : Int) - 1 + 1075 - 52).toNat = X := ⟨_, rfl⟩
    rw [hX]
    refine ⟨by unfold packN; omega, ?_⟩
    have h52 : (2 : Nat) ^ 52 = 4503599627370496 := by decide
    have h53 : (2 : Nat) ^ 53 = 9007199254740992 := by decide
    have g1 : 2 ^ 52 ≤ oddOf s * 2 ^ (53 - lenOf s) := by
      have : 2 ^ (lenOf s - 1) * 2 ^ (53 - lenOf s) ≤ oddOf s * 2 ^ (53 - lenOf s) := Nat.mul_le_mul_right _ l2
      rw [← Nat.pow_add] at this
      have e2 : lenOf s - 1 + (53 - lenOf s) = 52 := by omega
      rwa [e2] at this
    have g2 : oddOf s * 2 ^ (53 - lenOf s) < 2 ^ 53 := by
      have : oddOf s * 2 ^ (53 - lenOf s) < 2 ^ lenOf s * 2 ^ (53 - lenOf s) := Nat.mul_lt_mul_of_pos_right l3 (Nat.two_pow_pos _)
      rw [← Nat.pow_add] at this
      have e2 : lenOf s + (53 - lenOf s) = 53 := by omega
      rwa [e2] at this
    have ew : 4503599627370496 + wfracOf s = oddOf s * 2 ^ (53 - lenOf s) := by
      unfold wfracOf
      rw [h52] at g1
      rw [h53] at g2
      omega
    have ep : packN X (wfracOf s) % 4503599627370496 = wfracOf s := by unfold packN; omega
    have ed : packN X (wfracOf s) / 4503599627370496 = X := by unfold packN; omega
    unfold nv
    rw [if_neg (by unfold packN; omega), ep, ed, ew, Nat.mul_assoc, ← Nat.pow_add]
    have e3 : 53 - lenOf s + (X - 1) = tzOf s + (u + 1074).toNat := by omega
    rw [e3, Nat.pow_add, ← Nat.mul_assoc, es]

/-- The place of the first digit, the step, the steps, whether it overflows, what comes, the flags. -/
def rTop (m : Nat) (e : Int) : Int := e + (bitLen m : Int) - 1
def rUnit (P L : Int) (m : Nat) (e : Int) : Int := max (rTop m e) L - P + 1
def rSteps (P L : Int) (m : Nat) (e mode : Int) (neg : Bool) : Nat := stepQ m (rUnit P L m e - e) mode neg
def rOver (P L H : Int) (m : Nat) (e mode : Int) (neg : Bool) : Prop := H < rUnit P L m e + (bitLen (rSteps P L m e mode neg) : Int) - 1
def rOverD (P L H : Int) (m : Nat) (e mode : Int) (neg : Bool) : Decidable (rOver P L H m e mode neg) := by unfold rOver; infer_instance
def bigM (P H mode : Int) (neg : Bool) : Nat := if growsOf mode neg true 3 = true then 9218868437227405312 else wMag (2 ^ P.toNat - 1) (H - P + 1)
def rMag (P L H : Int) (m : Nat) (e mode : Int) (neg : Bool) : Nat := @ite Nat (rOver P L H m e mode neg) (rOverD P L H m e mode neg) (bigM P H mode neg) (wMag (rSteps P L m e mode neg) (rUnit P L m e))
def rFlag (P L H : Int) (m : Nat) (e mode : Int) (neg : Bool) : Int := @ite Int (rOver P L H m e mode neg) (rOverD P L H m e mode neg) 5 (if cutR m (rUnit P L m e - e) = 0 then 0 else if rTop m e < L then 3 else 1)
theorem rnd_turn (P L H : Int) (m : Nat) (e mode : Int) (neg : Bool) : rMag P L H m e (turnM mode) (!neg) = rMag P L H m e mode neg ∧ rFlag P L H m e (turnM mode) (!neg) = rFlag P L H m e mode neg := by
  have hs : rSteps P L m e (turnM mode) (!neg) = rSteps P L m e mode neg := by unfold rSteps; rw [stepQ_turn]
  have hb : bigM P H (turnM mode) (!neg) = bigM P H mode neg := by unfold bigM; rw [grows_turn]
  have ho : rOver P L H m e (turnM mode) (!neg) ↔ rOver P L H m e mode neg := by unfold rOver; rw [hs]
  unfold rMag rFlag
  rw [hs, hb]
  by_cases h : rOver P L H m e mode neg
  · rw [if_pos h, if_pos (ho.2 h), if_pos h, if_pos (ho.2 h)]; exact ⟨rfl, rfl⟩
  · rw [if_neg h, if_neg (fun c => h (ho.1 c)), if_neg h, if_neg (fun c => h (ho.1 c))]; exact ⟨rfl, rfl⟩
/-- Nothing is left over of what is less than a step, but 0. -/
theorem cutR_small (m : Nat) (sh : Int) (h0 : m ≠ 0) (hq : cutQ m sh = 0) : cutR m sh ≠ 0 := by
  unfold cutQ at hq
  unfold cutR
  by_cases hs : sh ≤ 0
  · rw [if_pos hs] at hq
    exact absurd hq (Nat.mul_ne_zero h0 (Nat.pos_iff_ne_zero.1 (Nat.two_pow_pos _)))
  · rw [if_neg hs] at hq ⊢
    have hlt : m < 2 ^ sh.toNat := by
      rcases Nat.div_eq_zero_iff.1 hq with h | h
      · have := Nat.two_pow_pos sh.toNat; omega
      · exact h
    unfold restN
    rw [Nat.mod_eq_of_lt hlt, if_neg h0]
    split
    · omega
    · split <;> omega
/-- The steps are no more than a format's digits can hold; none are only of what lies below the format's normal numbers. -/
theorem rSteps_le (P L : Int) (m : Nat) (e mode : Int) (neg : Bool) (p : Nat) (hp : P = (p : Int)) : rSteps P L m e mode neg ≤ 2 ^ p := by
  have h1 : cutQ m (rUnit P L m e - e) < 2 ^ p := cutQ_lt m e _ p (by unfold rUnit rTop; omega)
  unfold rSteps stepQ
  split <;> omega
theorem rOver_not (P L H : Int) (m : Nat) (e mode : Int) (neg : Bool) (p : Nat) (hp : P = (p : Int)) (p2 : p ≤ 53) (hL : -1074 ≤ L - P + 1) (hH : H ≤ 1023) (h : ¬ rOver P L H m e mode neg) :
    rSteps P L m e mode neg ≤ 9007199254740992 ∧ -1074 ≤ rUnit P L m e ∧ rUnit P L m e + (bitLen (rSteps P L m e mode neg) : Int) - 1 ≤ 1023 := by
  have h1 := rSteps_le P L m e mode neg p hp
  have h2 : 2 ^ p ≤ 2 ^ 53 := Nat.pow_le_pow_right (by decide) p2
  have h53 : (2 : Nat) ^ 53 = 9007199254740992 := by decide
  unfold rOver at h
  refine ⟨by omega, by unfold rUnit; omega, by omega⟩
/-- The greatest number of a format. -/
theorem big_good (p : Nat) (H : Int) (p1 : 1 ≤ p) (p2 : p ≤ 53) : 2 ^ p - 1 ≠ 0 ∧ 2 ^ p - 1 ≤ 9007199254740992 ∧ H - (p : Int) + 1 + (bitLen (2 ^ p - 1) : Int) - 1 = H := by
  have h2 : 2 ^ p ≤ 2 ^ 53 := Nat.pow_le_pow_right (by decide) p2
  have h53 : (2 : Nat) ^ 53 = 9007199254740992 := by decide
  have h3 : 2 ^ 1 ≤ 2 ^ p := Nat.pow_le_pow_right (by decide) p1
  have h0 : 2 ^ p - 1 ≠ 0 := by omega
  refine ⟨h0, by omega, ?_⟩
  have hb : bitLen (2 ^ p - 1) = p := by
    have a1 := bitLen_le (2 ^ p - 1) p (by have := Nat.two_pow_pos p; omega)
    have a2 : p - 1 < bitLen (2 ^ p - 1) := lt_bitLen (by
      have : 2 ^ p = 2 * 2 ^ (p - 1) := by rw [← Nat.pow_succ']; congr 1; omega
      have := Nat.two_pow_pos (p - 1)
      omega)
    omega
  rw [hb]; omega
end Go.Proofs.Ythakhmnlpmfdgaa
