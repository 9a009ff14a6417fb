
/- The rounding hangs on the value alone; the document's answers in plain arithmetic are ours. No program is spoken of. -/
import Derived.Test.YtdhifmkfdpbpcaaGreatDoorR2P
import Derived.Test.YtdhifmkfdpbpcaaGreatDoorCvScale
namespace Go.Proofs.YtdhifmkfdpbpcaaGreatDoor
open Go Go.RowKit Go.IntWalk

theorem cutQ_scale (m k : Nat) (sh : Int) : cutQ (m * 2 ^ k) (sh + k) = cutQ m sh := by
  unfold cutQ
  by_cases h1 : sh + (k : Int) ≤ 0
  · rw [if_pos h1, if_pos (by omega), Nat.mul_assoc, ← Nat.pow_add]
    congr 2
    omega
  · rw [if_neg h1]
    by_cases h2 : sh ≤ 0
    · rw [if_pos h2]
      have e : k = (-sh).toNat + (sh + (k : Int)).toNat := by omega
      conv => lhs; arg 1; rw [e, Nat.pow_add, ← Nat.mul_assoc]
      rw [Nat.mul_div_cancel _ (Nat.two_pow_pos _)]
    · rw [if_neg h2]
      have e : (sh + (k : Int)).toNat = sh.toNat + k := by omega
      rw [e, Nat.pow_add, Nat.mul_div_mul_right _ _ (Nat.two_pow_pos k)]
theorem restN_scale (m k s : Nat) : restN (m * 2 ^ k) (s + k) = restN m s := by
  have hp := Nat.two_pow_pos k
  have e : (m * 2 ^ k) % 2 ^ (s + k) = (m % 2 ^ s) * 2 ^ k := by rw [Nat.pow_add, Nat.mul_mod_mul_right]
  have e2 : 2 ^ (s + k) = 2 ^ s * 2 ^ k := Nat.pow_add ..
  unfold restN
  rw [e, e2]
  have c1 : (m % 2 ^ s) * 2 ^ k = 0 ↔ m % 2 ^ s = 0 := by
    rw [Nat.mul_eq_zero]
    exact ⟨fun h => h.resolve_right (by omega), Or.inl⟩
  have c2 : 2 * ((m % 2 ^ s) * 2 ^ k) < 2 ^ s * 2 ^ k ↔ 2 * (m % 2 ^ s) < 2 ^ s := by
    rw [← Nat.mul_assoc]
    exact Nat.mul_lt_mul_right hp
  have c3 : 2 * ((m % 2 ^ s) * 2 ^ k) = 2 ^ s * 2 ^ k ↔ 2 * (m % 2 ^ s) = 2 ^ s := by
    rw [← Nat.mul_assoc]
    exact Nat.mul_right_cancel_iff hp
  simp only [c1, c2, c3]
theorem cutR_scale (m k : Nat) (sh : Int) : cutR (m * 2 ^ k) (sh + k) = cutR m sh := by
  unfold cutR
  by_cases h1 : sh + (k : Int) ≤ 0
  · rw [if_pos h1, if_pos (by omega)]
  · rw [if_neg h1]
    by_cases h2 : sh ≤ 0
    · rw [if_pos h2]
      have e : k = (-sh).toNat + (sh + (k : Int)).toNat := by omega
      rw [restN_zero]
      conv => lhs; arg 1; rw [e, Nat.pow_add, ← Nat.mul_assoc]
      exact Nat.mul_mod_left _ _
    · rw [if_neg h2]
      have e : (sh + (k : Int)).toNat = sh.toNat + k := by omega
      rw [e, restN_scale]
theorem stepQ_scale (m k : Nat) (sh mode : Int) (neg : Bool) : stepQ (m * 2 ^ k) (sh + k) mode neg = stepQ m sh mode neg := by
  unfold stepQ
  rw [cutQ_scale, cutR_scale]
theorem rTop_scale (m k : Nat) (e : Int) (h0 : m ≠ 0) : rTop (m * 2 ^ k) (e - k) = rTop m e := by
  unfold rTop
  rw [bitLen_mul_pow m k h0]
  omega
theorem rnd_scale (P L H : Int) (m k : Nat) (e mode : Int) (neg : Bool) (h0 : m ≠ 0) : rUnit P L (m * 2 ^ k) (e - k) = rUnit P L m e ∧ rSteps P L (m * 2 ^ k) (e - k) mode neg = rSteps P L m e mode neg ∧ rFlag P L H (m * 2 ^ k) (e - k) mode neg = rFlag P L H m e mode neg ∧ (rOver P L H (m * 2 ^ k) (e - k) mode neg ↔ rOver P L H m e mode neg) := by
  have hT := rTop_scale m k e h0
  have hU : rUnit P L (m * 2 ^ k) (e - k) = rUnit P L m e := by unfold rUnit; rw [hT]
  have e1 : rUnit P L m e - (e - (k : Int)) = rUnit P L m e - e + (k : Int) := by omega
  have hS : rSteps P L (m * 2 ^ k) (e - k) mode neg = rSteps P L m e mode neg := by
    unfold rSteps; rw [hU, e1, stepQ_scale]
  have hO : rOver P L H (m * 2 ^ k) (e - k) mode neg ↔ rOver P L H m e mode neg := by unfold rOver; rw [hU, hS]
  refine ⟨hU, hS, ?_, hO⟩
  unfold rFlag
  rw [hU, hT, e1, cutR_scale]
  by_cases c : rOver P L H m e mode neg
  · rw [if_pos c, if_pos (hO.2 c)]
  · rw [if_neg c, if_neg (fun d => c (hO.1 d))]
end Go.Proofs.YtdhifmkfdpbpcaaGreatDoor
