
/- What is on the grid is not rounded, and what is not on it is told by the flags; no program is spoken of. -/
import Derived.Test.YtggiklghcnojiaaP11
namespace Go.Proofs.Ytggiklghcnojiaa
open Go Go.RowKit Go.IntWalk

theorem nv_inj {r s : Nat} (h : nv r = nv s) : r = s := by
  rcases Nat.lt_trichotomy r s with c | c | c
  · have := nv_lt c; omega
  · exact c
  · have := nv_lt c; omega
theorem nv_inj32 {r s : Nat} (h : nv32 r = nv32 s) : r = s := by
  rcases Nat.lt_trichotomy r s with c | c | c
  · have := nv_lt32 c; omega
  · exact c
  · have := nv_lt32 c; omega
theorem bitLen_mul_pow (m k : Nat) (h : m ≠ 0) : bitLen (m * 2 ^ k) = bitLen m + k := by
  unfold bitLen
  rw [if_neg h, if_neg (Nat.mul_ne_zero h (Nat.pos_iff_ne_zero.1 (Nat.two_pow_pos k))), log2_mul_pow m k h]
  omega
theorem bitLen_mono {a b : Nat} (h : a ≤ b) : bitLen a ≤ bitLen b := bitLen_le a _ (Nat.lt_of_le_of_lt h (bitLen_hi b))
theorem restN_zero {m s : Nat} : restN m s = 0 ↔ m % 2 ^ s = 0 := by
  unfold restN
  constructor
  · intro h
    apply Classical.byContradiction
    intro hc
    rw [if_neg hc] at h
    split at h
    · omega
    · split at h <;> omega
  · intro h; rw [if_pos h]
/-- Nothing is left over just if so many steps are what there was. -/
theorem step_value (m : Nat) (sh mode : Int) (neg : Bool) : cutR m sh = 0 ↔ stepQ m sh mode neg * 2 ^ sh.toNat = m * 2 ^ (-sh).toNat := by
  unfold stepQ
  by_cases hs : sh ≤ 0
  · have hr : cutR m sh = 0 := by unfold cutR; rw [if_pos hs]
    have hq : cutQ m sh = m * 2 ^ (-sh).toNat := by unfold cutQ; rw [if_pos hs]
    have e : sh.toNat = 0 := by omega
    rw [hr, hq, e]
    simp
  · have hq : cutQ m sh = m / 2 ^ sh.toNat := by unfold cutQ; rw [if_neg hs]
    have hr : cutR m sh = restN m sh.toNat := by unfold cutR; rw [if_neg hs]
    have e : (-sh).toNat = 0 := by omega
    have hd := Nat.div_add_mod m (2 ^ sh.toNat)
    have hl := Nat.mod_lt m (Nat.two_pow_pos sh.toNat)
    rw [hr, hq, e, Nat.pow_zero, Nat.mul_one]
    constructor
    · intro h
      rw [if_neg (fun c => c.1 h)]
      rw [restN_zero] at h
      rw [Nat.mul_comm, Nat.add_zero]
      omega
    · intro h
      rw [restN_zero]
      have h2 : (m / 2 ^ sh.toNat) * 2 ^ sh.toNat = 2 ^ sh.toNat * (m / 2 ^ sh.toNat) := Nat.mul_comm _ _
      split at h
      · rw [Nat.add_mul, Nat.one_mul] at h
        omega
      · rw [Nat.add_zero] at h
        omega
theorem flag_zero (P L H : Int) (m : Nat) (e mode : Int) (neg : Bool) : rFlag P L H m e mode neg = 0 ↔ ¬ rOver P L H m e mode neg ∧ cutR m (rUnit P L m e - e) = 0 := by
  unfold rFlag
  by_cases h : rOver P L H m e mode neg
  · rw [if_pos h]; exact ⟨fun c => by omega, fun c => absurd h c.1⟩
  · rw [if_neg h]
    by_cases h2 : cutR m (rUnit P L m e - e) = 0
    · rw [if_pos h2]; exact ⟨fun _ => ⟨h, h2⟩, fun _ => rfl⟩
    · rw [if_neg h2]
      refine ⟨fun c => ?_, fun c => absurd c.2 h2⟩
      split at c <;> omega
/-- What has room in the digits, from the least step on, is not rounded. -/
theorem fits_exact (P L H : Int) (m : Nat) (e mode : Int) (neg : Bool) (h0 : m ≠ 0) (hfit : (bitLen m : Int) ≤ P) (hlow : L - P + 1 ≤ e) (htop : e + (bitLen m : Int) - 1 ≤ H) :
    rFlag P L H m e mode neg = 0 ∧ ¬ rOver P L H m e mode neg ∧ rUnit P L m e ≤ e ∧ rSteps P L m e mode neg = m * 2 ^ (e - rUnit P L m e).toNat := by
  have hu : rUnit P L m e - e ≤ 0 := by unfold rUnit rTop; omega
  have hr : cutR m (rUnit P L m e - e) = 0 := by unfold cutR; rw [if_pos hu]
  have hs : rSteps P L m e mode neg = m * 2 ^ (e - rUnit P L m e).toNat := by
    unfold rSteps stepQ
    rw [if_neg (fun c => c.1 hr)]
    unfold cutQ
    have e1 : (-(rUnit P L m e - e)).toNat = (e - rUnit P L m e).toNat := by omega
    rw [if_pos hu, Nat.add_zero, e1]
  have ho : ¬ rOver P L H m e mode neg := by
    unfold rOver
    rw [hs, bitLen_mul_pow _ _ h0]
    omega
  exact ⟨(flag_zero P L H m e mode neg).2 ⟨ho, hr⟩, ho, by omega, hs⟩

/-- A number's value, by its parts. -/
theorem parts_val (x : Nat) (hf : x % 9223372036854775808 < 9218868437227405312) : expOf x ≠ 2047 ∧ negOf x = decide (9223372036854775808 ≤ x) ∧ canonOf x = x ∧ (mantOf x = 0 ↔ x % 9223372036854775808 = 0) ∧ (mantOf x ≠ 0 → pMant x ≠ 0 ∧ -1074 ≤ pExp x ∧ nv (x % 9223372036854775808) = pMant x * 2 ^ (pExp x + 1074).toNat ∧ bitLen (pMant x) ≤ 53 ∧ pExp x + (bitLen (pMant x) : Int) - 1 ≤ 1023 ∧ pMant x < 18446744073709551616) := by
  have hc : canonOf x = x := by unfold canonOf; rw [if_neg (by omega)]
  have he : expOf x = x % 9223372036854775808 / 4503599627370496 := by unfold expOf; rw [hc]; omega
  have hfr : fracOf x = x % 9223372036854775808 % 4503599627370496 := by unfold fracOf; rw [hc]; omega
  have hne : expOf x ≠ 2047 := by omega
  refine ⟨hne, by unfold negOf; rw [hc], hc, ?_, ?_⟩
  · unfold mantOf
    split <;> omega
  · intro hm
    have hml := mant_lt x
    have hm64 : mantOf x < 18446744073709551616 := by omega
    obtain ⟨q, hq, hmq⟩ := odd_spec _ hm hm64
    have es : oddOf (mantOf x) * 2 ^ tzOf (mantOf x) = mantOf x := by rw [hq, Nat.mul_comm]; exact hmq.symm
    have hn : nv (x % 9223372036854775808) = mantOf x * 2 ^ (max (expOf x) 1 - 1) := by
      unfold nv mantOf
      rw [hfr, he]
      by_cases hs : x % 9223372036854775808 < 4503599627370496
      · have e0 : x % 9223372036854775808 / 4503599627370496 = 0 := by omega
        rw [if_pos hs, e0, if_neg (by omega), Nat.mod_eq_of_lt hs]
        simp
      · have e0 : max (x % 9223372036854775808 / 4503599627370496) 1 = x % 9223372036854775808 / 4503599627370496 := by omega
        rw [if_neg hs, if_pos (by omega), e0, Nat.add_comm]
    have hl1 := tz_len _ hm hm64
    have hbl : bitLen (mantOf x) ≤ 53 := bitLen_le _ 53 (by simpa using hml)
    have hbo : bitLen (oddOf (mantOf x)) = lenOf (mantOf x) := rfl
    unfold pMant pExp
    rw [if_neg hne, if_neg (by omega), hn, hbo]
    refine ⟨by omega, by omega, ?_, by omega, ?_, by have := odd_le (mantOf x); omega⟩
    · have e1 : (max (expOf x : Int) 1 - 1075 + (tzOf (mantOf x) : Int) + 1074).toNat = tzOf (mantOf x) + (max (expOf x) 1 - 1) := by omega
      rw [e1, Nat.pow_add, ← Nat.mul_assoc, es]
    · by_cases h0 : expOf x = 0
      · rw [h0]; omega
      · omega
end Go.Proofs.Ytggiklghcnojiaa
