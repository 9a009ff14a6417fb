
/- Turning numbers into singles and back where nothing is lost; what a rounding to singles gives; no program is spoken of. -/
import Derived.Test.YthnblidkbcficaaP8
import Derived.Test.YthnblidkbcficaaP7
import Derived.Laws.FloatArith
namespace Go.Proofs.Ythnblidkbcficaa
open Go Go.RowKit Go.IntWalk

/-- How many of the numbers' least steps make one of the singles'. -/
def kcl : Nat := 925
def scl : Nat := 2 ^ kcl
theorem scl_pow (a : Nat) : 2 ^ (a + kcl) = 2 ^ a * scl := Nat.pow_add 2 a kcl
theorem scl_pos : 0 < scl := Nat.two_pow_pos kcl
theorem kcl_is : kcl = 925 := rfl
theorem arith_a (e c : Nat) (place : Int) (hc : 0 ≤ place + (c : Int)) (hc2 : 149 ≤ c) (h : ¬ (e : Int) - 149 ≤ place) : e + (c - 149) = ((e : Int) - 149 - place).toNat + (place + (c : Int)).toNat := by omega
theorem fmt_fb32' : FloatKind.f32.format.fractionBits = 23 := by decide
theorem rung32 (r : Nat) (hV : nv32 r ≠ 0) : ∃ e K : Nat, e = (nv32 r).log2 - 23 ∧ nv32 r = K * 2 ^ e ∧ e * 8388608 + K = r := by
  by_cases hs : r < 8388608
  · have hn : nv32 r = r := by unfold nv32; rw [if_pos hs]
    refine ⟨0, r, ?_, by rw [hn]; omega, by omega⟩
    have : (nv32 r).log2 < 23 := by rw [Nat.log2_lt hV, hn]; simpa using hs
    omega
  · have hn : nv32 r = (8388608 + r % 8388608) * 2 ^ (r / 8388608 - 1) := by unfold nv32; rw [if_neg hs]
    refine ⟨r / 8388608 - 1, 8388608 + r % 8388608, ?_, hn, by omega⟩
    have : (nv32 r).log2 = 23 + (r / 8388608 - 1) := by
      rw [hn, log2_mul_pow _ _ (by omega)]
      congr 1
      rw [Nat.log2_eq_iff (by omega)]
      have h52 : (2 : Nat) ^ 23 = 8388608 := by decide
      have h53 : (2 : Nat) ^ (23 + 1) = 16777216 := by decide
      rw [h52, h53]
      omega
    omega
/-- What is a single already is not rounded, wherever its last digit stands. -/
theorem nearest_gen32 (s : Bool) (mag : Nat) (place : Int) (r c : Nat) (h0 : mag ≠ 0) (hr : r < 2139095040) (hc : 0 ≤ place + (c : Int)) (hc2 : 149 ≤ c) (h : mag * 2 ^ (place + (c : Int)).toNat = nv32 r * 2 ^ (c - 149)) :
    FloatKind.f32.format.nearest s mag place = FloatKind.f32.format.word s r := by
  unfold Ieee.Format.nearest
  rw [if_neg h0, fmt_fb32', fmt_lp32, fmt_bin32, fmt_inf32]
  have hL : mag * 2 ^ (place + (c : Int)).toNat ≠ 0 := Nat.mul_ne_zero h0 (Nat.pos_iff_ne_zero.1 (Nat.two_pow_pos _))
  have hV : nv32 r ≠ 0 := by intro hz; rw [h, hz, Nat.zero_mul] at hL; exact hL rfl
  have hlog : (nv32 r).log2 + (c - 149) = mag.log2 + (place + (c : Int)).toNat := by rw [← log2_mul_pow _ _ hV, ← h, log2_mul_pow _ _ h0]
  obtain ⟨e, K, hle, hK, hrung⟩ := rung32 r hV
  have hlast : max (place + (mag.log2 : Int) - ((23 : Nat) : Int)) (-149) = (e : Int) - 149 := by omega
  simp only [hlast]
  have t3 : ((e : Int) - 149 - -149).toNat = e := by omega
  rw [t3]
  have hcut : Ieee.Toward.even.cut s (mag <<< (place - ((e : Int) - 149)).toNat) (((e : Int) - 149) - place).toNat = K := by
    apply cut_exact
    · rw [Nat.shiftLeft_eq, log2_mul_pow _ _ h0]
      omega
    · rw [Nat.shiftLeft_eq]
      rw [hK] at h
      by_cases hep : (e : Int) - 149 ≤ place
      · have z : ((e : Int) - 149 - place).toNat = 0 := by omega
        rw [z, Nat.pow_zero, Nat.mul_one]
        apply Nat.eq_of_mul_eq_mul_right (Nat.two_pow_pos (e + (c - 149)))
        rw [Nat.mul_assoc, ← Nat.pow_add]
        have e1 : (place - ((e : Int) - 149)).toNat + (e + (c - 149)) = (place + (c : Int)).toNat := by omega
        rw [e1, h, Nat.mul_assoc, ← Nat.pow_add]
      · have z : (place - ((e : Int) - 149)).toNat = 0 := by omega
        rw [z, Nat.pow_zero, Nat.mul_one]
        apply Nat.eq_of_mul_eq_mul_right (Nat.two_pow_pos (place + (c : Int)).toNat)
        rw [h, Nat.mul_assoc, Nat.mul_assoc, ← Nat.pow_add, ← Nat.pow_add, arith_a e c place hc hc2 hep]
  rw [hcut, hrung, Nat.min_eq_left (by omega)]

theorem signN_mod (neg : Bool) (r : Nat) (h : r < 9223372036854775808) : signN neg r % 9223372036854775808 = r ∧ decide (9223372036854775808 ≤ signN neg r) = neg ∧ signN neg r < 18446744073709551616 := by
  unfold signN
  cases neg
  · rw [if_neg (by decide)]; exact ⟨by omega, decide_eq_false (by omega), by omega⟩
  · rw [if_pos rfl]; exact ⟨by omega, decide_eq_true (by omega), by omega⟩
theorem signN_mod32 (neg : Bool) (r : Nat) (h : r < 2147483648) : signN32 neg r % 2147483648 = r ∧ decide (2147483648 ≤ signN32 neg r) = neg ∧ signN32 neg r < 4294967296 := by
  unfold signN32
  cases neg
  · rw [if_neg (by decide)]; exact ⟨by omega, decide_eq_false (by omega), by omega⟩
  · rw [if_pos rfl]; exact ⟨by omega, decide_eq_true (by omega), by omega⟩
theorem word_sign (neg : Bool) (r : Nat) : FloatKind.f64.format.word neg r = signN neg r := by
  unfold Ieee.Format.word signN
  rw [fmt_sw]
  cases neg
  · rfl
  · rw [if_pos rfl, if_pos rfl, Nat.add_comm]
theorem word_sign32 (neg : Bool) (r : Nat) : FloatKind.f32.format.word neg r = signN32 neg r := by
  unfold Ieee.Format.word signN32
  rw [fmt_sw32]
  cases neg
  · rfl
  · rw [if_pos rfl, if_pos rfl, Nat.add_comm]
theorem nearest_zero32 (s : Bool) (p : Int) : FloatKind.f32.format.nearest s 0 p = FloatKind.f32.format.word s 0 := by
  unfold Ieee.Format.nearest; rw [if_pos rfl]

/-- A number that is a single's value becomes that single. -/
theorem narrow_conv (neg : Bool) (R r : Nat) (hR : R < 9218868437227405312) (hr : r < 2139095040) (h : nv R = nv32 r * scl) : floatToFloatBits .f64 (signN neg R) .f32 = some (signN32 neg r) := by
  obtain ⟨a1, a2, a3⟩ := signN_mod neg R (by omega)
  obtain ⟨b1, b2, b3⟩ := signN_mod32 neg r (by omega)
  obtain ⟨m, p, ex, vx⟩ := read_fin (signN neg R) a3 (by rw [a1]; exact hR)
  rw [a1] at vx
  rw [a2] at ex
  have hn : FloatKind.f32.format.nearest neg m ((p : Int) - 1074) = signN32 neg r := by
    by_cases hm : m = 0
    · have : nv32 r = 0 := by
        rw [hm, Nat.zero_mul, h] at vx
        rcases Nat.mul_eq_zero.1 vx.symm with h' | h'
        · exact h'
        · exact absurd h' (Nat.pos_iff_ne_zero.1 scl_pos)
      have hr0 : r = 0 := by
        apply Classical.byContradiction
        intro hc
        have := nv_lt32 (r := 0) (s := r) (by omega)
        omega
      rw [hm, nearest_zero32, word_sign32, hr0]
    · rw [nearest_gen32 neg m ((p : Int) - 1074) r (kcl + 149) hm hr (by have := kcl_is; omega) (by omega) (by
        have e1 : ((p : Int) - 1074 + ((kcl + 149 : Nat) : Int)).toNat = p := by have := kcl_is; omega
        rw [e1, vx, h, Nat.add_sub_cancel]; rfl), word_sign32]
  unfold floatToFloatBits
  rw [if_neg (by decide)]
  show (match FloatKind.f64.format.read (signN neg R) with | .nan _ _ => none | .infinity s => some (FloatKind.f32.encode (.infinity s)) | .number s m e => if (FloatKind.f32.decode (FloatKind.f32.encode (.number s m e))).isInfinity then none else some (FloatKind.f32.encode (.number s m e))) = _
  rw [ex]
  have he : FloatKind.f32.encode (.number neg m ((p : Int) - 1074)) = signN32 neg r := hn
  simp only [he]
  obtain ⟨m2, p2, ex2, _⟩ := read_fin32 (signN32 neg r) b3 (by rw [b1]; exact hr)
  have hd : FloatKind.f32.decode (signN32 neg r) = .number (decide (2147483648 ≤ signN32 neg r)) m2 ((p2 : Int) - 149) := ex2
  rw [hd]
  rfl
theorem narrow_inf (neg : Bool) : floatToFloatBits .f64 (signN neg 9218868437227405312) .f32 = some (signN32 neg 2139095040) := by
  cases neg <;> decide +kernel
theorem widen_inf (neg : Bool) : floatToFloatBits .f32 (signN32 neg 2139095040) .f64 = some (signN neg 9218868437227405312) := by
  cases neg <;> decide +kernel

/-- A single's magnitude among the numbers'. -/
def mag64 (r : Nat) : Nat := if r < 8388608 then wMag r (-149) else wMag (8388608 + r % 8388608) (((r / 8388608 - 1 : Nat) : Int) - 149)
theorem mag64_val (r : Nat) (hr : r < 2139095040) : mag64 r < 9218868437227405312 ∧ nv (mag64 r) = nv32 r * scl := by
  unfold mag64 nv32
  by_cases h : r < 8388608
  · rw [if_pos h, if_pos h]
    by_cases h0 : r = 0
    · have e0 : wMag r (-149) = 0 := by unfold wMag; rw [if_pos h0]
      rw [e0, nv_zero, h0, Nat.zero_mul]; exact ⟨by decide, rfl⟩
    · have hb := bitLen_le r 23 (by simpa using h)
      obtain ⟨g1, g2⟩ := good_val r (-149) h0 (by omega) (by omega) (by omega)
      refine ⟨g1, ?_⟩
      have e : ((-149 : Int) + 1074).toNat = 0 + kcl := by decide
      rw [g2, e, scl_pow, Nat.pow_zero, Nat.one_mul]
  · rw [if_neg h, if_neg h]
    have hb := bitLen_le (8388608 + r % 8388608) 24 (by simp only [Nat.reducePow]; omega)
    obtain ⟨g1, g2⟩ := good_val (8388608 + r % 8388608) (((r / 8388608 - 1 : Nat) : Int) - 149) (by omega) (by omega) (by omega) (by omega)
    refine ⟨g1, ?_⟩
    have e : (((r / 8388608 - 1 : Nat) : Int) - 149 + 1074).toNat = r / 8388608 - 1 + kcl := by have := kcl_is; omega
    rw [g2, e, scl_pow, Nat.mul_assoc]
theorem widen_conv (neg : Bool) (r : Nat) (hr : r < 2139095040) : floatToFloatBits .f32 (signN32 neg r) .f64 = some (signN neg (mag64 r)) := by
  obtain ⟨v1, v2⟩ := mag64_val r hr
  obtain ⟨b1, b2, b3⟩ := signN_mod32 neg r (by omega)
  obtain ⟨a1, a2, a3⟩ := signN_mod neg (mag64 r) (by omega)
  obtain ⟨m, p, ex, vx⟩ := read_fin32 (signN32 neg r) b3 (by rw [b1]; exact hr)
  rw [b1] at vx
  rw [b2] at ex
  have hn : FloatKind.f64.format.nearest neg m ((p : Int) - 149) = signN neg (mag64 r) := by
    by_cases hm : m = 0
    · have hz : nv32 r = 0 := by rw [← vx, hm, Nat.zero_mul]
      have hr0 : mag64 r = 0 := by
        apply Classical.byContradiction
        intro hc
        have := nv_lt (r := 0) (s := mag64 r) (by omega)
        rw [v2, hz, Nat.zero_mul] at this
        omega
      rw [hm, nearest_zero, word_sign, hr0]
    · have e : (p : Int) - 149 = ((p + kcl : Nat) : Int) - 1074 := by have := kcl_is; omega
      rw [e, nearest_nv neg m (p + kcl) (mag64 r) hm v1 (by rw [scl_pow, ← Nat.mul_assoc, vx, v2]), word_sign]
  unfold floatToFloatBits
  rw [if_neg (by decide)]
  show (match FloatKind.f32.format.read (signN32 neg r) with | .nan _ _ => none | .infinity s => some (FloatKind.f64.encode (.infinity s)) | .number s m e => if (FloatKind.f64.decode (FloatKind.f64.encode (.number s m e))).isInfinity then none else some (FloatKind.f64.encode (.number s m e))) = _
  rw [ex]
  have he : FloatKind.f64.encode (.number neg m ((p : Int) - 149)) = signN neg (mag64 r) := hn
  simp only [he]
  obtain ⟨m2, p2, ex2, _⟩ := read_fin (signN neg (mag64 r)) a3 (by rw [a1]; exact v1)
  have hd : FloatKind.f64.decode (signN neg (mag64 r)) = .number (decide (9223372036854775808 ≤ signN neg (mag64 r))) m2 ((p2 : Int) - 1074) := ex2
  rw [hd]
  rfl

/-- The single of s steps of 2^u. -/
def mag32 (s : Nat) (u : Int) : Nat := if s = 0 then 0 else if u + (tzOf s : Int) + (lenOf s : Int) - 1 + 127 < 1 then oddOf s * 2 ^ (u + (tzOf s : Int) + 149).toNat else packN32 (u + (tzOf s : Int) + (lenOf s : Int) - 1 + 127).toNat (oddOf s * 2 ^ (24 - lenOf s) % 8388608)
theorem mag32_val (s : Nat) (u : Int) (h0 : s ≠ 0) (hs : s ≤ 16777216) (hu : -149 ≤ u) (ht : u + (bitLen s : Int) - 1 ≤ 127) : mag32 s u < 2139095040 ∧ nv32 (mag32 s u) = s * 2 ^ (u + 149).toNat := by
  have hsl : s < 18446744073709551616 := by omega
  have htl := tz_len s h0 hsl
  obtain ⟨l1, l2, l3⟩ := len_spec s h0 hsl
  obtain ⟨q, hq, hmq⟩ := odd_spec s h0 hsl
  have es : oddOf s * 2 ^ tzOf s = s := by rw [hq, Nat.mul_comm]; exact hmq.symm
  have hl : lenOf s ≤ 24 := by
    rcases Nat.lt_or_eq_of_le hs with h | h
    · exact bitLen_le _ 24 (Nat.lt_of_le_of_lt (odd_le s) (by simpa using h))
    · rw [h]; decide +kernel
  unfold mag32
  rw [if_neg h0]
  by_cases hx : u + (tzOf s : Int) + (lenOf s : Int) - 1 + 127 < 1
  · rw [if_pos hx]
    have hlt : oddOf s * 2 ^ (u + (tzOf s : Int) + 149).toNat < 8388608 := by
      have e1 : oddOf s * 2 ^ (u + (tzOf s : Int) + 149).toNat < 2 ^ lenOf s * 2 ^ (u + (tzOf s : Int) + 149).toNat := Nat.mul_lt_mul_of_pos_right l3 (Nat.two_pow_pos _)
      rw [← Nat.pow_add] at e1
      have e2 : 2 ^ (lenOf s + (u + (tzOf s : Int) + 149).toNat) ≤ 2 ^ 23 := Nat.pow_le_pow_right (by decide) (by omega)
      have e3 : (2 : Nat) ^ 23 = 8388608 := by decide
      omega
    refine ⟨by omega, ?_⟩
    unfold nv32
    rw [if_pos hlt]
    have e1 : (u + (tzOf s : Int) + 149).toNat = tzOf s + (u + 149).toNat := by omega
    rw [e1, Nat.pow_add, ← Nat.mul_assoc, es]
  · rw [if_neg hx]
    obtain ⟨X, hX⟩ : ∃ X, (u + (tzOf s : Int) + (lenOf s : Int) - 1 + 127).toNat = X := ⟨_, rfl⟩
    obtain ⟨F, hF⟩ : ∃ F, oddOf s * 2 ^ (24 - lenOf s) % 8388608 = F := ⟨_, rfl⟩
    rw [hX, hF]
    refine ⟨by unfold packN32; omega, ?_⟩
    have h52 : (2 : Nat) ^ 23 = 8388608 := by decide
    have h53 : (2 : Nat) ^ 24 = 16777216 := by decide
    have g1 : 2 ^ 23 ≤ oddOf s * 2 ^ (24 - lenOf s) := by
      have : 2 ^ (lenOf s - 1) * 2 ^ (24 - lenOf s) ≤ oddOf s * 2 ^ (24 - lenOf s) := Nat.mul_le_mul_right _ l2
      rw [← Nat.pow_add] at this
      have e2 : lenOf s - 1 + (24 - lenOf s) = 23 := by omega
      rwa [e2] at this
    have g2 : oddOf s * 2 ^ (24 - lenOf s) < 2 ^ 24 := by
      have : oddOf s * 2 ^ (24 - lenOf s) < 2 ^ lenOf s * 2 ^ (24 - lenOf s) := Nat.mul_lt_mul_of_pos_right l3 (Nat.two_pow_pos _)
      rw [← Nat.pow_add] at this
      have e2 : lenOf s + (24 - lenOf s) = 24 := by omega
      rwa [e2] at this
    have ew : 8388608 + F = oddOf s * 2 ^ (24 - lenOf s) := by
      rw [← hF]
      rw [h52] at g1
      rw [h53] at g2
      omega
    have hFl : F < 8388608 := by rw [← hF]; exact Nat.mod_lt _ (by decide)
    have ep : packN32 X F % 8388608 = F := by unfold packN32; omega
    have ed : packN32 X F / 8388608 = X := by unfold packN32; omega
    unfold nv32
    rw [if_neg (by unfold packN32; omega), ep, ed, ew, Nat.mul_assoc, ← Nat.pow_add]
    have e3 : 24 - lenOf s + (X - 1) = tzOf s + (u + 149).toNat := by omega
    rw [e3, Nat.pow_add, ← Nat.mul_assoc, es]
/-- The number of s steps becomes the single of s steps. -/
theorem narrow_steps (neg : Bool) (s : Nat) (u : Int) (hs : s ≤ 16777216) (hu : -149 ≤ u) (ht : u + (bitLen s : Int) - 1 ≤ 127) : floatToFloatBits .f64 (signN neg (wMag s u)) .f32 = some (signN32 neg (mag32 s u)) := by
  by_cases h0 : s = 0
  · subst h0
    have e1 : wMag 0 u = 0 := by unfold wMag; rw [if_pos rfl]
    have e2 : mag32 0 u = 0 := by unfold mag32; rw [if_pos rfl]
    rw [e1, e2]
    exact narrow_conv neg 0 0 (by decide) (by decide) (by rw [nv_zero, nv_zero32, Nat.zero_mul])
  · obtain ⟨a1, a2⟩ := good_val s u h0 (by omega) (by omega) (by omega)
    obtain ⟨b1, b2⟩ := mag32_val s u h0 hs hu ht
    refine narrow_conv neg _ _ a1 b1 ?_
    have e : (u + 1074).toNat = (u + 149).toNat + kcl := by have := kcl_is; omega
    rw [a2, b2, e, scl_pow, Nat.mul_assoc]
end Go.Proofs.Ythnblidkbcficaa

namespace Go.Proofs.Ythnblidkbcficaa
open Go Go.RowKit Go.IntWalk

theorem nv_inj {r s : Nat} (h : nv r = nv s) : r = s := by
  rcases Nat.lt_trichotomy r s with c | c | c
  · have := nv_lt c; omega
  · exact c
  · have := nv_lt c; omega
theorem nv_inj32 {r s : Nat} (h : nv32 r = nv32 s) : r = s := by
  rcases Nat.lt_trichotomy r s with c | c | c
  · have := nv_lt32 c; omega
  · exact c
  · have := nv_lt32 c; omega
theorem bitLen_mul_pow (m k : Nat) (h : m ≠ 0) : bitLen (m * 2 ^ k) = bitLen m + k := by
  unfold bitLen
  rw [if_neg h, if_neg (Nat.mul_ne_zero h (Nat.pos_iff_ne_zero.1 (Nat.two_pow_pos k))), log2_mul_pow m k h]
  omega
theorem bitLen_mono {a b : Nat} (h : a ≤ b) : bitLen a ≤ bitLen b := bitLen_le a _ (Nat.lt_of_le_of_lt h (bitLen_hi b))
theorem restN_zero {m s : Nat} : restN m s = 0 ↔ m % 2 ^ s = 0 := by
  unfold restN
  constructor
  · intro h
    apply Classical.byContradiction
    intro hc
    rw [if_neg hc] at h
    split at h
    · omega
    · split at h <;> omega
  · intro h; rw [if_pos h]
/-- Nothing is left over just if so many steps are what there was. -/
theorem step_value (m : Nat) (sh mode : Int) (neg : Bool) : cutR m sh = 0 ↔ stepQ m sh mode neg * 2 ^ sh.toNat = m * 2 ^ (-sh).toNat := by
  unfold stepQ
  by_cases hs : sh ≤ 0
  · have hr : cutR m sh = 0 := by unfold cutR; rw [if_pos hs]
    have hq : cutQ m sh = m * 2 ^ (-sh).toNat := by unfold cutQ; rw [if_pos hs]
    have e : sh.toNat = 0 := by omega
    rw [hr, hq, e]
    simp
  · have hq : cutQ m sh = m / 2 ^ sh.toNat := by unfold cutQ; rw [if_neg hs]
    have hr : cutR m sh = restN m sh.toNat := by unfold cutR; rw [if_neg hs]
    have e : (-sh).toNat = 0 := by omega
    have hd := Nat.div_add_mod m (2 ^ sh.toNat)
    have hl := Nat.mod_lt m (Nat.two_pow_pos sh.toNat)
    rw [hr, hq, e, Nat.pow_zero, Nat.mul_one]
    constructor
    · intro h
      rw [if_neg (fun c => c.1 h)]
      rw [restN_zero] at h
      rw [Nat.mul_comm, Nat.add_zero]
      omega
    · intro h
      rw [restN_zero]
      have h2 : (m / 2 ^ sh.toNat) * 2 ^ sh.toNat = 2 ^ sh.toNat * (m / 2 ^ sh.toNat) := Nat.mul_comm _ _
      split at h
      · rw [Nat.add_mul, Nat.one_mul] at h
        omega
      · rw [Nat.add_zero] at h
        omega
theorem flag_zero (P L H : Int) (m : Nat) (e mode : Int) (neg : Bool) : rFlag P L H m e mode neg = 0 ↔ ¬ rOver P L H m e mode neg ∧ cutR m (rUnit P L m e - e) = 0 := by
  unfold rFlag
  by_cases h : rOver P L H m e mode neg
  · rw [if_pos h]; exact ⟨fun c => by omega, fun c => absurd h c.1⟩
  · rw [if_neg h]
    by_cases h2 : cutR m (rUnit P L m e - e) = 0
    · rw [if_pos h2]; exact ⟨fun _ => ⟨h, h2⟩, fun _ => rfl⟩
    · rw [if_neg h2]
      refine ⟨fun c => ?_, fun c => absurd c.2 h2⟩
      split at c <;> omega
/-- What has room in the digits, from the least step on, is not rounded. -/
theorem fits_exact (P L H : Int) (m : Nat) (e mode : Int) (neg : Bool) (h0 : m ≠ 0) (hfit : (bitLen m : Int) ≤ P) (hlow : L - P + 1 ≤ e) (htop : e + (bitLen m : Int) - 1 ≤ H) :
    rFlag P L H m e mode neg = 0 ∧ ¬ rOver P L H m e mode neg ∧ rUnit P L m e ≤ e ∧ rSteps P L m e mode neg = m * 2 ^ (e - rUnit P L m e).toNat := by
  have hu : rUnit P L m e - e ≤ 0 := by unfold rUnit rTop; omega
  have hr : cutR m (rUnit P L m e - e) = 0 := by unfold cutR; rw [if_pos hu]
  have hs : rSteps P L m e mode neg = m * 2 ^ (e - rUnit P L m e).toNat := by
    unfold rSteps stepQ
    rw [if_neg (fun c => c.1 hr)]
    unfold cutQ
    have e1 : (-(rUnit P L m e - e)).toNat = (e - rUnit P L m e).toNat := by omega
    rw [if_pos hu, Nat.add_zero, e1]
  have ho : ¬ rOver P L H m e mode neg := by
    unfold rOver
    rw [hs, bitLen_mul_pow _ _ h0]
    omega
  exact ⟨(flag_zero P L H m e mode neg).2 ⟨ho, hr⟩, ho, by omega, hs⟩

/-- A number's value, by its parts. -/
theorem parts_val (x : Nat) (hf : x % 9223372036854775808 < 9218868437227405312) : expOf x ≠ 2047 ∧ negOf x = decide (9223372036854775808 ≤ x) ∧ canonOf x = x ∧ (mantOf x = 0 ↔ x % 9223372036854775808 = 0) ∧ (mantOf x ≠ 0 → pMant x ≠ 0 ∧ -1074 ≤ pExp x ∧ nv (x % 9223372036854775808) = pMant x * 2 ^ (pExp x + 1074).toNat ∧ bitLen (pMant x) ≤ 53 ∧ pExp x + (bitLen (pMant x) : Int) - 1 ≤ 1023 ∧ pMant x < 18446744073709551616) := by
  have hc : canonOf x = x := by unfold canonOf; rw [if_neg (by omega)]
  have he : expOf x = x % 9223372036854775808 / 4503599627370496 := by unfold expOf; rw [hc]; omega
  have hfr : fracOf x = x % 9223372036854775808 % 4503599627370496 := by unfold fracOf; rw [hc]; omega
  have hne : expOf x ≠ 2047 := by omega
  refine ⟨hne, by unfold negOf; rw [hc], hc, ?_, ?_⟩
  · unfold mantOf
    split <;> omega
  · intro hm
    have hml := mant_lt x
    have hm64 : mantOf x < 18446744073709551616 := by omega
    obtain ⟨q, hq, hmq⟩ := odd_spec _ hm hm64
    have es : oddOf (mantOf x) * 2 ^ tzOf (mantOf x) = mantOf x := by rw [hq, Nat.mul_comm]; exact hmq.symm
    have hn : nv (x % 9223372036854775808) = mantOf x * 2 ^ (max (expOf x) 1 - 1) := by
      unfold nv mantOf
      rw [hfr, he]
      by_cases hs : x % 9223372036854775808 < 4503599627370496
      · have e0 : x % 9223372036854775808 / 4503599627370496 = 0 := by omega
        rw [if_pos hs, e0, if_neg (by omega), Nat.mod_eq_of_lt hs]
        simp
      · have e0 : max (x % 9223372036854775808 / 4503599627370496) 1 = x % 9223372036854775808 / 4503599627370496 := by omega
        rw [if_neg hs, if_pos (by omega), e0, Nat.add_comm]
    have hl1 := tz_len _ hm hm64
    have hbl : bitLen (mantOf x) ≤ 53 := bitLen_le _ 53 (by simpa using hml)
    have hbo : bitLen (oddOf (mantOf x)) = lenOf (mantOf x) := rfl
    unfold pMant pExp
    rw [if_neg hne, if_neg (by omega), hn, hbo]
    refine ⟨by omega, by omega, ?_, by omega, ?_, by have := odd_le (mantOf x); omega⟩
    · have e1 : (max (expOf x : Int) 1 - 1075 + (tzOf (mantOf x) : Int) + 1074).toNat = tzOf (mantOf x) + (max (expOf x) 1 - 1) := by omega
      rw [e1, Nat.pow_add, ← Nat.mul_assoc, es]
    · by_cases h0 : expOf x = 0
      · rw [h0]; omega
      · omega
end Go.Proofs.Ythnblidkbcficaa

namespace Go.Proofs.Ythnblidkbcficaa
open Go Go.RowKit Go.IntWalk

theorem cutQ_nat (m e : Nat) : cutQ m (e : Int) = m / 2 ^ e := by
  unfold cutQ
  by_cases h : (e : Int) ≤ 0
  · have h0 : e = 0 := by omega
    subst h0
    rw [if_pos h]; simp
  · rw [if_neg h, Int.toNat_natCast]
theorem cutR_nat (m e : Nat) : cutR m (e : Int) = restN m e := by
  unfold cutR
  by_cases h : (e : Int) ≤ 0
  · have h0 : e = 0 := by omega
    subst h0
    rw [if_pos h]
    unfold restN
    rw [if_pos (by rw [Nat.pow_zero, Nat.mod_one])]
  · rw [if_neg h, Int.toNat_natCast]
/-- The machine's cut, and ours. -/
theorem cut_near (s : Bool) (m e : Nat) : Ieee.Toward.even.cut s m e = stepQ m (e : Int) 0 false := by
  have hlt : m < 2 ^ (m.log2 + 1) := Nat.lt_log2_self
  have hg : ∀ (o : Bool) (l : Nat), growsOf 0 false o l = (l == 3 || (l == 2 && o)) := fun o l => by unfold growsOf; rw [if_pos rfl]
  unfold stepQ
  rw [cutQ_nat, cutR_nat, hg]
  unfold Ieee.Toward.cut
  simp only
  by_cases he : e ≤ m.log2 + 2
  · have e1 : min e (m.log2 + 2) = e := Nat.min_eq_left he
    have e2 : (1 <<< e : Nat) = 2 ^ e := by rw [Nat.shiftLeft_eq, Nat.one_mul]
    simp only [e1, e2]
    congr 1
    have ho : (m / 2 ^ e % 2 == 1) = decide (m / 2 ^ e % 2 = 1) := by rw [Bool.eq_iff_iff, beq_iff_eq, decide_eq_true_eq]
    rw [ho]
    have hpos := Nat.two_pow_pos e
    unfold restN
    obtain ⟨r, hr⟩ : ∃ r, m % 2 ^ e = r := ⟨_, rfl⟩
    obtain ⟨P, hP⟩ : ∃ P, 2 ^ e = P := ⟨_, rfl⟩
    rw [hP] at hpos
    rw [hr, hP]
    by_cases c0 : r = 0
    · have d1 : ¬ P < 2 * r := by omega
      have d2 : (P == 2 * r) = false := by rw [beq_eq_false_iff_ne]; omega
      rw [if_pos c0, d2, decide_eq_false d1]
      simp
    · rw [if_neg c0]
      rcases Nat.lt_trichotomy (2 * r) P with c | c | c
      · have d1 : ¬ P < 2 * r := by omega
        have d2 : (P == 2 * r) = false := by rw [beq_eq_false_iff_ne]; omega
        have hL : (if 2 * r < P then 1 else if 2 * r = P then 2 else 3 : Nat) = 1 := if_pos c
        rw [hL, d2, decide_eq_false d1]
        simp
      · have d1 : ¬ P < 2 * r := by omega
        have d2 : (P == 2 * r) = true := by rw [beq_iff_eq]; omega
        have hL : (if 2 * r < P then 1 else if 2 * r = P then 2 else 3 : Nat) = 2 := by rw [if_neg (by omega), if_pos c]
        rw [hL, d2, decide_eq_false d1]
        by_cases o : m / P % 2 = 1
        · simp [o]
        · simp [o]
      · have d1 : P < 2 * r := by omega
        have hL : (if 2 * r < P then 1 else if 2 * r = P then 2 else 3 : Nat) = 3 := by rw [if_neg (by omega), if_neg (by omega)]
        rw [hL, decide_eq_true d1]
        simp
  · have e1 : min e (m.log2 + 2) = m.log2 + 2 := Nat.min_eq_right (by omega)
    have e2 : (1 <<< (m.log2 + 2) : Nat) = 2 * 2 ^ (m.log2 + 1) := by rw [Nat.shiftLeft_eq, Nat.one_mul, Nat.pow_succ 2 (m.log2 + 1), Nat.mul_comm]
    simp only [e1, e2]
    have h4 : 2 * 2 ^ (m.log2 + 1) ≤ 2 ^ e := by
      have : 2 ^ (m.log2 + 1 + 1) ≤ 2 ^ e := Nat.pow_le_pow_right (by decide) (by omega)
      rwa [Nat.pow_succ 2 (m.log2 + 1), Nat.mul_comm] at this
    obtain ⟨P, hP⟩ : ∃ P, 2 ^ e = P := ⟨_, rfl⟩
    obtain ⟨Q, hQ⟩ : ∃ Q, 2 ^ (m.log2 + 1) = Q := ⟨_, rfl⟩
    rw [hP] at h4
    rw [hQ] at h4 hlt
    unfold restN
    rw [hP, hQ]
    have q1 : m / P = 0 := Nat.div_eq_of_lt (by omega)
    have q2 : m / (2 * Q) = 0 := Nat.div_eq_of_lt (by omega)
    have r1 : m % P = m := Nat.mod_eq_of_lt (by omega)
    have r2 : m % (2 * Q) = m := Nat.mod_eq_of_lt (by omega)
    rw [q1, q2, r1, r2]
    have d1 : ¬ 2 * Q < 2 * m := by omega
    have d2 : (2 * Q == 2 * m) = false := by rw [beq_eq_false_iff_ne]; omega
    rw [d2, decide_eq_false d1]
    by_cases c0 : m = 0
    · rw [if_pos c0]; simp
    · have hL : (if 2 * m < P then 1 else if 2 * m = P then 2 else 3 : Nat) = 1 := if_pos (by omega)
      rw [if_neg c0, hL]; simp
theorem stepQ_left (m k : Nat) (sh : Int) (h : sh + (k : Int) = 0) : stepQ (m * 2 ^ k) ((0 : Nat) : Int) 0 false = stepQ m sh 0 false := by
  have q1 : cutQ (m * 2 ^ k) ((0 : Nat) : Int) = m * 2 ^ k := by rw [cutQ_nat]; simp
  have r1 : cutR (m * 2 ^ k) ((0 : Nat) : Int) = 0 := by
    rw [cutR_nat]
    unfold restN
    rw [if_pos (by rw [Nat.pow_zero, Nat.mod_one])]
  have q2 : cutQ m sh = m * 2 ^ k := by unfold cutQ; rw [if_pos (by omega), show (-sh).toNat = k by omega]
  have r2 : cutR m sh = 0 := by unfold cutR; rw [if_pos (by omega)]
  unfold stepQ
  rw [q1, r1, q2, r2]
theorem wMag_val (s : Nat) (u : Int) (hs : s ≤ 9007199254740992) (hu : -1074 ≤ u) (ht : u + (bitLen s : Int) - 1 ≤ 1023) : nv (wMag s u) = s * 2 ^ (u + 1074).toNat ∧ wMag s u < 9218868437227405312 := by
  by_cases h0 : s = 0
  · rw [h0, Nat.zero_mul]
    have : wMag 0 u = 0 := by unfold wMag; rw [if_pos rfl]
    rw [this, nv_zero]
    exact ⟨rfl, by decide⟩
  · exact ⟨(good_val s u h0 hs hu ht).2, (good_val s u h0 hs hu ht).1⟩
/-- The machine's rounding, and ours. -/
theorem near_all (m : Nat) (p : Int) (h0 : m ≠ 0) : FloatKind.f64.format.nearest false m p = rMag 53 (-1022) 1023 m p 0 false := by
  unfold Ieee.Format.nearest
  rw [if_neg h0, fmt_fb, fmt_lp, fmt_bin, fmt_inf]
  have hbl : bitLen m = m.log2 + 1 := by unfold bitLen; rw [if_neg h0]
  obtain ⟨u, hu⟩ : ∃ u, rUnit 53 (-1022) m p = u := ⟨_, rfl⟩
  have hu1 : -1074 ≤ u := by rw [← hu]; unfold rUnit; omega
  have l2 : max (p + (m.log2 : Int) - ((52 : Nat) : Int)) (-1074) = u := by rw [← hu]; unfold rUnit rTop; rw [hbl]; omega
  simp only [l2]
  obtain ⟨e, he⟩ := Int.eq_ofNat_of_zero_le (show 0 ≤ u + 1074 by omega)
  have t4 : (u - -1074).toNat = e := by omega
  have hcut : Ieee.Toward.even.cut false (m <<< (p - u).toNat) (u - p).toNat = stepQ m (u - p) 0 false := by
    by_cases c : u ≤ p
    · have z : (u - p).toNat = 0 := by omega
      rw [z, Nat.shiftLeft_eq, cut_near]
      exact stepQ_left m _ (u - p) (by omega)
    · have z : (p - u).toNat = 0 := by omega
      rw [z, Nat.shiftLeft_zero, cut_near]
      congr 1
      omega
  have hst : rSteps 53 (-1022) m p 0 false = stepQ m (u - p) 0 false := by unfold rSteps; rw [hu]
  have hsl := rSteps_le 53 (-1022) m p 0 false 53 rfl
  have h53 : (2 : Nat) ^ 53 = 9007199254740992 := by decide
  rw [hcut, t4, word_false]
  rw [hst, h53] at hsl
  obtain ⟨S, hS⟩ : ∃ S, stepQ m (u - p) 0 false = S := ⟨_, rfl⟩
  rw [hS] at hsl hst ⊢
  have hfull : e ≠ 0 → 4503599627370496 ≤ S := by
    intro hne
    have hq := cutQ_ge m p u 52 h0 (by rw [hbl]; omega)
    have h52 : (2 : Nat) ^ 52 = 4503599627370496 := by decide
    rw [h52] at hq
    rw [← hS]
    unfold stepQ
    omega
  have hval : nv (e * 4503599627370496 + S) = S * 2 ^ e := by
    unfold nv
    by_cases c : e * 4503599627370496 + S < 4503599627370496
    · have e0 : e = 0 := by
        apply Classical.byContradiction
        intro hne
        have := hfull hne
        omega
      rw [if_pos c, e0, Nat.zero_mul, Nat.zero_add, Nat.pow_zero, Nat.mul_one]
    · rw [if_neg c]
      have hS1 : 4503599627370496 ≤ S := by
        by_cases hne : e = 0
        · rw [hne] at c; omega
        · exact hfull hne
      by_cases c2 : S = 9007199254740992
      · have d1 : (e * 4503599627370496 + S) / 4503599627370496 = e + 2 := by omega
        have d2 : (e * 4503599627370496 + S) % 4503599627370496 = 0 := by omega
        rw [d1, d2, c2, Nat.add_zero, show e + 2 - 1 = e + 1 by omega, Nat.pow_succ, Nat.mul_comm (2 ^ e) 2, ← Nat.mul_assoc]
      · have d1 : (e * 4503599627370496 + S) / 4503599627370496 = e + 1 := by omega
        have d2 : (e * 4503599627370496 + S) % 4503599627370496 = S - 4503599627370496 := by omega
        rw [d1, d2, Nat.add_sub_cancel, Nat.add_sub_cancel' hS1]
  unfold rMag
  by_cases ho : rOver 53 (-1022) 1023 m p 0 false
  · rw [if_pos ho]
    have hb : bigM 53 1023 0 false = 9218868437227405312 := by decide +kernel
    rw [hb]
    apply Nat.min_eq_right
    unfold rOver at ho
    rw [hst, hu] at ho
    have hbS := bitLen_le S 54 (by simp only [Nat.reducePow]; omega)
    by_cases c2 : bitLen S ≤ 53
    · have : 4503599627370496 ≤ S := hfull (by omega)
      omega
    · have : 9007199254740992 ≤ S := by
        apply Classical.byContradiction
        intro hc
        exact c2 (bitLen_le S 53 (by simp only [Nat.reducePow]; omega))
      omega
  · rw [if_neg ho, hst, hu]
    unfold rOver at ho
    rw [hst, hu] at ho
    obtain ⟨w1, w2⟩ := wMag_val S u hsl hu1 (by omega)
    have a2 : (u + 1074).toNat = e := by omega
    rw [a2, ← hval] at w1
    have := nv_inj w1
    rw [this]
    rw [this] at w2
    exact Nat.min_eq_left (by omega)
/-- Rounded to the nearest: a magnitude; a number with its sign. -/
def rndM (m : Nat) (e : Int) : Nat := if m = 0 then 0 else rMag 53 (-1022) 1023 m e 0 false
def rndI (z e : Int) : Nat := signN (decide (z < 0)) (rndM z.natAbs e)
theorem near_rnd (s : Bool) (m : Nat) (p : Int) : FloatKind.f64.format.nearest s m p = signN s (rndM m p) ∧ rndM m p ≤ 9218868437227405312 := by
  unfold rndM
  by_cases h : m = 0
  · rw [if_pos h, h, nearest_zero]
    refine ⟨?_, by decide⟩
    unfold signN
    cases s
    · rw [word_false]; rfl
    · rw [word_true]; rfl
  · rw [if_neg h, ← near_all m p h]
    obtain ⟨l, hl⟩ : ∃ l, max (p + (m.log2 : Int) - (FloatKind.f64.format.fractionBits : Int)) FloatKind.f64.format.leastPlace = l := ⟨_, rfl⟩
    obtain ⟨R, hR⟩ : ∃ R, min ((l - FloatKind.f64.format.leastPlace).toNat * FloatKind.f64.format.binade + Ieee.Toward.even.cut false (m <<< (p - l).toNat) (l - p).toNat) FloatKind.f64.format.infRung = R := ⟨_, rfl⟩
    have hn : ∀ t, FloatKind.f64.format.nearest t m p = FloatKind.f64.format.word t R := fun t => by
      rw [← hR]
      unfold Ieee.Format.nearest
      rw [if_neg h]
      simp only [hl]
      rfl
    rw [hn, hn, word_false]
    refine ⟨?_, by rw [← hR, fmt_inf]; exact Nat.min_le_right _ _⟩
    unfold signN
    cases s
    · rw [word_false]; rfl
    · rw [word_true, Nat.add_comm]; rfl
/-- The rounding hangs on the value alone. -/
theorem cutQ_sc (m k : Nat) (sh : Int) : cutQ (m * 2 ^ k) (sh + k) = cutQ m sh := by
  unfold cutQ
  by_cases h1 : sh + (k : Int) ≤ 0
  · rw [if_pos h1, if_pos (by omega), Nat.mul_assoc, ← Nat.pow_add]
    congr 2
    omega
  · rw [if_neg h1]
    by_cases h2 : sh ≤ 0
    · rw [if_pos h2]
      have e : k = (-sh).toNat + (sh + (k : Int)).toNat := by omega
      conv => lhs; arg 1; rw [e, Nat.pow_add, ← Nat.mul_assoc]
      rw [Nat.mul_div_cancel _ (Nat.two_pow_pos _)]
    · rw [if_neg h2]
      have e : (sh + (k : Int)).toNat = sh.toNat + k := by omega
      rw [e, Nat.pow_add, Nat.mul_div_mul_right _ _ (Nat.two_pow_pos k)]
theorem restN_sc (m k s : Nat) : restN (m * 2 ^ k) (s + k) = restN m s := by
  have hp := Nat.two_pow_pos k
  have e : (m * 2 ^ k) % 2 ^ (s + k) = (m % 2 ^ s) * 2 ^ k := by rw [Nat.pow_add, Nat.mul_mod_mul_right]
  have e2 : 2 ^ (s + k) = 2 ^ s * 2 ^ k := Nat.pow_add ..
  unfold restN
  rw [e, e2]
  have c1 : (m % 2 ^ s) * 2 ^ k = 0 ↔ m % 2 ^ s = 0 := by
    rw [Nat.mul_eq_zero]
    exact ⟨fun h => h.resolve_right (by omega), Or.inl⟩
  have c2 : 2 * ((m % 2 ^ s) * 2 ^ k) < 2 ^ s * 2 ^ k ↔ 2 * (m % 2 ^ s) < 2 ^ s := by
    rw [← Nat.mul_assoc]
    exact Nat.mul_lt_mul_right hp
  have c3 : 2 * ((m % 2 ^ s) * 2 ^ k) = 2 ^ s * 2 ^ k ↔ 2 * (m % 2 ^ s) = 2 ^ s := by
    rw [← Nat.mul_assoc]
    exact Nat.mul_right_cancel_iff hp
  simp only [c1, c2, c3]
theorem cutR_sc (m k : Nat) (sh : Int) : cutR (m * 2 ^ k) (sh + k) = cutR m sh := by
  unfold cutR
  by_cases h1 : sh + (k : Int) ≤ 0
  · rw [if_pos h1, if_pos (by omega)]
  · rw [if_neg h1]
    by_cases h2 : sh ≤ 0
    · rw [if_pos h2]
      have e : k = (-sh).toNat + (sh + (k : Int)).toNat := by omega
      rw [restN_zero]
      conv => lhs; arg 1; rw [e, Nat.pow_add, ← Nat.mul_assoc]
      exact Nat.mul_mod_left _ _
    · rw [if_neg h2]
      have e : (sh + (k : Int)).toNat = sh.toNat + k := by omega
      rw [e, restN_sc]
theorem rMag_sc (P L H : Int) (m k : Nat) (e mode : Int) (neg : Bool) (h0 : m ≠ 0) : rMag P L H (m * 2 ^ k) (e - k) mode neg = rMag P L H m e mode neg := by
  have hT : rTop (m * 2 ^ k) (e - k) = rTop m e := by
    unfold rTop
    rw [bitLen_mul_pow m k h0]
    omega
  have hU : rUnit P L (m * 2 ^ k) (e - k) = rUnit P L m e := by unfold rUnit; rw [hT]
  have e1 : rUnit P L m e - (e - (k : Int)) = rUnit P L m e - e + (k : Int) := by omega
  have hS : rSteps P L (m * 2 ^ k) (e - k) mode neg = rSteps P L m e mode neg := by
    unfold rSteps stepQ
    rw [hU, e1, cutQ_sc, cutR_sc]
  have hO : rOver P L H (m * 2 ^ k) (e - k) mode neg ↔ rOver P L H m e mode neg := by unfold rOver; rw [hU, hS]
  unfold rMag
  rw [hU, hS]
  by_cases c : rOver P L H m e mode neg
  · rw [if_pos c, if_pos (hO.2 c)]
  · rw [if_neg c, if_neg (fun d => c (hO.1 d))]
theorem rndM_sc (m k : Nat) (e : Int) : rndM (m * 2 ^ k) (e - k) = rndM m e := by
  unfold rndM
  by_cases h : m = 0
  · rw [if_pos h, h, Nat.zero_mul, if_pos rfl]
  · rw [if_neg h, if_neg (Nat.mul_ne_zero h (Nat.pos_iff_ne_zero.1 (Nat.two_pow_pos k))), rMag_sc _ _ _ _ _ _ _ _ h]
/-- A sum of finite numbers. -/
theorem add_rnd (x y : Nat) (hx : x < 18446744073709551616) (hy : y < 18446744073709551616) (fx : x % 9223372036854775808 < 9218868437227405312) (fy : y % 9223372036854775808 < 9218868437227405312) :
    ∃ s, FloatKind.f64.format.add x y = some (signN s (rndM (sv x + sv y).natAbs (-1074))) ∧ (sv x + sv y ≠ 0 → s = decide (sv x + sv y < 0)) := by
  obtain ⟨m, p, ex, vx⟩ := read_fin x hx fx
  obtain ⟨n, q, ey, vy⟩ := read_fin y hy fy
  unfold Ieee.Format.add
  rw [ex, ey]
  obtain ⟨mag, b, e, hv⟩ := sum_val _ _ m n p q (sv x) (sv y) (sv_form x m p vx) (sv_form y n q vy)
  rw [e]
  refine ⟨if sv x + sv y = 0 then decide (9223372036854775808 ≤ x) && decide (9223372036854775808 ≤ y) else decide (sv x + sv y < 0), ?_, fun h => by rw [if_neg h]⟩
  show some (FloatKind.f64.format.nearest _ mag ((b : Int) - 1074)) = _
  have := rndM_sc mag b ((b : Int) - 1074)
  rw [hv, show (b : Int) - 1074 - (b : Int) = -1074 by omega] at this
  rw [(near_rnd _ mag _).1, this]
/-- A product of finite numbers. -/
theorem mul_rnd (x y : Nat) (hx : x < 18446744073709551616) (hy : y < 18446744073709551616) (fx : x % 9223372036854775808 < 9218868437227405312) (fy : y % 9223372036854775808 < 9218868437227405312) :
    ∃ s, FloatKind.f64.format.mul x y = some (signN s (rndM (sv x * sv y).natAbs (-2148))) ∧ (sv x * sv y ≠ 0 → s = decide (sv x * sv y < 0)) := by
  obtain ⟨m, p, ex, vx⟩ := read_fin x hx fx
  obtain ⟨n, q, ey, vy⟩ := read_fin y hy fy
  have fa := sv_form x m p vx
  have fb := sv_form y n q vy
  unfold Ieee.Format.mul
  rw [ex, ey]
  refine ⟨decide (9223372036854775808 ≤ x) ^^ decide (9223372036854775808 ≤ y), ?_, fun h => ?_⟩
  · show some (FloatKind.f64.format.nearest _ (m * n) ((p : Int) - 1074 + ((q : Int) - 1074))) = _
    have hv : (sv x * sv y).natAbs = m * n * 2 ^ (p + q) := by
      have ha : (sv x).natAbs = m * 2 ^ p := by
        rw [fa]; split <;> simp only [Int.natAbs_neg, Int.natAbs_natCast]
      have hb : (sv y).natAbs = n * 2 ^ q := by
        rw [fb]; split <;> simp only [Int.natAbs_neg, Int.natAbs_natCast]
      rw [Int.natAbs_mul, ha, hb, Nat.pow_add, Nat.mul_assoc, Nat.mul_assoc, Nat.mul_left_comm (2 ^ p)]
    have := rndM_sc (m * n) (p + q) ((p : Int) - 1074 + ((q : Int) - 1074))
    rw [← hv, show (p : Int) - 1074 + ((q : Int) - 1074) - ((p + q : Nat) : Int) = -2148 by omega] at this
    rw [(near_rnd _ (m * n) _).1, this]
  · obtain ⟨A, hA⟩ : ∃ A, m * 2 ^ p = A := ⟨_, rfl⟩
    obtain ⟨B, hB⟩ : ∃ B, n * 2 ^ q = B := ⟨_, rfl⟩
    rw [hA] at fa
    rw [hB] at fb
    rw [fa, fb] at h ⊢
    have hA0 : A ≠ 0 := fun c => h (by rw [c]; split <;> simp)
    have hB0 : B ≠ 0 := fun c => h (by rw [c]; split <;> simp)
    have hp : (0 : Int) < (A : Int) * (B : Int) := Int.mul_pos (by omega) (by omega)
    by_cases c : 9223372036854775808 ≤ x <;> by_cases d : 9223372036854775808 ≤ y
    · simp only [c, d, decide_true, if_true, Int.neg_mul_neg, Bool.xor_self]
      rw [eq_comm, decide_eq_false_iff_not]; omega
    · simp only [c, d, decide_true, decide_false, if_true, Int.neg_mul]
      simp
      omega
    · simp only [c, d, decide_true, decide_false, if_true, Int.mul_neg]
      simp
      omega
    · simp only [c, d, decide_false]
      simp
      omega
end Go.Proofs.Ythnblidkbcficaa
