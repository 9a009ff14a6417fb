
/- Turning numbers into singles and back where nothing is lost; what a rounding to singles gives; no program is spoken of. -/
import Derived.Test.YthakhmnlpmfdgaaP8
import Derived.Test.YthakhmnlpmfdgaaP7
import Derived.Laws.FloatArith
namespace Go.Proofs.Ythakhmnlpmfdgaa
open Go Go.RowKit Go.IntWalk

/-- How many of the numbers' least steps make one of the singles'. -/
def kcl : Nat := 925
def scl : Nat := 2 ^ kcl
theorem scl_pow (a : Nat) : 2 ^ (a + kcl) = 2 ^ a * scl := Nat.pow_add 2 a kcl
theorem scl_pos : 0 < scl := Nat.two_pow_pos kcl
theorem kcl_is : kcl = 925 := rfl
theorem arith_a (e c : Nat) (place : Int) (hc : 0 ≤ place + (c : Int)) (hc2 : 149 ≤ c) (h : ¬ (e : Int) - 149 ≤ place) : e + (c - 149) = ((e : Int) - 149 - place).toNat + (place + (c : Int)).toNat := by omega
theorem fmt_fb32' : FloatKind.f32.format.fractionBits = 23 := by decide
theorem rung32 (r : Nat) (hV : nv32 r ≠ 0) : ∃ e K : Nat, e = (nv32 r).log2 - 23 ∧ nv32 r = K * 2 ^ e ∧ e * 8388608 + K = r := by
  by_cases hs : r < 8388608
  · have hn : nv32 r = r := by unfold nv32; rw [if_pos hs]
    refine ⟨0, r, ?_, by rw [hn]; omega, by omega⟩
    have : (nv32 r).log2 < 23 := by rw [Nat.log2_lt hV, hn]; simpa using hs
    omega
  · have hn : nv32 r = (8388608 + r % 8388608) * 2 ^ (r / 8388608 - 1) := by unfold nv32; rw [if_neg hs]
    refine ⟨r / 8388608 - 1, 8388608 + r % 8388608, ?_, hn, by omega⟩
    have : (nv32 r).log2 = 23 + (r / 8388608 - 1) := by
      rw [hn, log2_mul_pow _ _ (by omega)]
      congr 1
      rw [Nat.log2_eq_iff (by omega)]
      have h52 : (2 : Nat) ^ 23 = 8388608 := by decide
      have h53 : (2 : Nat) ^ (23 + 1) = 16777216 := by decide
      rw [h52, h53]
      omega
    omega
/-- What is a single already is not rounded, wherever its last digit stands. -/
theorem nearest_gen32 (s : Bool) (mag : Nat) (place : Int) (r c : Nat) (h0 : mag ≠ 0) (hr : r < 2139095040) (hc : 0 ≤ place + (c : Int)) (hc2 : 149 ≤ c) (h : mag * 2 ^ (place + (c : Int)).toNat = nv32 r * 2 ^ (c - 149)) :
    FloatKind.f32.format.nearest s mag place = FloatKind.f32.format.word s r := by
  unfold Ieee.Format.nearest
  rw [if_neg h0, fmt_fb32', fmt_lp32, fmt_bin32, fmt_inf32]
  have hL : mag * 2 ^ (place + (c : Int)).toNat ≠ 0 := Nat.mul_ne_zero h0 (Nat.pos_iff_ne_zero.1 (Nat.two_pow_pos _))
  have hV : nv32 r ≠ 0 := by intro hz; rw [h, hz, Nat.zero_mul] at hL; exact hL rfl
  have hlog : (nv32 r).log2 + (c - 149) = mag.log2 + (place + (c : Int)).toNat := by rw [← log2_mul_pow _ _ hV, ← h, log2_mul_pow _ _ h0]
  obtain ⟨e, K, hle, hK, hrung⟩ := rung32 r hV
  have hlast : max (place + (mag.log2 : Int) - ((23 : Nat) : Int)) (-149) = (e : Int) - 149 := by omega
  simp only [hlast]
  have t3 : ((e : Int) - 149 - -149).toNat = e := by omega
  rw [t3]
  have hcut : Ieee.Toward.even.cut s (mag <<< (place - ((e : Int) - 149)).toNat) (((e : Int) - 149) - place).toNat = K := by
    apply cut_exact
    · rw [Nat.shiftLeft_eq, log2_mul_pow _ _ h0]
      omega
    · rw [Nat.shiftLeft_eq]
      rw [hK] at h
      by_cases hep : (e : Int) - 149 ≤ place
      · have z : ((e : Int) - 149 - place).toNat = 0 := by omega
        rw [z, Nat.pow_zero, Nat.mul_one]
        apply Nat.eq_of_mul_eq_mul_right (Nat.two_pow_pos (e + (c - 149)))
        rw [Nat.mul_assoc, ← Nat.pow_add]
        have e1 : (place - ((e : Int) - 149)).toNat + (e + (c - 149)) = (place + (c : Int)).toNat := by omega
        rw [e1, h, Nat.mul_assoc, ← Nat.pow_add]
      · have z : (place - ((e : Int) - 149)).toNat = 0 := by omega
        rw [z, Nat.pow_zero, Nat.mul_one]
        apply Nat.eq_of_mul_eq_mul_right (Nat.two_pow_pos (place + (c : Int)).toNat)
        rw [h, Nat.mul_assoc, Nat.mul_assoc, ← Nat.pow_add, ← Nat.pow_add, arith_a e c place hc hc2 hep]
  rw [hcut, hrung, Nat.min_eq_left (by omega)]

theorem signN_mod (neg : Bool) (r : Nat) (h : r < 9223372036854775808) : signN neg r % 9223372036854775808 = r ∧ decide (9223372036854775808 ≤ signN neg r) = neg ∧ signN neg r < 18446744073709551616 := by
  unfold signN
  cases neg
  · rw [if_neg (by decide)]; exact ⟨by omega, decide_eq_false (by omega), by omega⟩
  · rw [if_pos rfl]; exact ⟨by omega, decide_eq_true (by omega), by omega⟩
theorem signN_mod32 (neg : Bool) (r : Nat) (h : r < 2147483648) : signN32 neg r % 2147483648 = r ∧ decide (2147483648 ≤ signN32 neg r) = neg ∧ signN32 neg r < 4294967296 := by
  unfold signN32
  cases neg
  · rw [if_neg (by decide)]; exact ⟨by omega, decide_eq_false (by omega), by omega⟩
  · rw [if_pos rfl]; exact ⟨by omega, decide_eq_true (by omega), by omega⟩
theorem word_sign (neg : Bool) (r : Nat) : FloatKind.f64.format.word neg r = signN neg r := by
  unfold Ieee.Format.word signN
  rw [fmt_sw]
  cases neg
  · rfl
  · rw [if_pos rfl, if_pos rfl, Nat.add_comm]
theorem word_sign32 (neg : Bool) (r : Nat) : FloatKind.f32.format.word neg r = signN32 neg r := by
  unfold Ieee.Format.word signN32
  rw [fmt_sw32]
  cases neg
  · rfl
  · rw [if_pos rfl, if_pos rfl, Nat.add_comm]
theorem nearest_zero32 (s : Bool) (p : Int) : FloatKind.f32.format.nearest s 0 p = FloatKind.f32.format.word s 0 := by
  unfold Ieee.Format.nearest; rw [if_pos rfl]

/-- A number that is a single's value becomes that single. -/
theorem narrow_conv (neg : Bool) (R r : Nat) (hR : R < 9218868437227405312) (hr : r < 2139095040) (h : nv R = nv32 r * scl) : floatToFloatBits .f64 (signN neg R) .f32 = some (signN32 neg r) := by
  obtain ⟨a1, a2, a3⟩ := signN_mod neg R (by omega)
  obtain ⟨b1, b2, b3⟩ := signN_mod32 neg r (by omega)
  obtain ⟨m, p, ex, vx⟩ := read_fin (signN neg R) a3 (by rw [a1]; exact hR)
  rw [a1] at vx
  rw [a2] at ex
  have hn : FloatKind.f32.format.nearest neg m ((p : Int) - 1074) = signN32 neg r := by
    by_cases hm : m = 0
    · have : nv32 r = 0 := by
        rw [hm, Nat.zero_mul, h] at vx
        rcases Nat.mul_eq_zero.1 vx.symm with h' | h'
        · exact h'
        · exact absurd h' (Nat.pos_iff_ne_zero.1 scl_pos)
      have hr0 : r = 0 := by
        apply Classical.byContradiction
        intro hc
        have := nv_lt32 (r := 0) (s := r) (by omega)
        omega
      rw [hm, nearest_zero32, word_sign32, hr0]
    · rw [nearest_gen32 neg m ((p : Int) - 1074) r (kcl + 149) hm hr (by have := kcl_is; omega) (by omega) (by
        have e1 : ((p : Int) - 1074 + ((kcl + 149 : Nat) : Int)).toNat = p := by have := kcl_is; omega
        rw [e1, vx, h, Nat.add_sub_cancel]; rfl), word_sign32]
  unfold floatToFloatBits
  rw [if_neg (by decide)]
  show (match FloatKind.f64.format.read (signN neg R) with | .nan _ _ => none | .infinity s => some (FloatKind.f32.encode (.infinity s)) | .number s m e => if (FloatKind.f32.decode (FloatKind.f32.encode (.number s m e))).isInfinity then none else some (FloatKind.f32.encode (.number s m e))) = _
  rw [ex]
  have he : FloatKind.f32.encode (.number neg m ((p : Int) - 1074)) = signN32 neg r := hn
  simp only [he]
  obtain ⟨m2, p2, ex2, _⟩ := read_fin32 (signN32 neg r) b3 (by rw [b1]; exact hr)
  have hd : FloatKind.f32.decode (signN32 neg r) = .number (decide (2147483648 ≤ signN32 neg r)) m2 ((p2 : Int) - 149) := ex2
  rw [hd]
  rfl
theorem narrow_inf (neg : Bool) : floatToFloatBits .f64 (signN neg 9218868437227405312) .f32 = some (signN32 neg 2139095040) := by
  cases neg <;> decide +kernel
theorem widen_inf (neg : Bool) : floatToFloatBits .f32 (signN32 neg 2139095040) .f64 = some (signN neg 9218868437227405312) := by
  cases neg <;> decide +kernel

/-- A single's magnitude among the numbers'. -/
def mag64 (r : Nat) : Nat := if r < 8388608 then wMag r (-149) else wMag (8388608 + r % 8388608) (((r / 8388608 - 1 : Nat) : Int) - 149)
theorem mag64_val (r : Nat) (hr : r < 2139095040) : mag64 r < 9218868437227405312 ∧ nv (mag64 r) = nv32 r * scl := by
  unfold mag64 nv32
  by_cases h : r < 8388608
  · rw [if_pos h, if_pos h]
    by_cases h0 : r = 0
    · have e0 : wMag r (-149) = 0 := by unfold wMag; rw [if_pos h0]
      rw [e0, nv_zero, h0, Nat.zero_mul]; exact ⟨by decide, rfl⟩
    · have hb := bitLen_le r 23 (by simpa using h)
      obtain ⟨g1, g2⟩ := good_val r (-149) h0 (by omega) (by omega) (by omega)
      refine ⟨g1, ?_⟩
      have e : ((-149 : Int) + 1074).toNat = 0 + kcl := by decide
      rw [g2, e, scl_pow, Nat.pow_zero, Nat.one_mul]
  · rw [if_neg h, if_neg h]
    have hb := bitLen_le (8388608 + r % 8388608) 24 (by simp only [Nat.reducePow]; omega)
    obtain ⟨g1, g2⟩ := good_val (8388608 + r % 8388608) (((r / 8388608 - 1 : Nat) : Int) - 149) (by omega) (by omega) (by omega) (by omega)
    refine ⟨g1, ?_⟩
    have e : (((r / 8388608 - 1 : Nat) : Int) - 149 + 1074).toNat = r / 8388608 - 1 + kcl := by have := kcl_is; omega
    rw [g2, e, scl_pow, Nat.mul_assoc]
theorem widen_conv (neg : Bool) (r : Nat) (hr : r < 2139095040) : floatToFloatBits .f32 (signN32 neg r) .f64 = some (signN neg (mag64 r)) := by
  obtain ⟨v1, v2⟩ := mag64_val r hr
  obtain ⟨b1, b2, b3⟩ := signN_mod32 neg r (by omega)
  obtain ⟨a1, a2, a3⟩ := signN_mod neg (mag64 r) (by omega)
  obtain ⟨m, p, ex, vx⟩ := read_fin32 (signN32 neg r) b3 (by rw [b1]; exact hr)
  rw [b1] at vx
  rw [b2] at ex
  have hn : FloatKind.f64.format.nearest neg m ((p : Int) - 149) = signN neg (mag64 r) := by
    by_cases hm : m = 0
    · have hz : nv32 r = 0 := by rw [← vx, hm, Nat.zero_mul]
      have hr0 : mag64 r = 0 := by
        apply Classical.byContradiction
        intro hc
        have := nv_lt (r := 0) (s := mag64 r) (by omega)
        rw [v2, hz, Nat.zero_mul] at this
        omega
      rw [hm, nearest_zero, word_sign, hr0]
    · have e : (p : Int) - 149 = ((p + kcl : Nat) : Int) - 1074 := by have := kcl_is; omega
      rw [e, nearest_nv neg m (p + kcl) (mag64 r) hm v1 (by rw [scl_pow, ← Nat.mul_assoc, vx, v2]), word_sign]
  unfold floatToFloatBits
  rw [if_neg (by decide)]
  show (match FloatKind.f32.format.read (signN32 neg r) with | .nan _ _ => none | .infinity s => some (FloatKind.f64.encode (.infinity s)) | .number s m e => if (FloatKind.f64.decode (FloatKind.f64.encode (.number s m e))).isInfinity then none else some (FloatKind.f64.encode (.number s m e))) = _
  rw [ex]
  have he : FloatKind.f64.encode (.number neg m ((p : Int) - 149)) = signN neg (mag64 r) := hn
  simp only [he]
  obtain ⟨m2, p2, ex2, _⟩ := read_fin (signN neg (mag64 r)) a3 (by rw [a1]; exact v1)
  have hd : FloatKind.f64.decode (signN neg (mag64 r)) = .number (decide (9223372036854775808 ≤ signN neg (mag64 r))) m2 ((p2 : Int) - 1074) := ex2
  rw [hd]
  rfl

/-- The single of s steps of 2^u. -/
def mag32 (s : Nat) (u : Int) : Nat := if s = 0 then 0 else if u + (tzOf s : Int) + (lenOf s : Int) - 1 + 127 < 1 then oddOf s * 2 ^ (u + (tzOf s : Int) + 149).toNat else packN32 (u + (tzOf s : Int) + (lenOf s : Int) - 1 + 127).toNat (oddOf s * 2 ^ (24 - lenOf s) % 8388608)
theorem mag32_val (s : Nat) (u : Int) (h0 : s ≠ 0) (hs : s ≤ 16777216) (hu : -149 ≤ u) (ht : u + (bitLen s : Int) - 1 ≤ 127) : mag32 s u < 2139095040 ∧ nv32 (mag32 s u) = s * 2 ^ (u + 149).toNat := by
  have hsl : s < 18446744073709551616 := by omega
  have htl := tz_len s h0 hsl
  obtain ⟨l1, l2, l3⟩ := len_spec s h0 hsl
  obtain ⟨q, hq, hmq⟩ := odd_spec s h0 hsl
  have es : oddOf s * 2 ^ tzOf s = s := by rw [hq, Nat.mul_comm]; exact hmq.symm
  have hl : lenOf s ≤ 24 := by
    rcases Nat.lt_or_eq_of_le hs with h | h
    · exact bitLen_le _ 24 (Nat.lt_of_le_of_lt (odd_le s) (by simpa using h))
    · rw [h]; decide +kernel
  unfold mag32
  rw [if_neg h0]
  by_cases hx : u + (tzOf s : Int) + (lenOf s : Int) - 1 + 127 < 1
  · rw [if_pos hx]
    have hlt : oddOf s * 2 ^ (u + (tzOf s : Int) + 149).toNat < 8388608 := by
      have e1 : oddOf s * 2 ^ (u + (tzOf s : Int) + 149).toNat < 2 ^ lenOf s * 2 ^ (u + (tzOf s : Int) + 149).toNat := Nat.mul_lt_mul_of_pos_right l3 (Nat.two_pow_pos _)
      rw [← Nat.pow_add] at e1
      have e2 : 2 ^ (lenOf s + (u + (tzOf s : Int) + 149).toNat) ≤ 2 ^ 23 := Nat.pow_le_pow_right (by decide) (by omega)
      have e3 : (2 : Nat) ^ 23 = 8388608 := by decide
      omega
    refine ⟨by omega, ?_⟩
    unfold nv32
    rw [if_pos hlt]
    have e1 : (u + (tzOf s : Int) + 149).toNat = tzOf s + (u + 149).toNat := by omega
    rw [e1, Nat.pow_add, ← Nat.mul_assoc, es]
  · rw [if_neg hx]
    obtain ⟨X, hX⟩ : ∃ X, (u + (tzOf s : Int) + (lenOf s : Int) - 1 + 127).toNat = X := ⟨_, rfl⟩
    obtain ⟨F, hF⟩ : ∃ F, oddOf s * 2 ^ (24 - lenOf s) % 8388608 = F := ⟨_, rfl⟩
    rw [hX, hF]
    refine ⟨by unfold packN32; omega, ?_⟩
    have h52 : (2 : Nat) ^ 23 = 8388608 := by decide
    have h53 : (2 : Nat) ^ 24 = 16777216 := by decide
    have g1 : 2 ^ 23 ≤ oddOf s * 2 ^ (24 - lenOf s) := by
      have : 2 ^ (lenOf s - 1) * 2 ^ (24 - lenOf s) ≤ oddOf s * 2 ^ (24 - lenOf s) := Nat.mul_le_mul_right _ l2
      rw [← Nat.pow_add] at this
      have e2 : lenOf s - 1 + (24 - lenOf s) = 23 := by omega
      rwa [e2] at this
    have g2 : oddOf s * 2 ^ (24 - lenOf s) < 2 ^ 24 := by
      have : oddOf s * 2 ^ (24 - lenOf s) < 2 ^ lenOf s * 2 ^ (24 - lenOf s) := Nat.mul_lt_mul_of_pos_right l3 (Nat.two_pow_pos _)
      rw [← Nat.pow_add] at this
      have e2 : lenOf s + (24 - lenOf s) = 24 := by omega
      rwa [e2] at this
    have ew : 8388608 + F = oddOf s * 2 ^ (24 - lenOf s) := by
      rw [← hF]
      rw [h52] at g1
      rw [h53] at g2
      omega
    have hFl : F < 8388608 := by rw [← hF]; exact Nat.mod_lt _ (by decide)
    have ep : packN32 X F % 8388608 = F := by unfold packN32; omega
    have ed : packN32 X F / 8388608 = X := by unfold packN32; omega
    unfold nv32
    rw [if_neg (by unfold packN32; omega), ep, ed, ew, Nat.mul_assoc, ← Nat.pow_add]
    have e3 : 24 - lenOf s + (X - 1) = tzOf s + (u + 149).toNat := by omega
    rw [e3, Nat.pow_add, ← Nat.mul_assoc, es]
/-- The number of s steps becomes the single of s steps. -/
theorem narrow_steps (neg : Bool) (s : Nat) (u : Int) (hs : s ≤ 16777216) (hu : -149 ≤ u) (ht : u + (bitLen s : Int) - 1 ≤ 127) : floatToFloatBits .f64 (signN neg (wMag s u)) .f32 = some (signN32 neg (mag32 s u)) := by
  by_cases h0 : s = 0
  · subst h0
    have e1 : wMag 0 u = 0 := by unfold wMag; rw [if_pos rfl]
    have e2 : mag32 0 u = 0 := by unfold mag32; rw [if_pos rfl]
    rw [e1, e2]
    exact narrow_conv neg 0 0 (by decide) (by decide) (by rw [nv_zero, nv_zero32, Nat.zero_mul])
  · obtain ⟨a1, a2⟩ := good_val s u h0 (by omega) (by omega) (by omega)
    obtain ⟨b1, b2⟩ := mag32_val s u h0 hs hu ht
    refine narrow_conv neg _ _ a1 b1 ?_
    have e : (u + 1074).toNat = (u + 149).toNat + kcl := by have := kcl_is; omega
    rw [a2, b2, e, scl_pow, Nat.mul_assoc]
end Go.Proofs.Ythakhmnlpmfdgaa

namespace Go.Proofs.Ythakhmnlpmfdgaa
open Go Go.RowKit Go.IntWalk

theorem nv_inj {r s : Nat} (h : nv r = nv s) : r = s := by
  rcases Nat.lt_trichotomy r s with c | c | c
  · have := nv_lt c; omega
  · exact c
  · have := nv_lt c; omega
theorem nv_inj32 {r s : Nat} (h : nv32 r = nv32 s) : r = s := by
  rcases Nat.lt_trichotomy r s with c | c | c
  · have := nv_lt32 c; omega
  · exact c
  · have := nv_lt32 c; omega
theorem bitLen_mul_pow (m k : Nat) (h : m ≠ 0) : bitLen (m * 2 ^ k) = bitLen m + k := by
  unfold bitLen
  rw [if_neg h, if_neg (Nat.mul_ne_zero h (Nat.pos_iff_ne_zero.1 (Nat.two_pow_pos k))), log2_mul_pow m k h]
  omega
theorem bitLen_mono {a b : Nat} (h : a ≤ b) : bitLen a ≤ bitLen b := bitLen_le a _ (Nat.lt_of_le_of_lt h (bitLen_hi b))
theorem restN_zero {m s : Nat} : restN m s = 0 ↔ m % 2 ^ s = 0 := by
  unfold restN
  constructor
  · intro h
    apply Classical.byContradiction
    intro hc
    rw [if_neg hc] at h
    split at h
    · omega
    · split at h <;> omega
  · intro h; rw [if_pos h]
/-- Nothing is left over just if so many steps are what there was. -/
theorem step_value (m : Nat) (sh mode : Int) (neg : Bool) : cutR m sh = 0 ↔ stepQ m sh mode neg * 2 ^ sh.toNat = m * 2 ^ (-sh).toNat := by
  unfold stepQ
  by_cases hs : sh ≤ 0
  · have hr : cutR m sh = 0 := by unfold cutR; rw [if_pos hs]
    have hq : cutQ m sh = m * 2 ^ (-sh).toNat := by unfold cutQ; rw [if_pos hs]
    have e : sh.toNat = 0 := by omega
    rw [hr, hq, e]
    simp
  · have hq : cutQ m sh = m / 2 ^ sh.toNat := by unfold cutQ; rw [if_neg hs]
    have hr : cutR m sh = restN m sh.toNat := by unfold cutR; rw [if_neg hs]
    have e : (-sh).toNat = 0 := by omega
    have hd := Nat.div_add_mod m (2 ^ sh.toNat)
    have hl := Nat.mod_lt m (Nat.two_pow_pos sh.toNat)
    rw [hr, hq, e, Nat.pow_zero, Nat.mul_one]
    constructor
    · intro h
      rw [if_neg (fun c => c.1 h)]
      rw [restN_zero] at h
      rw [Nat.mul_comm, Nat.add_zero]
      omega
    · intro h
      rw [restN_zero]
      have h2 : (m / 2 ^ sh.toNat) * 2 ^ sh.toNat = 2 ^ sh.toNat * (m / 2 ^ sh.toNat) := Nat.mul_comm _ _
      split at h
      · rw [Nat.add_mul, Nat.one_mul] at h
        omega
      · rw [Nat.add_zero] at h
        omega
theorem flag_zero (P L H : Int) (m : Nat) (e mode : Int) (neg : Bool) : rFlag P L H m e mode neg = 0 ↔ ¬ rOver P L H m e mode neg ∧ cutR m (rUnit P L m e - e) = 0 := by
  unfold rFlag
  by_cases h : rOver P L H m e mode neg
  · rw [if_pos h]; exact ⟨fun c => by omega, fun c => absurd h c.1⟩
  · rw [if_neg h]
    by_cases h2 : cutR m (rUnit P L m e - e) = 0
    · rw [if_pos h2]; exact ⟨fun _ => ⟨h, h2⟩, fun _ => rfl⟩
    · rw [if_neg h2]
      refine ⟨fun c => ?_, fun c => absurd c.2 h2⟩
      split at c <;> omega
/-- What has room in the digits, from the least step on, is not rounded. -/
theorem fits_exact (P L H : Int) (m : Nat) (e mode : Int) (neg : Bool) (h0 : m ≠ 0) (hfit : (bitLen m : Int) ≤ P) (hlow : L - P + 1 ≤ e) (htop : e + (bitLen m : Int) - 1 ≤ H) :
    rFlag P L H m e mode neg = 0 ∧ ¬ rOver P L H m e mode neg ∧ rUnit P L m e ≤ e ∧ rSteps P L m e mode neg = m * 2 ^ (e - rUnit P L m e).toNat := by
  have hu : rUnit P L m e - e ≤ 0 := by unfold rUnit rTop; omega
  have hr : cutR m (rUnit P L m e - e) = 0 := by unfold cutR; rw [if_pos hu]
  have hs : rSteps P L m e mode neg = m * 2 ^ (e - rUnit P L m e).toNat := by
    unfold rSteps stepQ
    rw [if_neg (fun c => c.1 hr)]
    unfold cutQ
    have e1 : (-(rUnit P L m e - e)).toNat = (e - rUnit P L m e).toNat := by omega
    rw [if_pos hu, Nat.add_zero, e1]
  have ho : ¬ rOver P L H m e mode neg := by
    unfold rOver
    rw [hs, bitLen_mul_pow _ _ h0]
    omega
  exact ⟨(flag_zero P L H m e mode neg).2 ⟨ho, hr⟩, ho, by omega, hs⟩

/-- A number's value, by its parts. -/
theorem parts_val (x : Nat) (hf : x % 9223372036854775808 < 9218868437227405312) : expOf x ≠ 2047 ∧ negOf x = decide (9223372036854775808 ≤ x) ∧ canonOf x = x ∧ (mantOf x = 0 ↔ x % 9223372036854775808 = 0) ∧ (mantOf x ≠ 0 → pMant x ≠ 0 ∧ -1074 ≤ pExp x ∧ nv (x % 9223372036854775808) = pMant x * 2 ^ (pExp x + 1074).toNat ∧ bitLen (pMant x) ≤ 53 ∧ pExp x + (bitLen (pMant x) : Int) - 1 ≤ 1023 ∧ pMant x < 18446744073709551616) := by
  have hc : canonOf x = x := by unfold canonOf; rw [if_neg (by omega)]
  have he : expOf x = x % 9223372036854775808 / 4503599627370496 := by unfold expOf; rw [hc]; omega
  have hfr : fracOf x = x % 9223372036854775808 % 4503599627370496 := by unfold fracOf; rw [hc]; omega
  have hne : expOf x ≠ 2047 := by omega
  refine ⟨hne, by unfold negOf; rw [hc], hc, ?_, ?_⟩
  · unfold mantOf
    split <;> omega
  · intro hm
    have hml := mant_lt x
    have hm64 : mantOf x < 18446744073709551616 := by omega
    obtain ⟨q, hq, hmq⟩ := odd_spec _ hm hm64
    have es : oddOf (mantOf x) * 2 ^ tzOf (mantOf x) = mantOf x := by rw [hq, Nat.mul_comm]; exact hmq.symm
    have hn : nv (x % 9223372036854775808) = mantOf x * 2 ^ (max (expOf x) 1 - 1) := by
      unfold nv mantOf
      rw [hfr, he]
      by_cases hs : x % 9223372036854775808 < 4503599627370496
      · have e0 : x % 9223372036854775808 / 4503599627370496 = 0 := by omega
        rw [if_pos hs, e0, if_neg (by omega), Nat.mod_eq_of_lt hs]
        simp
      · have e0 : max (x % 9223372036854775808 / 4503599627370496) 1 = x % 9223372036854775808 / 4503599627370496 := by omega
        rw [if_neg hs, if_pos (by omega), e0, Nat.add_comm]
    have hl1 := tz_len _ hm hm64
    have hbl : bitLen (mantOf x) ≤ 53 := bitLen_le _ 53 (by simpa using hml)
    have hbo : bitLen (oddOf (mantOf x)) = lenOf (mantOf x) := rfl
    unfold pMant pExp
    rw [if_neg hne, if_neg (by omega), hn, hbo]
    refine ⟨by omega, by omega, ?_, by omega, ?_, by have := odd_le (mantOf x); omega⟩
    · have e1 : (max (expOf x : Int) 1 - 1075 + (tzOf (mantOf x) : Int) + 1074).toNat = tzOf (mantOf x) + (max (expOf x) 1 - 1) := by omega
      rw [e1, Nat.pow_add, ← Nat.mul_assoc, es]
    · by_cases h0 : expOf x = 0
      · rw [h0]; omega
      · omega
end Go.Proofs.Ythakhmnlpmfdgaa
