
/- Plain arithmetic on trailing zeros, lengths in bits and shifts; no program is spoken of. -/
import Derived.Test.YthakhmnlpmfdgaaP1
import Derived.Lib.TrailingZeros
import Derived.Laws.Bits64b
import Derived.Laws.MathBits
import Derived.Lib.BitFns
namespace Go.Proofs.Ythakhmnlpmfdgaa
open Go Go.RowKit Go.IntWalk

theorem tz_key (x a : Nat) (hx : x < 18446744073709551616) (hx0 : x ≠ 0) (hlow : x &&& (18446744073709551616 - x) = a) :
    IntKind.u64.wrap (bits BinOp.and IntKind.u64 (x : Int) (IntKind.u64.wrap (-(x : Int))) * 285870213051353865) / 288230376151711744 = ((a * 285870213051353865 % 18446744073709551616 / 288230376151711744 : Nat) : Int) := by
  have e1 : IntKind.u64.wrap (-(x : Int)) = ((18446744073709551616 - x : Nat) : Int) := by rw [IntKind.wrap_u64]; omega
  rw [e1, bits_and_u64_nat x _ hx (by omega), hlow, IntKind.wrap_u64]
  omega
/-- The bits of a sign and a magnitude. -/
def signN (neg : Bool) (x : Nat) : Nat := if neg then x + 9223372036854775808 else x
theorem or_sign (x : Nat) (hx : x < 9223372036854775808) : bits .or .u64 (x : Int) 9223372036854775808 = (signN true x : Int) := by
  have h := u64_or_nat x 9223372036854775808 (by omega) (by omega)
  have e : x ||| 9223372036854775808 = x + 9223372036854775808 := by
    rw [Nat.or_comm, Nat.add_comm]
    exact nat_join 63 9223372036854775808 x (by decide) (by simpa using hx)
  rw [e] at h
  exact h
theorem len8tab_at : ∀ j : Fin 256, (Lib.len8tab[j.val]?.getD 0).toNat = bitLen j.val := by decide +kernel
theorem len8_get (y : Int) (h0 : 0 ≤ y) (h1 : y < 256) (h : y.toNat < Lib.len8tab.size) : (Lib.len8tab[y.toNat]'h).toNat = bitLen y.toNat := by
  have e := len8tab_at ⟨y.toNat, by omega⟩
  simp only at e
  rw [getElem?_pos Lib.len8tab y.toNat h] at e
  simpa using e
theorem bitLen_le (n b : Nat) (h : n < 2 ^ b) : bitLen n ≤ b := by
  unfold bitLen
  split
  · omega
  · rename_i h0
    have := (Nat.log2_lt h0).2 h
    omega
theorem len_close (x y : Int) (b : Nat) (hb : b ≤ 56) (hy : y.toNat = x.toNat / 2 ^ b) (h0 : 0 < y) (h1 : y < 256) (h : y.toNat < Lib.len8tab.size) :
    wrap64 ((b : Int) + wrap64 ((Lib.len8tab[y.toNat]'h).toNat : Int)) = (bitLen x.toNat : Int) := by
  rw [len8_get y (by omega) h1 h]
  have l := bitLen_le y.toNat 8 (by simp only [Nat.reducePow]; omega)
  rw [wrap64_in ((bitLen y.toNat : Nat) : Int) (by omega), wrap64_in _ (by omega), bitLen_shift x.toNat b (by omega), hy]
  omega
theorem len_close0 (x : Int) (h0 : 0 ≤ x) (h1 : x < 256) (h : x.toNat < Lib.len8tab.size) :
    wrap64 ((Lib.len8tab[x.toNat]'h).toNat : Int) = (bitLen x.toNat : Int) := by
  rw [len8_get x h0 h1 h]
  have l := bitLen_le x.toNat 8 (by simp only [Nat.reducePow]; omega)
  rw [wrap64_in _ (by omega)]
theorem len_close00 (x : Int) (h0 : 0 ≤ x) (h1 : x < 256) (h : x.toNat < Lib.len8tab.size) :
    wrap64 (wrap64 ((Lib.len8tab[x.toNat]'h).toNat : Int)) = (bitLen x.toNat : Int) := by
  rw [len_close0 x h0 h1 h]
  have l := bitLen_le x.toNat 8 (by simp only [Nat.reducePow]; omega)
  rw [wrap64_in _ (by omega)]
theorem len8_size : Lib.len8tab.size = 256 := Lib.len8tab_size
/-- How many zeros a word ends with. -/
def tzOf (m : Nat) : Nat := Lib.ctz 64 m
theorem tz_spec (m : Nat) (h0 : m ≠ 0) (h : m < 18446744073709551616) : tzOf m < 64 ∧ ∃ k, m = 2 ^ tzOf m * (2 * k + 1) := by
  obtain ⟨k, hk, hl⟩ := Lib.ctzFrom_spec 64 m (by omega) h
  have e : tzOf m = Lib.ctzFrom 64 m := by simp [tzOf, Lib.ctz, h0]
  rw [e]
  exact ⟨hl, k, hk⟩
/-- The mantissa that the fields tell, the bit that isn't written with it. -/
def mantOf (x : Nat) : Nat := if 0 < expOf x then fracOf x + 4503599627370496 else fracOf x
theorem frac_lt (x : Nat) : fracOf x < 4503599627370496 := by unfold fracOf; omega
theorem exp_lt (x : Nat) : expOf x < 2048 := by unfold expOf; omega
theorem mant_lt (x : Nat) : mantOf x < 9007199254740992 := by
  have := frac_lt x
  unfold mantOf; split <;> omega
theorem or_hidden {x : Nat} (h : 0 < expOf x) : bits .or .u64 (fracOf x : Int) 4503599627370496 = (mantOf x : Int) := by
  have hl := frac_lt x
  have hh := u64_or_nat (fracOf x) 4503599627370496 (by omega) (by omega)
  have e : fracOf x ||| 4503599627370496 = fracOf x + 4503599627370496 := by
    rw [Nat.or_comm, Nat.add_comm]
    exact nat_join 52 4503599627370496 (fracOf x) (by decide) (by simpa using hl)
  rw [e] at hh
  unfold mantOf
  rw [if_pos h]
  exact hh
/-- A mantissa made odd. -/
def oddOf (m : Nat) : Nat := m / 2 ^ tzOf m
theorem odd_cast (m : Nat) : (m : Int) / 2 ^ tzOf m = (oddOf m : Int) := by
  unfold oddOf; rw [Int.natCast_ediv, Int.natCast_pow]; rfl
theorem odd_le (m : Nat) : oddOf m ≤ m := Nat.div_le_self _ _
/-- How many bits the mantissa has once it is odd. -/
def lenOf (m : Nat) : Nat := bitLen (oddOf m)
/-- The fraction field of the number with an odd mantissa of so many bits. -/
def wfracOf (m : Nat) : Nat := oddOf m * 2 ^ (53 - lenOf m) % 4503599627370496
theorem wfrac_w (m : Nat) : bits .and .u64 (IntKind.u64.wrap ((oddOf m : Int) * 2 ^ (53 - lenOf m))) 4503599627370495 = (wfracOf m : Int) := by
  have e : IntKind.u64.wrap ((oddOf m : Int) * 2 ^ (53 - lenOf m)) = ((oddOf m * 2 ^ (53 - lenOf m) % 18446744073709551616 : Nat) : Int) := by
    rw [IntKind.wrap_u64, Int.natCast_emod, Int.natCast_mul, Int.natCast_pow]; rfl
  rw [e, and_frac _ (by omega)]
  unfold wfracOf
  omega
theorem wfrac_lt (m : Nat) : wfracOf m < 4503599627370496 := by unfold wfracOf; omega
/-- A magnitude of its two fields. -/
def packN (X f : Nat) : Nat := X * 4503599627370496 + f
theorem pack_w (X f : Nat) (hX : X < 2048) (hf : f < 4503599627370496) : bits .or .u64 (IntKind.u64.wrap (IntKind.u64.wrap (X : Int) * 4503599627370496)) (f : Int) = (packN X f : Int) := by
  have e : IntKind.u64.wrap (IntKind.u64.wrap (X : Int) * 4503599627370496) = ((X * 4503599627370496 : Nat) : Int) := by
    rw [IntKind.wrap_u64, IntKind.wrap_u64]; omega
  rw [e, u64_or_nat _ _ (by omega) (by omega), nat_join 52 _ _ (by omega) (by simpa using hf)]
  rfl
theorem pack_lt (X f : Nat) (hX : X < 2048) (hf : f < 4503599627370496) : packN X f < 9223372036854775808 := by unfold packN; omega
theorem odd_lt (m : Nat) : oddOf m < 2 ^ lenOf m := (bitLen_spec (oddOf m)).1
theorem sub_lt_w (m L : Nat) (h : L + lenOf m ≤ 52) : oddOf m * 2 ^ L < 4503599627370496 := by
  have h1 := odd_lt m
  have h2 : oddOf m * 2 ^ L < 2 ^ lenOf m * 2 ^ L := Nat.mul_lt_mul_of_pos_right h1 (Nat.two_pow_pos L)
  rw [← Nat.pow_add] at h2
  have h3 : 2 ^ (lenOf m + L) ≤ 2 ^ 52 := Nat.pow_le_pow_right (by omega) (by omega)
  have h4 : (2 : Nat) ^ 52 = 4503599627370496 := by decide
  omega
theorem sub_w (m L : Nat) (h : L + lenOf m ≤ 52) : IntKind.u64.wrap ((oddOf m : Int) * 2 ^ L) = ((oddOf m * 2 ^ L : Nat) : Int) := by
  have := sub_lt_w m L h
  have e : (oddOf m : Int) * 2 ^ L = ((oddOf m * 2 ^ L : Nat) : Int) := by rw [Int.natCast_mul, Int.natCast_pow]; rfl
  rw [e, IntKind.wrap_u64]
  omega
/-- The bits of 2^(k - 1074). -/
def powN (k : Nat) : Nat := if k ≤ 51 then 2 ^ k else (k - 51) * 4503599627370496
theorem tz_one : tzOf 1 = 0 := by decide
theorem odd_one : oddOf 1 = 1 := by decide
theorem len_one : lenOf 1 = 1 := by unfold lenOf; rw [odd_one]; decide
theorem wfrac_one : wfracOf 1 = 0 := by unfold wfracOf; rw [odd_one, len_one]
theorem signN_false (x : Nat) : signN false x = x := by unfold signN; rw [if_neg (by decide)]
theorem one_norm (k : Nat) (h : ¬ k ≤ 51) : signN false (packN (k - 51) (wfracOf 1)) = powN k := by
  rw [signN_false, wfrac_one]
  unfold packN powN
  rw [if_neg h, Nat.add_zero]
theorem one_sub (k : Nat) (h : k ≤ 51) : signN false (oddOf 1 * 2 ^ k) = powN k := by
  rw [signN_false, odd_one, Nat.one_mul]
  unfold powN
  rw [if_pos h]
end Go.Proofs.Ythakhmnlpmfdgaa

namespace Go.Proofs.Ythakhmnlpmfdgaa
open Go Go.RowKit Go.IntWalk

theorem tz_unique (m j q : Nat) (hm : m < 18446744073709551616) (h : m = 2 ^ j * (2 * q + 1)) : tzOf m = j := by
  have h0 : m ≠ 0 := by rw [h]; exact Nat.mul_ne_zero (Nat.pos_iff_ne_zero.1 (Nat.two_pow_pos j)) (by omega)
  obtain ⟨_, k, hk⟩ := tz_spec m h0 hm
  obtain ⟨t, ht⟩ : ∃ t, tzOf m = t := ⟨_, rfl⟩
  rw [ht] at hk ⊢
  have key : ∀ a b p r : Nat, 2 ^ a * (2 * p + 1) = 2 ^ b * (2 * r + 1) → ¬ a < b := by
    intro a b p r he hlt
    obtain ⟨d, hd⟩ : ∃ d, b = a + (d + 1) := ⟨b - a - 1, by omega⟩
    rw [hd, Nat.pow_add, Nat.mul_assoc] at he
    have := Nat.eq_of_mul_eq_mul_left (Nat.two_pow_pos a) he
    rw [Nat.pow_succ] at this
    have e : 2 ^ d * 2 * (2 * r + 1) = 2 * (2 ^ d * (2 * r + 1)) := by rw [Nat.mul_comm (2 ^ d) 2, Nat.mul_assoc]
    omega
  have e := h.symm.trans hk
  have h1 := key j t q k e
  have h2 := key t j k q e.symm
  omega
theorem odd_unique (m j q : Nat) (hm : m < 18446744073709551616) (h : m = 2 ^ j * (2 * q + 1)) : oddOf m = 2 * q + 1 := by
  unfold oddOf
  rw [tz_unique m j q hm h, h, Nat.mul_div_cancel_left _ (Nat.two_pow_pos j)]
theorem odd_spec (m : Nat) (h0 : m ≠ 0) (hm : m < 18446744073709551616) : ∃ q, oddOf m = 2 * q + 1 ∧ m = 2 ^ tzOf m * (2 * q + 1) := by
  obtain ⟨_, q, hq⟩ := tz_spec m h0 hm
  exact ⟨q, odd_unique m _ q hm hq, hq⟩
theorem odd_odd (m : Nat) (h0 : m ≠ 0) (hm : m < 18446744073709551616) : tzOf (oddOf m) = 0 ∧ oddOf (oddOf m) = oddOf m := by
  obtain ⟨q, hq, _⟩ := odd_spec m h0 hm
  have hl : oddOf m < 18446744073709551616 := Nat.lt_of_le_of_lt (odd_le m) hm
  have e : oddOf m = 2 ^ 0 * (2 * q + 1) := by rw [hq]; omega
  exact ⟨tz_unique _ 0 q hl e, by rw [odd_unique _ 0 q hl e, hq]⟩
theorem len_spec (m : Nat) (h0 : m ≠ 0) (hm : m < 18446744073709551616) : 1 ≤ lenOf m ∧ 2 ^ (lenOf m - 1) ≤ oddOf m ∧ oddOf m < 2 ^ lenOf m := by
  obtain ⟨q, hq, _⟩ := odd_spec m h0 hm
  have hs := bitLen_spec (oddOf m)
  refine ⟨?_, hs.2 (by omega), hs.1⟩
  unfold lenOf bitLen
  rw [if_neg (by omega)]
  omega

theorem pow_sum (o j L a : Nat) (h1 : 2 ^ (L - 1) ≤ o) (h2 : o < 2 ^ L) (hL : 1 ≤ L) (ha : 2 ^ a ≤ o * 2 ^ j) (hb : o * 2 ^ j < 2 ^ (a + 1)) : L + j = a + 1 := by
  have e1 : 2 ^ (L - 1 + j) ≤ o * 2 ^ j := by rw [Nat.pow_add]; exact Nat.mul_le_mul_right _ h1
  have e2 : o * 2 ^ j < 2 ^ (L + j) := by rw [Nat.pow_add]; exact Nat.mul_lt_mul_of_pos_right h2 (Nat.two_pow_pos j)
  have e3 : L - 1 + j < a + 1 := (Nat.pow_lt_pow_iff_right (by decide : 1 < 2)).1 (Nat.lt_of_le_of_lt e1 hb)
  have e4 : a < L + j := (Nat.pow_lt_pow_iff_right (by decide : 1 < 2)).1 (Nat.lt_of_le_of_lt ha e2)
  omega
theorem pow_sum_lt (o j L a : Nat) (h1 : 2 ^ (L - 1) ≤ o) (hL : 1 ≤ L) (hb : o * 2 ^ j < 2 ^ a) : L + j ≤ a := by
  have e1 : 2 ^ (L - 1 + j) ≤ o * 2 ^ j := by rw [Nat.pow_add]; exact Nat.mul_le_mul_right _ h1
  have e3 : L - 1 + j < a := (Nat.pow_lt_pow_iff_right (by decide : 1 < 2)).1 (Nat.lt_of_le_of_lt e1 hb)
  omega

/-- The bits of a sign and of a magnitude that is a number's, taken apart. -/
theorem sign_parts (neg : Bool) (r : Nat) (h : r < 9218868437227405312) :
    canonOf (signN neg r) = signN neg r ∧ negOf (signN neg r) = neg ∧ expOf (signN neg r) = r / 4503599627370496 ∧ fracOf (signN neg r) = r % 4503599627370496 := by
  have hc : canonOf (signN neg r) = signN neg r := by
    cases neg
    · rw [signN_false]; unfold canonOf; rw [if_neg (by omega)]
    · have e : signN true r = r + 9223372036854775808 := rfl
      rw [e]; unfold canonOf; rw [if_neg (by omega)]
  refine ⟨hc, ?_, ?_, ?_⟩
  · unfold negOf
    rw [hc]
    unfold signN
    cases neg
    · rw [if_neg (by decide)]; exact decide_eq_false (by omega)
    · rw [if_pos rfl]; exact decide_eq_true (by omega)
  · unfold expOf
    rw [hc]
    unfold signN
    cases neg
    · rw [if_neg (by decide)]; omega
    · rw [if_pos rfl]; omega
  · unfold fracOf
    rw [hc]
    unfold signN
    cases neg
    · rw [if_neg (by decide)]
    · rw [if_pos rfl]; omega
theorem fields_back (x : Nat) (hx : x < 18446744073709551616) : signN (negOf x) (packN (expOf x) (fracOf x)) = canonOf x := by
  have hl := canon_lt hx
  unfold signN packN negOf expOf fracOf
  by_cases h : 9223372036854775808 ≤ canonOf x
  · rw [decide_eq_true h, if_pos rfl]; omega
  · rw [decide_eq_false h, if_neg (by decide)]; omega
/-- Whether there is no number with these parts (a mantissa that isn't 0), its exponent field, its bits, the error's number. -/
def wField (m : Nat) (e : Int) : Int := e + (tzOf m : Int) + (lenOf m : Int) - 1 + 1075 - 52
abbrev wBad (m : Nat) (e : Int) : Prop := m ≠ 0 ∧ (e < -1139 ∨ 1075 < e ∨ 53 < lenOf m ∨ e + (tzOf m : Int) < -1074 ∨ 2047 ≤ wField m e)
def wMag (m : Nat) (e : Int) : Nat := if m = 0 then 0 else if wField m e < 1 then oddOf m * 2 ^ (e + (tzOf m : Int) + 1074).toNat else packN (wField m e).toNat (wfracOf m)
def wWord (neg : Bool) (m : Nat) (e : Int) : Nat := if wBad m e then 0 else signN neg (wMag m e)
def wErr (m : Nat) (e : Int) : Int := if wBad m e then 10 else 0
theorem len_le (m : Nat) (h : m < 18446744073709551616) : lenOf m ≤ 64 := bitLen_le _ 64 (Nat.lt_of_le_of_lt (odd_le m) h)
/-- A number's parts, and the error's number. -/
def pNeg (x : Nat) : Bool := if expOf x = 2047 then false else negOf x
def pMant (x : Nat) : Nat := if expOf x = 2047 then 0 else oddOf (mantOf x)
def pExp (x : Nat) : Int := if expOf x = 2047 ∨ mantOf x = 0 then 0 else max (expOf x : Int) 1 - 1075 + (tzOf (mantOf x) : Int)
def pErr (x : Nat) : Int := if expOf x = 2047 then 4 else 0
theorem odd_zero : oddOf 0 = 0 := by decide
/-- Of undoes Parts. -/
theorem of_parts (x : Nat) (hx : x < 18446744073709551616) (he : expOf x ≠ 2047) : ¬ wBad (pMant x) (pExp x) ∧ wWord (pNeg x) (pMant x) (pExp x) = canonOf x := by
  have hb1 := exp_lt x
  have hb2 := frac_lt x
  have hbk := fields_back x hx
  have hml := mant_lt x
  unfold pNeg pMant pExp
  rw [if_neg he, if_neg he]
  by_cases hM : mantOf x = 0
  · rw [if_pos (Or.inr hM), hM, odd_zero]
    have hz : expOf x = 0 ∧ fracOf x = 0 := by
      unfold mantOf at hM
      split at hM <;> omega
    have hb : ¬ wBad 0 0 := fun h => h.1 rfl
    refine ⟨hb, ?_⟩
    unfold wWord wMag
    rw [if_neg hb, if_pos rfl, ← hbk, hz.1, hz.2]
    rfl
  · rw [if_neg (by omega)]
    have hm64 : mantOf x < 18446744073709551616 := by omega
    obtain ⟨q, hq, hmq⟩ := odd_spec _ hM hm64
    obtain ⟨o1, o2⟩ := odd_odd _ hM hm64
    obtain ⟨l1, l2, l3⟩ := len_spec _ hM hm64
    have hlo : lenOf (oddOf (mantOf x)) = lenOf (mantOf x) := by unfold lenOf; rw [o2]
    have ho0 : oddOf (mantOf x) ≠ 0 := by omega
    have hMo : oddOf (mantOf x) * 2 ^ tzOf (mantOf x) = mantOf x := by rw [hq, Nat.mul_comm]; exact hmq.symm
    obtain ⟨o, hoe⟩ : ∃ o, oddOf (mantOf x) = o := ⟨_, rfl⟩
    obtain ⟨j, hje⟩ : ∃ j, tzOf (mantOf x) = j := ⟨_, rfl⟩
    obtain ⟨L, hLe⟩ : ∃ L, lenOf (mantOf x) = L := ⟨_, rfl⟩
    rw [hoe] at o1 o2 l2 l3 hlo ho0 hMo hq
    rw [hje] at hMo
    rw [hLe] at l1 l2 l3 hlo
    rw [hoe, hje]
    have hbad : ∀ E : Int, (wBad o E ↔ (E < -1139 ∨ 1075 < E ∨ 53 < L ∨ E < -1074 ∨ 2047 ≤ E + (L : Int) - 1 + 1075 - 52)) := by
      intro E
      unfold wBad wField
      rw [o1, hlo]
      constructor
      · rintro ⟨_, h⟩; omega
      · intro h; exact ⟨ho0, by omega⟩
    by_cases hz : expOf x = 0
    · have hmf : mantOf x = fracOf x := by unfold mantOf; rw [if_neg (by omega)]
      have hLj := pow_sum_lt o j L 52 l2 l1 (by rw [hMo, hmf]; simpa using hb2)
      have hnb : ¬ wBad o (max (expOf x : Int) 1 - 1075 + (j : Int)) := by rw [hbad]; omega
      refine ⟨hnb, ?_⟩
      unfold wWord
      rw [if_neg hnb]
      unfold wMag wField
      rw [o1, hlo, o2, if_neg ho0, if_pos (by omega)]
      have e : (max (expOf x : Int) 1 - 1075 + (j : Int) + ((0 : Nat) : Int) + 1074).toNat = j := by omega
      rw [e, hMo, hmf, ← hbk]
      unfold packN
      rw [hz]
      congr 1
      omega
    · have hmf : mantOf x = fracOf x + 4503599627370496 := by unfold mantOf; rw [if_pos (by omega)]
      have h52 : (2 : Nat) ^ 52 = 4503599627370496 := by decide
      have h53 : (2 : Nat) ^ (52 + 1) = 9007199254740992 := by decide
      have hLj := pow_sum o j L 52 l2 l3 l1 (by rw [hMo, hmf, h52]; omega) (by rw [hMo, hmf, h53]; omega)
      have hnb : ¬ wBad o (max (expOf x : Int) 1 - 1075 + (j : Int)) := by rw [hbad]; omega
      refine ⟨hnb, ?_⟩
      unfold wWord
      rw [if_neg hnb]
      unfold wMag wField
      rw [o1, hlo, if_neg ho0, if_neg (by omega)]
      have e : (max (expOf x : Int) 1 - 1075 + (j : Int) + ((0 : Nat) : Int) + (L : Int) - 1 + 1075 - 52).toNat = expOf x := by omega
      have ef : wfracOf o = fracOf x := by
        unfold wfracOf
        rw [o2, hlo]
        have ej : 53 - L = j := by omega
        rw [ej, hMo, hmf]
        omega
      rw [e, ef, hbk]

/-- Parts undoes Of: the same sign, the mantissa made odd, the exponent that goes with it. -/
theorem parts_of (neg : Bool) (m : Nat) (e : Int) (hm : m < 18446744073709551616) (hb : ¬ wBad m e) :
    wWord neg m e < 18446744073709551616 ∧ pErr (wWord neg m e) = 0 ∧ pNeg (wWord neg m e) = neg ∧ pMant (wWord neg m e) = oddOf m ∧ (m ≠ 0 → pExp (wWord neg m e) = e + (tzOf m : Int)) := by
  have hW : wWord neg m e = signN neg (wMag m e) := by unfold wWord; rw [if_neg hb]
  rw [hW]
  by_cases h0 : m = 0
  · subst h0
    have hz : wMag 0 e = 0 := by unfold wMag; rw [if_pos rfl]
    rw [hz, odd_zero]
    cases neg <;> exact ⟨by decide, by decide, by decide, by decide, fun h => absurd rfl h⟩
  · have hb2 : ¬ (e < -1139 ∨ 1075 < e ∨ 53 < lenOf m ∨ e + (tzOf m : Int) < -1074 ∨ 2047 ≤ wField m e) := fun h => hb ⟨h0, h⟩
    obtain ⟨q, hq, hmq⟩ := odd_spec _ h0 hm
    obtain ⟨l1, l2, l3⟩ := len_spec _ h0 hm
    unfold wField at hb2
    -- the magnitude's mantissa: the odd one, shifted by K
    obtain ⟨r, X, K, hr, hmag, hexp, hmant, hK⟩ : ∃ r X K : Nat, r < 9218868437227405312 ∧ wMag m e = r ∧ r / 4503599627370496 = X ∧ (if 0 < X then r % 4503599627370496 + 4503599627370496 else r % 4503599627370496) = oddOf m * 2 ^ K ∧ max (X : Int) 1 - 1075 + (K : Int) = e + (tzOf m : Int) := by
      by_cases hx : e + (tzOf m : Int) + (lenOf m : Int) - 1 + 1075 - 52 < 1
      · have hlt := sub_lt_w m (e + (tzOf m : Int) + 1074).toNat (by omega)
        refine ⟨oddOf m * 2 ^ (e + (tzOf m : Int) + 1074).toNat, 0, (e + (tzOf m : Int) + 1074).toNat, by omega, ?_, by omega, ?_, by omega⟩
        · unfold wMag wField; rw [if_neg h0, if_pos hx]
        · rw [if_neg (by omega), Nat.mod_eq_of_lt hlt]
      · have hf := wfrac_lt m
        refine ⟨packN (e + (tzOf m : Int) + (lenOf m : Int) - 1 + 1075 - 52).toNat (wfracOf m), (e + (tzOf m : Int) + (lenOf m : Int) - 1 + 1075 - 52).toNat, 53 - lenOf m, ?_, ?_, ?_, ?_, by omega⟩
        · unfold packN; omega
        · unfold wMag wField; rw [if_neg h0, if_neg hx]
        · unfold packN; omega
        · rw [if_pos (by omega)]
          have e1 : packN (e + (tzOf m : Int) + (lenOf m : Int) - 1 + 1075 - 52).toNat (wfracOf m) % 4503599627370496 = wfracOf m := by unfold packN; omega
          rw [e1]
          unfold wfracOf
          have h52 : (2 : Nat) ^ 52 = 4503599627370496 := by decide
          have h53 : (2 : Nat) ^ 53 = 9007199254740992 := by decide
          have g1 : 2 ^ 52 ≤ oddOf m * 2 ^ (53 - lenOf m) := by
            have : 2 ^ (lenOf m - 1) * 2 ^ (53 - lenOf m) ≤ oddOf m * 2 ^ (53 - lenOf m) := Nat.mul_le_mul_right _ l2
            rw [← Nat.pow_add] at this
            have e2 : lenOf m - 1 + (53 - lenOf m) = 52 := by omega
            rwa [e2] at this
          have g2 : oddOf m * 2 ^ (53 - lenOf m) < 2 ^ 53 := by
            have : oddOf m * 2 ^ (53 - lenOf m) < 2 ^ lenOf m * 2 ^ (53 - lenOf m) := Nat.mul_lt_mul_of_pos_right l3 (Nat.two_pow_pos _)
            rw [← Nat.pow_add] at this
            have e2 : lenOf m + (53 - lenOf m) = 53 := by omega
            rwa [e2] at this
          rw [h52] at g1
          rw [h53] at g2
          omega
    rw [hmag]
    obtain ⟨s1, s2, s3, s4⟩ := sign_parts neg r hr
    have hX : X < 2047 := by omega
    have hmo : mantOf (signN neg r) = oddOf m * 2 ^ K := by
      unfold mantOf
      rw [s3, s4, hexp]
      exact hmant
    have hml := mant_lt (signN neg r)
    have hf : mantOf (signN neg r) = 2 ^ K * (2 * q + 1) := by rw [hmo, hq, Nat.mul_comm]
    have ht := tz_unique _ K q (by omega) hf
    have ho := odd_unique _ K q (by omega) hf
    have hne : mantOf (signN neg r) ≠ 0 := by rw [hf]; exact Nat.mul_ne_zero (Nat.pos_iff_ne_zero.1 (Nat.two_pow_pos K)) (by omega)
    refine ⟨by unfold signN; split <;> omega, ?_, ?_, ?_, ?_⟩
    · unfold pErr; rw [s3, hexp, if_neg (by omega)]
    · unfold pNeg; rw [s3, hexp, if_neg (by omega), s2]
    · unfold pMant; rw [s3, hexp, if_neg (by omega), ho, hq]
    · intro _
      unfold pExp
      rw [s3, hexp, if_neg (by omega), ht]
      exact hK
end Go.Proofs.Ythakhmnlpmfdgaa
