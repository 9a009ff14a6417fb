
/- Plain arithmetic on trailing zeros, lengths in bits and shifts; no program is spoken of. -/
import Derived.Test.YtfngjoaghbofgaaDoorP1
import Derived.Lib.TrailingZeros
import Derived.Laws.Bits64b
import Derived.Laws.MathBits
import Derived.Lib.BitFns
namespace Go.Proofs.YtfngjoaghbofgaaDoor
open Go Go.RowKit Go.IntWalk

theorem tz_key (x a : Nat) (hx : x < 18446744073709551616) (hx0 : x ≠ 0) (hlow : x &&& (18446744073709551616 - x) = a) :
    IntKind.u64.wrap (bits BinOp.and IntKind.u64 (x : Int) (IntKind.u64.wrap (-(x : Int))) * 285870213051353865) / 288230376151711744 = ((a * 285870213051353865 % 18446744073709551616 / 288230376151711744 : Nat) : Int) := by
  have e1 : IntKind.u64.wrap (-(x : Int)) = ((18446744073709551616 - x : Nat) : Int) := by rw [IntKind.wrap_u64]; omega
  rw [e1, bits_and_u64_nat x _ hx (by omega), hlow, IntKind.wrap_u64]
  omega
/-- The bits of a sign and a magnitude. -/
def signN (neg : Bool) (x : Nat) : Nat := if neg then x + 9223372036854775808 else x
theorem or_sign (x : Nat) (hx : x < 9223372036854775808) : bits .or .u64 (x : Int) 9223372036854775808 = (signN true x : Int) := by
  have h := u64_or_nat x 9223372036854775808 (by omega) (by omega)
  have e : x ||| 9223372036854775808 = x + 9223372036854775808 := by
    rw [Nat.or_comm, Nat.add_comm]
    exact nat_join 63 9223372036854775808 x (by decide) (by simpa using hx)
  rw [e] at h
  exact h
theorem len8tab_at : ∀ j : Fin 256, (Lib.len8tab[j.val]?.getD 0).toNat = bitLen j.val := by decide +kernel
theorem len8_get (y : Int) (h0 : 0 ≤ y) (h1 : y < 256) (h : y.toNat < Lib.len8tab.size) : (Lib.len8tab[y.toNat]'h).toNat = bitLen y.toNat := by
  have e := len8tab_at ⟨y.toNat, by omega⟩
  simp only at e
  rw [getElem?_pos Lib.len8tab y.toNat h] at e
  simpa using e
theorem bitLen_le (n b : Nat) (h : n < 2 ^ b) : bitLen n ≤ b := by
  unfold bitLen
  split
  · omega
  · rename_i h0
    have := (Nat.log2_lt h0).2 h
    omega
theorem len_close (x y : Int) (b : Nat) (hb : b ≤ 56) (hy : y.toNat = x.toNat / 2 ^ b) (h0 : 0 < y) (h1 : y < 256) (h : y.toNat < Lib.len8tab.size) :
    wrap64 ((b : Int) + wrap64 ((Lib.len8tab[y.toNat]'h).toNat : Int)) = (bitLen x.toNat : Int) := by
  rw [len8_get y (by omega) h1 h]
  have l := bitLen_le y.toNat 8 (by simp only [Nat.reducePow]; omega)
  rw [wrap64_in ((bitLen y.toNat : Nat) : Int) (by omega), wrap64_in _ (by omega), bitLen_shift x.toNat b (by omega), hy]
  omega
theorem len_close0 (x : Int) (h0 : 0 ≤ x) (h1 : x < 256) (h : x.toNat < Lib.len8tab.size) :
    wrap64 ((Lib.len8tab[x.toNat]'h).toNat : Int) = (bitLen x.toNat : Int) := by
  rw [len8_get x h0 h1 h]
  have l := bitLen_le x.toNat 8 (by simp only [Nat.reducePow]; omega)
  rw [wrap64_in _ (by omega)]
theorem len_close00 (x : Int) (h0 : 0 ≤ x) (h1 : x < 256) (h : x.toNat < Lib.len8tab.size) :
    wrap64 (wrap64 ((Lib.len8tab[x.toNat]'h).toNat : Int)) = (bitLen x.toNat : Int) := by
  rw [len_close0 x h0 h1 h]
  have l := bitLen_le x.toNat 8 (by simp only [Nat.reducePow]; omega)
  rw [wrap64_in _ (by omega)]
theorem len8_size : Lib.len8tab.size = 256 := Lib.len8tab_size
/-- How many zeros a word ends with. -/
def tzOf (m : Nat) : Nat := Lib.ctz 64 m
theorem tz_spec (m : Nat) (h0 : m ≠ 0) (h : m < 18446744073709551616) : tzOf m < 64 ∧ ∃ k, m = 2 ^ tzOf m * (2 * k + 1) := by
  obtain ⟨k, hk, hl⟩ := Lib.ctzFrom_spec 64 m (by omega) h
  have e : tzOf m = Lib.ctzFrom 64 m := by simp [tzOf, Lib.ctz, h0]
  rw [e]
  exact ⟨hl, k, hk⟩
/-- The mantissa that the fields tell, the bit that isn't written with it. -/
def mantOf (x : Nat) : Nat := if 0 < expOf x then fracOf x + 4503599627370496 else fracOf x
theorem frac_lt (x : Nat) : fracOf x < 4503599627370496 := by unfold fracOf; omega
theorem exp_lt (x : Nat) : expOf x < 2048 := by unfold expOf; omega
theorem mant_lt (x : Nat) : mantOf x < 9007199254740992 := by
  have := frac_lt x
  unfold mantOf; split <;> omega
theorem or_hidden {x : Nat} (h : 0 < expOf x) : bits .or .u64 (fracOf x : Int) 4503599627370496 = (mantOf x : Int) := by
  have hl := frac_lt x
  have hh := u64_or_nat (fracOf x) 4503599627370496 (by omega) (by omega)
  have e : fracOf x ||| 4503599627370496 = fracOf x + 4503599627370496 := by
    rw [Nat.or_comm, Nat.add_comm]
    exact nat_join 52 4503599627370496 (fracOf x) (by decide) (by simpa using hl)
  rw [e] at hh
  unfold mantOf
  rw [if_pos h]
  exact hh
/-- A mantissa made odd. -/
def oddOf (m : Nat) : Nat := m / 2 ^ tzOf m
theorem odd_cast (m : Nat) : (m : Int) / 2 ^ tzOf m = (oddOf m : Int) := by
  unfold oddOf; rw [Int.natCast_ediv, Int.natCast_pow]; rfl
theorem odd_le (m : Nat) : oddOf m ≤ m := Nat.div_le_self _ _
/-- How many bits the mantissa has once it is odd. -/
def lenOf (m : Nat) : Nat := bitLen (oddOf m)
/-- The fraction field of the number with an odd mantissa of so many bits. -/
def wfracOf (m : Nat) : Nat := oddOf m * 2 ^ (53 - lenOf m) % 4503599627370496
theorem wfrac_w (m : Nat) : bits .and .u64 (IntKind.u64.wrap ((oddOf m : Int) * 2 ^ (53 - lenOf m))) 4503599627370495 = (wfracOf m : Int) := by
  have e : IntKind.u64.wrap ((oddOf m : Int) * 2 ^ (53 - lenOf m)) = ((oddOf m * 2 ^ (53 - lenOf m) % 18446744073709551616 : Nat) : Int) := by
    rw [IntKind.wrap_u64, Int.natCast_emod, Int.natCast_mul, Int.natCast_pow]; rfl
  rw [e, and_frac _ (by omega)]
  unfold wfracOf
  omega
theorem wfrac_lt (m : Nat) : wfracOf m < 4503599627370496 := by unfold wfracOf; omega
/-- A magnitude of its two fields. -/
def packN (X f : Nat) : Nat := X * 4503599627370496 + f
theorem pack_w (X f : Nat) (hX : X < 2048) (hf : f < 4503599627370496) : bits .or .u64 (IntKind.u64.wrap (IntKind.u64.wrap (X : Int) * 4503599627370496)) (f : Int) = (packN X f : Int) := by
  have e : IntKind.u64.wrap (IntKind.u64.wrap (X : Int) * 4503599627370496) = ((X * 4503599627370496 : Nat) : Int) := by
    rw [IntKind.wrap_u64, IntKind.wrap_u64]; omega
  rw [e, u64_or_nat _ _ (by omega) (by omega), nat_join 52 _ _ (by omega) (by simpa using hf)]
  rfl
theorem pack_lt (X f : Nat) (hX : X < 2048) (hf : f < 4503599627370496) : packN X f < 9223372036854775808 := by unfold packN; omega
theorem odd_lt (m : Nat) : oddOf m < 2 ^ lenOf m := (bitLen_spec (oddOf m)).1
theorem sub_lt_w (m L : Nat) (h : L + lenOf m ≤ 52) : oddOf m * 2 ^ L < 4503599627370496 := by
  have h1 := odd_lt m
  have h2 : oddOf m * 2 ^ L < 2 ^ lenOf m * 2 ^ L := Nat.mul_lt_mul_of_pos_right h1 (Nat.two_pow_pos L)
  rw [← Nat.pow_add] at h2
  have h3 : 2 ^ (lenOf m + L) ≤ 2 ^ 52 := Nat.pow_le_pow_right (by omega) (by omega)
  have h4 : (2 : Nat) ^ 52 = 4503599627370496 := by decide
  omega
theorem sub_w (m L : Nat) (h : L + lenOf m ≤ 52) : IntKind.u64.wrap ((oddOf m : Int) * 2 ^ L) = ((oddOf m * 2 ^ L : Nat) : Int) := by
  have := sub_lt_w m L h
  have e : (oddOf m : Int) * 2 ^ L = ((oddOf m * 2 ^ L : Nat) : Int) := by rw [Int.natCast_mul, Int.natCast_pow]; rfl
  rw [e, IntKind.wrap_u64]
  omega
/-- The bits of 2^(k - 1074). -/
def powN (k : Nat) : Nat := if k ≤ 51 then 2 ^ k else (k - 51) * 4503599627370496
theorem tz_one : tzOf 1 = 0 := by decide
theorem odd_one : oddOf 1 = 1 := by decide
theorem len_one : lenOf 1 = 1 := by unfold lenOf; rw [odd_one]; decide
theorem wfrac_one : wfracOf 1 = 0 := by unfold wfracOf; rw [odd_one, len_one]
theorem signN_false (x : Nat) : signN false x = x := by unfold signN; rw [if_neg (by decide)]
theorem one_norm (k : Nat) (h : ¬ k ≤ 51) : signN false (packN (k - 51) (wfracOf 1)) = powN k := by
  rw [signN_false, wfrac_one]
  unfold packN powN
  rw [if_neg h, Nat.add_zero]
theorem one_sub (k : Nat) (h : k ≤ 51) : signN false (oddOf 1 * 2 ^ k) = powN k := by
  rw [signN_false, odd_one, Nat.one_mul]
  unfold powN
  rw [if_pos h]
end Go.Proofs.YtfngjoaghbofgaaDoor
