
/- Plain arithmetic on trailing zeros, lengths in bits and shifts; no program is spoken of. -/
import Derived.Test.YtilffgmekeeohaaDoorP1
import Derived.Lib.TrailingZeros
import Derived.Laws.Bits64b
import Derived.Laws.MathBits
import Derived.Lib.BitFns
import Derived.Lib.Walk
import Derived.Lib.Strings
import Derived.Lib.Slices
import Derived.Lib.Small
import Derived.Test.YtilffgmekeeohaaDoorP3
import Derived.Test.YtilffgmekeeohaaDoorP5
namespace Go.Proofs.YtilffgmekeeohaaDoor
open Go Go.RowKit Go.IntWalk

theorem tz_key (x a : Nat) (hx : x < 18446744073709551616) (hx0 : x ≠ 0) (hlow : x &&& (18446744073709551616 - x) = a) :
    IntKind.u64.wrap (bits BinOp.and IntKind.u64 (x : Int) (IntKind.u64.wrap (-(x : Int))) * 285870213051353865) / 288230376151711744 = ((a * 285870213051353865 % 18446744073709551616 / 288230376151711744 : Nat) : Int) := by
  have e1 : IntKind.u64.wrap (-(x : Int)) = ((18446744073709551616 - x : Nat) : Int) := by rw [IntKind.wrap_u64]; omega
  rw [e1, bits_and_u64_nat x _ hx (by omega), hlow, IntKind.wrap_u64]
  omega
/-- The bits of a sign and a magnitude. -/
def signN (neg : Bool) (x : Nat) : Nat := if neg then x + 9223372036854775808 else x
theorem or_sign (x : Nat) (hx : x < 9223372036854775808) : bits .or .u64 (x : Int) 9223372036854775808 = (signN true x : Int) := by
  have h := u64_or_nat x 9223372036854775808 (by omega) (by omega)
  have e : x ||| 9223372036854775808 = x + 9223372036854775808 := by
    rw [Nat.or_comm, Nat.add_comm]
    exact nat_join 63 9223372036854775808 x (by decide) (by simpa using hx)
  rw [e] at h
  exact h
theorem len8tab_at : ∀ j : Fin 256, (Lib.len8tab[j.val]?.getD 0).toNat = bitLen j.val := by decide +kernel
theorem len8_get (y : Int) (h0 : 0 ≤ y) (h1 : y < 256) (h : y.toNat < Lib.len8tab.size) : (Lib.len8tab[y.toNat]'h).toNat = bitLen y.toNat := by
  have e := len8tab_at ⟨y.toNat, by omega⟩
  simp only at e
  rw [getElem?_pos Lib.len8tab y.toNat h] at e
  simpa using e
theorem bitLen_le (n b : Nat) (h : n < 2 ^ b) : bitLen n ≤ b := by
  unfold bitLen
  split
  · omega
  · rename_i h0
    have := (Nat.log2_lt h0).2 h
    omega
theorem len_close (x y : Int) (b : Nat) (hb : b ≤ 56) (hy : y.toNat = x.toNat / 2 ^ b) (h0 : 0 < y) (h1 : y < 256) (h : y.toNat < Lib.len8tab.size) :
    wrap64 ((b : Int) + wrap64 ((Lib.len8tab[y.toNat]'h).toNat : Int)) = (bitLen x.toNat : Int) := by
  rw [len8_get y (by omega) h1 h]
  have l := bitLen_le y.toNat 8 (by simp only [Nat.reducePow]; omega)
  rw [wrap64_in ((bitLen y.toNat : Nat) : Int) (by omega), wrap64_in _ (by omega), bitLen_shift x.toNat b (by omega), hy]
  omega
theorem len_close0 (x : Int) (h0 : 0 ≤ x) (h1 : x < 256) (h : x.toNat < Lib.len8tab.size) :
    wrap64 ((Lib.len8tab[x.toNat]'h).toNat : Int) = (bitLen x.toNat : Int) := by
  rw [len8_get x h0 h1 h]
  have l := bitLen_le x.toNat 8 (by simp only [Nat.reducePow]; omega)
  rw [wrap64_in _ (by omega)]
theorem len_close00 (x : Int) (h0 : 0 ≤ x) (h1 : x < 256) (h : x.toNat < Lib.len8tab.size) :
    wrap64 (wrap64 ((Lib.len8tab[x.toNat]'h).toNat : Int)) = (bitLen x.toNat : Int) := by
  rw [len_close0 x h0 h1 h]
  have l := bitLen_le x.toNat 8 (by simp only [Nat.reducePow]; omega)
  rw [wrap64_in _ (by omega)]
theorem len8_size : Lib.len8tab.size = 256 := Lib.len8tab_size
/-- How many zeros a word ends with. -/
def tzOf (m : Nat) : Nat := Lib.ctz 64 m
theorem tz_spec (m : Nat) (h0 : m ≠ 0) (h : m < 18446744073709551616) : tzOf m < 64 ∧ ∃ k, m = 2 ^ tzOf m * (2 * k + 1) := by
  obtain ⟨k, hk, hl⟩ := Lib.ctzFrom_spec 64 m (by omega) h
  have e : tzOf m = Lib.ctzFrom 64 m := by simp [tzOf, Lib.ctz, h0]
  rw [e]
  exact ⟨hl, k, hk⟩
/-- The mantissa that the fields tell, the bit that isn't written with it. -/
def mantOf (x : Nat) : Nat := if 0 < expOf x then fracOf x + 4503599627370496 else fracOf x
theorem frac_lt (x : Nat) : fracOf x < 4503599627370496 := by unfold fracOf; omega
theorem exp_lt (x : Nat) : expOf x < 2048 := by unfold expOf; omega
theorem mant_lt (x : Nat) : mantOf x < 9007199254740992 := by
  have := frac_lt x
  unfold mantOf; split <;> omega
theorem or_hidden {x : Nat} (h : 0 < expOf x) : bits .or .u64 (fracOf x : Int) 4503599627370496 = (mantOf x : Int) := by
  have hl := frac_lt x
  have hh := u64_or_nat (fracOf x) 4503599627370496 (by omega) (by omega)
  have e : fracOf x ||| 4503599627370496 = fracOf x + 4503599627370496 := by
    rw [Nat.or_comm, Nat.add_comm]
    exact nat_join 52 4503599627370496 (fracOf x) (by decide) (by simpa using hl)
  rw [e] at hh
  unfold mantOf
  rw [if_pos h]
  exact hh
/-- A mantissa made odd. -/
def oddOf (m : Nat) : Nat := m / 2 ^ tzOf m
theorem odd_cast (m : Nat) : (m : Int) / 2 ^ tzOf m = (oddOf m : Int) := by
  unfold oddOf; rw [Int.natCast_ediv, Int.natCast_pow]; rfl
theorem odd_le (m : Nat) : oddOf m ≤ m := Nat.div_le_self _ _
/-- How many bits the mantissa has once it is odd. -/
def lenOf (m : Nat) : Nat := bitLen (oddOf m)
/-- The fraction field of the number with an odd mantissa of so many bits. -/
def wfracOf (m : Nat) : Nat := oddOf m * 2 ^ (53 - lenOf m) % 4503599627370496
theorem wfrac_w (m : Nat) : bits .and .u64 (IntKind.u64.wrap ((oddOf m : Int) * 2 ^ (53 - lenOf m))) 4503599627370495 = (wfracOf m : Int) := by
  have e : IntKind.u64.wrap ((oddOf m : Int) * 2 ^ (53 - lenOf m)) = ((oddOf m * 2 ^ (53 - lenOf m) % 18446744073709551616 : Nat) : Int) := by
    rw [IntKind.wrap_u64, Int.natCast_emod, Int.natCast_mul, Int.natCast_pow]; rfl
  rw [e, and_frac _ (by omega)]
  unfold wfracOf
  omega
theorem wfrac_lt (m : Nat) : wfracOf m < 4503599627370496 := by unfold wfracOf; omega
/-- A magnitude of its two fields. -/
def packN (X f : Nat) : Nat := X * 4503599627370496 + f
theorem pack_w (X f : Nat) (hX : X < 2048) (hf : f < 4503599627370496) : bits .or .u64 (IntKind.u64.wrap (IntKind.u64.wrap (X : Int) * 4503599627370496)) (f : Int) = (packN X f : Int) := by
  have e : IntKind.u64.wrap (IntKind.u64.wrap (X : Int) * 4503599627370496) = ((X * 4503599627370496 : Nat) : Int) := by
    rw [IntKind.wrap_u64, IntKind.wrap_u64]; omega
  rw [e, u64_or_nat _ _ (by omega) (by omega), nat_join 52 _ _ (by omega) (by simpa using hf)]
  rfl
theorem pack_lt (X f : Nat) (hX : X < 2048) (hf : f < 4503599627370496) : packN X f < 9223372036854775808 := by unfold packN; omega
theorem odd_lt (m : Nat) : oddOf m < 2 ^ lenOf m := (bitLen_spec (oddOf m)).1
theorem sub_lt_w (m L : Nat) (h : L + lenOf m ≤ 52) : oddOf m * 2 ^ L < 4503599627370496 := by
  have h1 := odd_lt m
  have h2 : oddOf m * 2 ^ L < 2 ^ lenOf m * 2 ^ L := Nat.mul_lt_mul_of_pos_right h1 (Nat.two_pow_pos L)
  rw [← Nat.pow_add] at h2
  have h3 : 2 ^ (lenOf m + L) ≤ 2 ^ 52 := Nat.pow_le_pow_right (by omega) (by omega)
  have h4 : (2 : Nat) ^ 52 = 4503599627370496 := by decide
  omega
theorem sub_w (m L : Nat) (h : L + lenOf m ≤ 52) : IntKind.u64.wrap ((oddOf m : Int) * 2 ^ L) = ((oddOf m * 2 ^ L : Nat) : Int) := by
  have := sub_lt_w m L h
  have e : (oddOf m : Int) * 2 ^ L = ((oddOf m * 2 ^ L : Nat) : Int) := by rw [Int.natCast_mul, Int.natCast_pow]; rfl
  rw [e, IntKind.wrap_u64]
  omega
/-- The bits of 2^(k - 1074). -/
def powN (k : Nat) : Nat := if k ≤ 51 then 2 ^ k else (k - 51) * 4503599627370496
theorem tz_one : tzOf 1 = 0 := by decide
theorem odd_one : oddOf 1 = 1 := by decide
theorem len_one : lenOf 1 = 1 := by unfold lenOf; rw [odd_one]; decide
theorem wfrac_one : wfracOf 1 = 0 := by unfold wfracOf; rw [odd_one, len_one]
theorem signN_false (x : Nat) : signN false x = x := by unfold signN; rw [if_neg (by decide)]
theorem one_norm (k : Nat) (h : ¬ k ≤ 51) : signN false (packN (k - 51) (wfracOf 1)) = powN k := by
  rw [signN_false, wfrac_one]
  unfold packN powN
  rw [if_neg h, Nat.add_zero]
theorem one_sub (k : Nat) (h : k ≤ 51) : signN false (oddOf 1 * 2 ^ k) = powN k := by
  rw [signN_false, odd_one, Nat.one_mul]
  unfold powN
  rw [if_pos h]
end Go.Proofs.YtilffgmekeeohaaDoor

namespace Go.Proofs.YtilffgmekeeohaaDoor
open Go.RowKit

/-- The library's table stands in its variable. -/
def Tab (w : World) : Prop := ∀ j, j < 64 → w.cell? ⟨1, j, none⟩ = some (.int .u8 (Lib.deBruijn64tab.getD j 0))
theorem Tab.below {w w' : World} (h : Tab w) (hs : 1 < w.heap.size) (hb : Below w.heap.size w w') : Tab w' := fun j hj => by rw [hb.cell (p := ⟨1, j, none⟩) hs]; exact h j hj

set_option maxHeartbeats 400000 in
theorem tz_core (x k idx : Nat) (w : World) (hx0 : ((x : Int) == 0) = false)
    (key : IntKind.u64.wrap (bits BinOp.and IntKind.u64 (x : Int) (IntKind.u64.wrap (-(x : Int))) * 285870213051353865) / 288230376151711744 = (idx : Int))
    (hi : idx < 64) (hk : k < 64) (hcell : w.cell? ⟨1, idx, none⟩ = some (.int .u8 k)) :
    Calls Tryd.prog 79 #[.int .u64 x] w fun e w' => e = .returned (.int .i64 k) ∧ w' = w := by
  go_enter Tryd.func79, Tryd.ntmps79
  go_wp2_with (simp only [key])
  go_ret
  exact ⟨rfl, rfl⟩
set_option maxHeartbeats 400000 in
theorem tz_zero (w : World) :
    Calls Tryd.prog 79 #[.int .u64 0] w fun e w' => e = .returned (.int .i64 64) ∧ w' = w := by
  go_enter Tryd.func79, Tryd.ntmps79
  go_wp2
  go_ret
  exact ⟨rfl, rfl⟩
theorem tz_any (x : Nat) (w : World) (hx : x < 18446744073709551616) (hT : Tab w) :
    Calls Tryd.prog 79 #[.int .u64 x] w fun e w' => e = .returned (.int .i64 (tzOf x)) ∧ w' = w := by
  by_cases hx0 : x = 0
  · subst hx0
    exact tz_zero w
  · obtain ⟨hlow, hk⟩ := Lib.lowest_bit 64 x hx0 hx
    obtain ⟨hi, htab⟩ := Lib.deBruijn64_at _ hk
    have hcell := hT _ hi
    rw [htab] at hcell
    exact tz_core x (Lib.ctz 64 x) _ w (by simpa using hx0) (tz_key x _ hx hx0 hlow) hi hk hcell

set_option maxHeartbeats 400000 in
theorem signed_any (neg : Bool) (x : Nat) (w : World) (hx : x < 9223372036854775808) :
    Calls Tryd.prog 85 #[.agg #[.int .i64 52, .int .u64 4503599627370495, .int .u64 2047, .int .u64 9223372036854775808, .int .u64 9218868437227405312, .int .u64 9221120237041090561, .int .i64 1075], .bool neg, .int .u64 x] w fun e w' => e = .returned (.int .u64 (signN neg x)) ∧ w' = w.alloc (.cells #[.int .i64 52, .int .u64 4503599627370495, .int .u64 2047, .int .u64 9223372036854775808, .int .u64 9218868437227405312, .int .u64 9221120237041090561, .int .i64 1075] 90) := by
  cases neg
  all_goals
    go_enter Tryd.func85, Tryd.ntmps85
    go_wp2
    go_ret
  · exact ⟨rfl, rfl⟩
  · exact ⟨ret_int (or_sign x hx), rfl⟩
set_option maxHeartbeats 400000 in
theorem lowest_any (e : Int) (w : World) (h1 : -2000 ≤ e) (h2 : e ≤ 3000) :
    Calls Tryd.prog 80 #[.agg #[.int .i64 52, .int .u64 4503599627370495, .int .u64 2047, .int .u64 9223372036854775808, .int .u64 9218868437227405312, .int .u64 9221120237041090561, .int .i64 1075], .int .i64 e] w fun r w' => r = .returned (.int .i64 (max e 1 - 1075)) ∧ w' = w.alloc (.cells #[.int .i64 52, .int .u64 4503599627370495, .int .u64 2047, .int .u64 9223372036854775808, .int .u64 9218868437227405312, .int .u64 9221120237041090561, .int .i64 1075] 90) := by
  go_enter Tryd.func80, Tryd.ntmps80
  go_wp2
  all_goals go_ret
  all_goals exact ⟨ret_int (by omega), rfl⟩
theorem lowest0 (w : World) :
    Calls Tryd.prog 80 #[.agg #[.int .i64 52, .int .u64 4503599627370495, .int .u64 2047, .int .u64 9223372036854775808, .int .u64 9218868437227405312, .int .u64 9221120237041090561, .int .i64 1075], .int .i64 0] w fun r w' => r = .returned (.int .i64 (-1074)) ∧ w' = w.alloc (.cells #[.int .i64 52, .int .u64 4503599627370495, .int .u64 2047, .int .u64 9223372036854775808, .int .u64 9218868437227405312, .int .u64 9221120237041090561, .int .i64 1075] 90) :=
  lowest_any 0 w (by omega) (by omega)
theorem lowest0_b (w : World) :
    Calls Tryd.prog 80 #[.agg #[.int .i64 52, .int .u64 4503599627370495, .int .u64 2047, .int .u64 9223372036854775808, .int .u64 9218868437227405312, .int .u64 9221120237041090561, .int .i64 1075], .int .i64 0] w fun r w' => r = .returned (.int .i64 (-1074)) ∧ Below w.heap.size w w' :=
  (lowest0 w).mono fun _ _ h => ⟨h.1, by rw [h.2]; exact (Below.refl _ _).alloc (Nat.le_refl _) _⟩
theorem lowest_k (e k : Nat) (w : World) (he : e ≤ 2047) (hk : max e 1 = k + 1) :
    Calls Tryd.prog 80 #[.agg #[.int .i64 52, .int .u64 4503599627370495, .int .u64 2047, .int .u64 9223372036854775808, .int .u64 9218868437227405312, .int .u64 9221120237041090561, .int .i64 1075], .int .i64 e] w fun r w' => r = .returned (.int .i64 ((k : Int) - 1074)) ∧ w' = w.alloc (.cells #[.int .i64 52, .int .u64 4503599627370495, .int .u64 2047, .int .u64 9223372036854775808, .int .u64 9218868437227405312, .int .u64 9221120237041090561, .int .i64 1075] 90) :=
  (lowest_any e w (by omega) (by omega)).mono fun _ _ h => ⟨by rw [h.1]; exact ret_int (by omega), h.2⟩
theorem fold_len : (⟨((([0, 1, 2, 2, 3, 3, 3, 3, 4, 4, 4, 4, 4, 4, 4, 4, 5, 5, 5, 5, 5, 5, 5, 5, 5, 5, 5, 5, 5, 5, 5, 5, 6, 6, 6, 6, 6, 6, 6, 6, 6, 6, 6, 6, 6, 6, 6, 6, 6, 6, 6, 6, 6, 6, 6, 6, 6, 6, 6, 6, 6, 6, 6, 6] : List UInt8).append [7, 7, 7, 7, 7, 7, 7, 7, 7, 7, 7, 7, 7, 7, 7, 7, 7, 7, 7, 7, 7, 7, 7, 7, 7, 7, 7, 7, 7, 7, 7, 7, 7, 7, 7, 7, 7, 7, 7, 7, 7, 7, 7, 7, 7, 7, 7, 7, 7, 7, 7, 7, 7, 7, 7, 7, 7, 7, 7, 7, 7, 7, 7, 7]).append (([8, 8, 8, 8, 8, 8, 8, 8, 8, 8, 8, 8, 8, 8, 8, 8, 8, 8, 8, 8, 8, 8, 8, 8, 8, 8, 8, 8, 8, 8, 8, 8, 8, 8, 8, 8, 8, 8, 8, 8, 8, 8, 8, 8, 8, 8, 8, 8, 8, 8, 8, 8, 8, 8, 8, 8, 8, 8, 8, 8, 8, 8, 8, 8] : List UInt8).append [8, 8, 8, 8, 8, 8, 8, 8, 8, 8, 8, 8, 8, 8, 8, 8, 8, 8, 8, 8, 8, 8, 8, 8, 8, 8, 8, 8, 8, 8, 8, 8, 8, 8, 8, 8, 8, 8, 8, 8, 8, 8, 8, 8, 8, 8, 8, 8, 8, 8, 8, 8, 8, 8, 8, 8, 8, 8, 8, 8, 8, 8, 8, 8])).toArray⟩ : ByteArray) = Lib.len8tab := by kernel_rfl
set_option maxHeartbeats 1000000 in
set_option maxRecDepth 100000 in
theorem len_int (x : Int) (w : World) (h0 : 0 ≤ x) (h1 : x ≤ 18446744073709551615) :
    Calls Tryd.prog 84 #[.int .u64 x] w fun r w' => r = .returned (.int .i64 (bitLen x.toNat)) ∧ w' = w := by
  go_enter Tryd.func84, Tryd.ntmps84
  rw [fold_len]
  go_wp2
  all_goals first
    | (exfalso; rename_i hno; apply hno; rw [len8_size]; omega)
    | (go_ret; refine ⟨ret_int ?_, rfl⟩; first | exact len_close x _ 56 (by omega) (by simp only [Nat.reducePow]; omega) (by omega) (by omega) _ | exact len_close x _ 48 (by omega) (by simp only [Nat.reducePow]; omega) (by omega) (by omega) _ | exact len_close x _ 40 (by omega) (by simp only [Nat.reducePow]; omega) (by omega) (by omega) _ | exact len_close x _ 32 (by omega) (by simp only [Nat.reducePow]; omega) (by omega) (by omega) _ | exact len_close x _ 24 (by omega) (by simp only [Nat.reducePow]; omega) (by omega) (by omega) _ | exact len_close x _ 16 (by omega) (by simp only [Nat.reducePow]; omega) (by omega) (by omega) _ | exact len_close x _ 8 (by omega) (by simp only [Nat.reducePow]; omega) (by omega) (by omega) _ | exact len_close00 x h0 (by omega) _)
theorem len_any (x : Nat) (w : World) (hx : x < 18446744073709551616) :
    Calls Tryd.prog 84 #[.int .u64 x] w fun r w' => r = .returned (.int .i64 (bitLen x)) ∧ w' = w :=
  len_int (x : Int) w (by omega) (by omega)
end Go.Proofs.YtilffgmekeeohaaDoor

namespace Go.Proofs.YtilffgmekeeohaaDoor
open Go.RowKit Go.IntWalk

set_option maxHeartbeats 400000 in
theorem bits_any (x : Nat) (w : World) (hx : x < 18446744073709551616) :
    Calls Tryd.prog 66 #[.float .f64 x] w fun e w' => e = .returned (.int .u64 (canonOf x)) ∧ w' = w := by
  have h1 := f64bits
  have ho := order_self x hx
  by_cases h : 9218868437227405312 < x % 9223372036854775808
  · rw [decide_eq_true h] at ho
    have H : Hid (9218868437227405312 < x % 9223372036854775808) := h
    clear h
    go_enter Tryd.func66, Tryd.ntmps66
    go_wp2
    go_ret
    exact ⟨ret_int (by unfold canonOf; rw [if_pos H.out]; rfl), rfl⟩
  · rw [decide_eq_false h] at ho
    have H : Hid (¬ 9218868437227405312 < x % 9223372036854775808) := h
    clear h
    go_enter Tryd.func66, Tryd.ntmps66
    go_wp2
    go_ret
    exact ⟨ret_int (by unfold canonOf; rw [if_neg H.out]), rfl⟩

theorem neg_r {x : Nat} (hx : x < 18446744073709551616) : ((canonOf x : Int) / 9223372036854775808 == 1) = negOf x := by
  have hl := canon_lt hx
  unfold negOf
  rw [Bool.eq_iff_iff, beq_iff_eq, decide_eq_true_eq]
  omega
theorem exp_r {x : Nat} (hx : x < 18446744073709551616) : (canonOf x : Int) / 4503599627370496 % 2048 = (expOf x : Int) := by
  have hl := canon_lt hx
  unfold expOf
  omega
theorem frac_r (x : Nat) : (canonOf x : Int) % 4503599627370496 = (fracOf x : Int) := by
  unfold fracOf
  omega

set_option maxHeartbeats 400000 in
theorem rsplit_any (x : Nat) (w : World) (hx : x < 18446744073709551616) :
    Calls Tryd.prog 50 #[.float .f64 x] w fun e w' => e = .returned (.tuple #[.bool (negOf x), .int .i64 (expOf x), .int .u64 (fracOf x)]) ∧ w' = w := by
  go_enter Tryd.func50, Tryd.ntmps50
  go_wp2_with fail
  refine (bits_any x _ hx).mono ?_
  rintro e w' ⟨rfl, rfl⟩
  go_wp2_with fail
  go_ret3
  exact ⟨ret_bii (neg_r hx) (exp_r hx) (frac_r x), rfl⟩

theorem class_fin (x : Nat) : decide ((2 : Int) < (classN x : Int)) = !(expOf x == 2047) := by
  unfold classN
  by_cases h : expOf x = 2047
  · rw [if_pos h, h]; split <;> rfl
  · rw [if_neg h]
    have : (expOf x == 2047) = false := by simpa using h
    rw [this]
    split
    · split <;> rfl
    · rfl
end Go.Proofs.YtilffgmekeeohaaDoor

namespace Go.Proofs.YtilffgmekeeohaaDoor
open Go.RowKit Go.IntWalk

theorem cn_canon {x : Nat} (h : Cn x) : canonOf x = x := by
  unfold canonOf
  rw [if_neg (by have := h.2.1; omega)]
/-- What 'same' tells. -/
def sameB (a b c d : Nat) : Bool := decide (a = c) && decide (b = d)
set_option maxHeartbeats 1000000 in
theorem of6_any (a b : Nat) (w : World) : Calls Tryd.prog 5 #[.agg #[.int .u64 a, .int .u64 b]] w fun r w' => r = .returned (IV a b) ∧ Below w.heap.size w w' ∧ w'.heap.size = w.heap.size + 2 := by
  obtain ⟨g1, g2⟩ := iblk2 w (.cells #[.int .u64 a, .int .u64 b] 24) (IBox 0 0)
  have HB0 : Hid (Below w.heap.size w ((w.alloc (.cells #[.int .u64 a, .int .u64 b] 24)).alloc (IBox 0 0))) := ((Below.refl _ _).alloc (Nat.le_refl _) _).alloc (by simp) _
  have HS0 : Hid (((w.alloc (.cells #[.int .u64 a, .int .u64 b] 24)).alloc (IBox 0 0)).heap.size = w.heap.size + 2) := by
    show _ = _
    simp
  obtain ⟨W0, hW0⟩ : ∃ V, Hid ((w.alloc (.cells #[.int .u64 a, .int .u64 b] 24)).alloc (IBox 0 0) = V) := ⟨_, rfl⟩
  rw [hW0.out] at HB0 g1 g2 HS0
  obtain ⟨d0, d1, d2⟩ := icells_of g1
  obtain ⟨z0, z1, z2⟩ := icells_of (show W0.heap[w.heap.size + 1]? = some (.cells #[.float .f64 0, .float .f64 0] 28) from g2)
  unfold IBox at hW0
  have hW0' := hW0.out
  have hst := fstore
  clear g1 g2
  go_enter Tryd.func5, Tryd.ntmps5
  go_wp2_with fail
  go_region_with (first
    | (go_at_call 21; refine (f_any _ _).mono ?_; rintro r w1 ⟨rfl, rfl⟩))
  all_goals go_wp2
  all_goals exact bodyPost_ret (v := IV a b) (by simp [results, Tryd.results5, go_sem, z0, z1, IV]) rfl ⟨rfl, Below.setCell (Below.setCell HB0.out.drew (Nat.le_succ _) _) (Nat.le_succ _) _, by simpa [World.setCell] using HS0.out⟩
end Go.Proofs.YtilffgmekeeohaaDoor
