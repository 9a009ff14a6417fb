
/- Plain arithmetic on steps: between a number and the next one there is none, and how far it is; no program is spoken of. -/
import Derived.Test.YtfeojdmffipinaaDoorRound
import Derived.Test.YtfeojdmffipinaaDoorNumsN
import Derived.Test.YtfeojdmffipinaaDoorNums
namespace Go.Proofs.YtfeojdmffipinaaDoor
open Go

theorem nv_step (r : Nat) : nv (r + 1) = nv r + 2 ^ (max (r / 4503599627370496) 1 - 1) := by
  unfold nv
  by_cases h1 : r + 1 < 4503599627370496
  · have e : max (r / 4503599627370496) 1 - 1 = 0 := by omega
    rw [if_pos h1, if_pos (by omega), e]
  · rw [if_neg h1]
    by_cases h2 : r < 4503599627370496
    · have e : max (r / 4503599627370496) 1 - 1 = 0 := by omega
      have e2 : r + 1 = 4503599627370496 := by omega
      have e3 : (4503599627370496 + 4503599627370496 % 4503599627370496) * 2 ^ (4503599627370496 / 4503599627370496 - 1) = 4503599627370496 := by decide
      rw [if_pos h2, e, e2, e3]
    · rw [if_neg h2]
      by_cases h3 : (r + 1) % 4503599627370496 = 0
      · obtain ⟨q, hq⟩ : ∃ q, r / 4503599627370496 = q + 1 := ⟨r / 4503599627370496 - 1, by omega⟩
        have e1 : (r + 1) / 4503599627370496 = q + 2 := by omega
        have e2 : r % 4503599627370496 = 4503599627370495 := by omega
        have e3 : max (q + 1) 1 - 1 = q := by omega
        rw [h3, e1, e2, hq, e3]
        have e4 : q + 2 - 1 = q + 1 := by omega
        have e5 : q + 1 - 1 = q := by omega
        rw [e4, e5, Nat.pow_succ]
        omega
      · have e1 : (r + 1) / 4503599627370496 = r / 4503599627370496 := by omega
        have e2 : (r + 1) % 4503599627370496 = r % 4503599627370496 + 1 := by omega
        have e3 : max (r / 4503599627370496) 1 - 1 = r / 4503599627370496 - 1 := by omega
        rw [e1, e2, e3, ← Nat.add_assoc, Nat.add_mul, Nat.one_mul]
theorem nv_pow (k : Nat) : nv (powN k) = 2 ^ k := by
  unfold powN
  by_cases h : k ≤ 51
  · rw [if_pos h]
    have h1 : (2 : Nat) ^ k ≤ 2 ^ 51 := Nat.pow_le_pow_right (by omega) h
    have h2 : (2 : Nat) ^ 51 = 2251799813685248 := by decide
    unfold nv
    rw [if_pos (by omega)]
  · rw [if_neg h]
    unfold nv
    have e1 : (k - 51) * 4503599627370496 / 4503599627370496 = k - 51 := Nat.mul_div_cancel _ (by omega)
    have e2 : (k - 51) * 4503599627370496 % 4503599627370496 = 0 := Nat.mul_mod_left _ _
    rw [if_neg (by omega), e1, e2]
    have e3 : (4503599627370496 + 0 : Nat) = 2 ^ 52 := by decide
    rw [e3, ← Nat.pow_add]
    congr 1
    omega
theorem pow_lt_inf (k : Nat) (h : k ≤ 2045) : powN k < 9218868437227405312 := by
  unfold powN
  split
  · rename_i h2
    have h1 : (2 : Nat) ^ k ≤ 2 ^ 51 := Nat.pow_le_pow_right (by omega) h2
    have h2 : (2 : Nat) ^ 51 = 2251799813685248 := by decide
    omega
  · omega
theorem order_lt (x y : Nat) (hx : x < 18446744073709551616) (hy : y < 18446744073709551616) (nx : x % 9223372036854775808 ≤ 9218868437227405312) (ny : y % 9223372036854775808 ≤ 9218868437227405312) :
    (FloatKind.f64.format.order x y == some .lt) = decide (sv x < sv y) := by
  rw [order_eq x y hx hy nx ny]
  rcases Int.lt_trichotomy (sv x) (sv y) with h | h | h
  · rw [cmp_lt h, decide_eq_true h]; rfl
  · rw [cmp_eq h, decide_eq_false (by omega)]; rfl
  · rw [cmp_gt h, decide_eq_false (by omega)]; rfl
theorem order_gt (x y : Nat) (hx : x < 18446744073709551616) (hy : y < 18446744073709551616) (nx : x % 9223372036854775808 ≤ 9218868437227405312) (ny : y % 9223372036854775808 ≤ 9218868437227405312) :
    (FloatKind.f64.format.order x y == some .gt) = decide (sv y < sv x) := by
  rw [order_eq x y hx hy nx ny]
  rcases Int.lt_trichotomy (sv x) (sv y) with h | h | h
  · rw [cmp_lt h, decide_eq_false (by omega)]; rfl
  · rw [cmp_eq h, decide_eq_false (by omega)]; rfl
  · rw [cmp_gt h, decide_eq_true h]; rfl
theorem order_eq' (x y : Nat) (hx : x < 18446744073709551616) (hy : y < 18446744073709551616) (nx : x % 9223372036854775808 ≤ 9218868437227405312) (ny : y % 9223372036854775808 ≤ 9218868437227405312) :
    (FloatKind.f64.format.order x y == some .eq) = decide (sv x = sv y) := by
  rw [order_eq x y hx hy nx ny]
  rcases Int.lt_trichotomy (sv x) (sv y) with h | h | h
  · rw [cmp_lt h, decide_eq_false (by omega)]; rfl
  · rw [cmp_eq h, decide_eq_true h]; rfl
  · rw [cmp_gt h, decide_eq_false (by omega)]; rfl

/-- The step above the magnitude of x, as a power: 2^(stepOf x - 1074). -/
def stepOf (x : Nat) : Nat := max (x % 9223372036854775808 / 4503599627370496) 1 - 1
theorem step_exp (x : Nat) (nx : x % 9223372036854775808 < 9218868437227405312) : max (expOf x) 1 = stepOf x + 1 ∧ expOf x < 2047 := by
  have e : expOf x = x % 9223372036854775808 / 4503599627370496 := by
    unfold expOf canonOf
    rw [if_neg (by omega)]
    omega
  unfold stepOf
  rw [e]
  omega
/-- What Next gives, by cases on the sign. -/
theorem next_pos (x : Nat) (h : x < 9218868437227405312) : nextOf x = x + 1 := by
  have hc : canonOf x = x := by unfold canonOf; rw [if_neg (by omega)]
  unfold nextOf
  rw [hc, if_neg (by omega), if_neg (by omega), if_neg (by omega)]
theorem next_neg (x : Nat) (h1 : 9223372036854775808 < x) (h2 : x ≤ 18442240474082181120) : nextOf x = x - 1 := by
  have hc : canonOf x = x := by unfold canonOf; rw [if_neg (by omega)]
  unfold nextOf
  rw [hc, if_neg (by omega), if_neg (by omega), if_pos (by omega)]
theorem next_nzero : nextOf 9223372036854775808 = 1 := by decide
theorem next_inf : nextOf 9218868437227405312 = 9218868437227405312 := by decide
theorem prev_one : prevOf 1 = 0 := by decide
theorem prev_pos (x : Nat) (h1 : 0 < x) (h : x < 9218868437227405312) : prevOf (x + 1) = x := by
  have hc : canonOf (x + 1) = x + 1 := by unfold canonOf; rw [if_neg (by omega)]
  unfold prevOf
  rw [hc, if_neg (by omega)]
  have e1 : flipOf (x + 1) = x + 1 + 9223372036854775808 := by unfold flipOf; rw [if_neg (by omega)]
  rw [e1, next_neg _ (by omega) (by omega)]
  unfold flipOf
  rw [if_pos (by omega)]
  omega
theorem prev_neg (x : Nat) (h1 : 9223372036854775808 < x) (h2 : x ≤ 18442240474082181120) : prevOf (x - 1) = x := by
  have hc : canonOf (x - 1) = x - 1 := by unfold canonOf; rw [if_neg (by omega)]
  unfold prevOf
  rw [hc, if_neg (by omega)]
  have e1 : flipOf (x - 1) = x - 1 - 9223372036854775808 := by unfold flipOf; rw [if_pos (by omega)]
  rw [e1, next_pos _ (by omega)]
  unfold flipOf
  rw [if_neg (by omega)]
  omega
theorem sv_pos (x : Nat) (h : x < 9223372036854775808) : sv x = (nv x : Int) := by
  unfold sv
  rw [if_neg (by omega), Nat.mod_eq_of_lt h]
theorem sv_neg (x : Nat) (h : 9223372036854775808 ≤ x) (h2 : x < 18446744073709551616) : sv x = -(nv (x - 9223372036854775808) : Int) := by
  unfold sv
  have e : x % 9223372036854775808 = x - 9223372036854775808 := by omega
  rw [if_pos h, e]
/-- Between a number and the next one there is none. -/
theorem none_between (x y : Nat) (hx : x < 18446744073709551616) (hy : y < 18446744073709551616) (nx : x % 9223372036854775808 ≤ 9218868437227405312) (hi : x ≠ 9218868437227405312)
    (h1 : FloatKind.f64.format.order x y = some .lt) (h2 : FloatKind.f64.format.order y (nextOf x) = some .lt) : False := by
  by_cases hz : x = 9223372036854775808
  · subst hz
    rw [next_nzero] at h2
    have k1 := lt_key _ _ hx hy h1
    have k2 := lt_key _ _ hy (by omega) h2
    have e1 : keyOf 9223372036854775808 = -1 := by decide
    have e2 : keyOf 1 = 1 := by decide
    rw [e1] at k1
    rw [e2] at k2
    have e3 : keyOf y = keyOf 0 := by
      have : keyOf 0 = 0 := by decide
      omega
    have e4 := (canon_key y 0 hy (by omega)).2 e3
    have e5 : canonOf 0 = 0 := by decide
    rw [e5] at e4
    have e6 : y = 0 := by
      unfold canonOf at e4
      split at e4 <;> omega
    subst e6
    revert h1
    decide
  · have k1 := lt_key _ _ hx hy h1
    have k2 := lt_key _ _ hy (next_lt hx) h2
    rw [key_next x hx nx hi hz] at k2
    omega
end Go.Proofs.YtfeojdmffipinaaDoor
