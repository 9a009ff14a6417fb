
/- Plain arithmetic: the division of two words by one, digit by digit of 32 bits, as math/bits.Div64 goes. -/
import Derived.Test.YtfdphegiafccpabP2
namespace Go.Proofs.Ytfdphegiafccpab

/-- What holds ahead of each round of a digit's search: y1 and y0 the divisor's halves, u what is left, d the next digit. -/
structure DigI (u d y1 y0 q r : Nat) : Prop where
  sum : q * y1 + r = u
  low : (u * 4294967296 + d) / (y1 * 4294967296 + y0) ≤ q
  top : q ≤ 4294967297
  rem : r < 4294967296
theorem dig_low (u d y1 y0 q : Nat) (hd : d < 4294967296) (h : q = (u * 4294967296 + d) / (y1 * 4294967296 + y0)) : q * y1 ≤ u := by
  have h1 : q * (y1 * 4294967296 + y0) ≤ u * 4294967296 + d := by rw [h]; exact Nat.div_mul_le_self _ _
  rw [Nat.mul_add, ← Nat.mul_assoc] at h1
  generalize q * y1 = z at *
  generalize q * y0 = z0 at *
  omega
theorem DigI.start (u d y1 y0 : Nat) (hu : u < y1 * 4294967296 + y0) (h1 : 2147483648 ≤ y1) (h2 : y1 < 4294967296) (h0 : y0 < 4294967296) (hd : d < 4294967296) : DigI u d y1 y0 (u / y1) (u % y1) := by
  refine ⟨?_, ?_, ?_, ?_⟩
  · rw [Nat.mul_comm]; exact Nat.div_add_mod u y1
  · exact (Nat.le_div_iff_mul_le (by omega)).2 (dig_low u d y1 y0 _ hd rfl)
  · have : u / y1 < 4294967298 := by
      rw [Nat.div_lt_iff_lt_mul (by omega)]
      omega
    omega
  · have := Nat.mod_lt u (show 0 < y1 by omega)
    omega
theorem dig_mul (q y1 y0 u r : Nat) (h : q * y1 + r = u) : q * (y1 * 4294967296 + y0) + r * 4294967296 = u * 4294967296 + q * y0 := by
  rw [Nat.mul_add, ← Nat.mul_assoc]
  generalize q * y1 = z at *
  generalize q * y0 = z0 at *
  omega
theorem DigI.last {u d y1 y0 q r : Nat} (h : DigI u d y1 y0 q r) (hy : 0 < y1) (hle : q * y0 ≤ 4294967296 * r + d) : q = (u * 4294967296 + d) / (y1 * 4294967296 + y0) := by
  refine Nat.le_antisymm ?_ h.low
  rw [Nat.le_div_iff_mul_le (by omega)]
  have := dig_mul q y1 y0 u r h.sum
  omega
theorem DigI.more {u d y1 y0 q r : Nat} (h : DigI u d y1 y0 q r) (hu : u < y1 * 4294967296 + y0) (hd : d < 4294967296) (hc : 4294967296 ≤ q ∨ 4294967296 * r + d < q * y0) : 1 ≤ q ∧ (u * 4294967296 + d) / (y1 * 4294967296 + y0) ≤ q - 1 ∧ (q - 1) * y1 + (r + y1) = u := by
  have hq : (u * 4294967296 + d) / (y1 * 4294967296 + y0) < q := by
    rcases hc with hc | hc
    · refine Nat.lt_of_lt_of_le ?_ hc
      rw [Nat.div_lt_iff_lt_mul (by omega)]
      omega
    · rw [Nat.div_lt_iff_lt_mul (by omega)]
      have := dig_mul q y1 y0 u r h.sum
      omega
  generalize (u * 4294967296 + d) / (y1 * 4294967296 + y0) = t at *
  obtain ⟨p, rfl⟩ : ∃ p, q = p + 1 := ⟨q - 1, by omega⟩
  have := h.sum
  rw [Nat.add_mul, Nat.one_mul] at this
  refine ⟨by omega, by omega, ?_⟩
  show (p + 1 - 1) * y1 + (r + y1) = u
  rw [Nat.add_sub_cancel]
  omega
theorem DigI.next {u d y1 y0 q r : Nat} (h : DigI u d y1 y0 q r) (hu : u < y1 * 4294967296 + y0) (hd : d < 4294967296) (hc : 4294967296 ≤ q ∨ 4294967296 * r + d < q * y0) (hr : r + y1 < 4294967296) : DigI u d y1 y0 (q - 1) (r + y1) := by
  obtain ⟨h1, h2, h3⟩ := h.more hu hd hc
  exact ⟨h3, h2, by have := h.top; omega, hr⟩
theorem DigI.stop {u d y1 y0 q r : Nat} (h : DigI u d y1 y0 q r) (hu : u < y1 * 4294967296 + y0) (hd : d < 4294967296) (h0 : y0 < 4294967296) (hc : 4294967296 ≤ q ∨ 4294967296 * r + d < q * y0) (hr : 4294967296 ≤ r + y1) : q - 1 = (u * 4294967296 + d) / (y1 * 4294967296 + y0) := by
  obtain ⟨h1, h2, h3⟩ := h.more hu hd hc
  refine Nat.le_antisymm ?_ h2
  rw [Nat.le_div_iff_mul_le (by omega)]
  have := dig_mul (q - 1) y1 y0 u (r + y1) h3
  have ht := h.top
  have hm : (q - 1) * y0 ≤ 4294967296 * 4294967295 := Nat.mul_le_mul (by omega) (by omega)
  omega
/-- Two digits of a quotient, one behind the other. -/
theorem dig_two (u d1 d0 y q1 r1 : Nat) (hy : 0 < y) (h1 : q1 = (u * 4294967296 + d1) / y) (h2 : r1 = (u * 4294967296 + d1) % y) :
    q1 * 4294967296 + (r1 * 4294967296 + d0) / y = (u * 18446744073709551616 + d1 * 4294967296 + d0) / y ∧ (r1 * 4294967296 + d0) % y = (u * 18446744073709551616 + d1 * 4294967296 + d0) % y := by
  have e : u * 18446744073709551616 + d1 * 4294967296 + d0 = y * (q1 * 4294967296) + (r1 * 4294967296 + d0) := by
    have h3 : y * q1 + r1 = u * 4294967296 + d1 := by rw [h1, h2]; exact Nat.div_add_mod _ _
    rw [← Nat.mul_assoc]
    generalize y * q1 = z at *
    omega
  rw [e, Nat.mul_add_div hy, Nat.mul_add_mod]
  exact ⟨rfl, rfl⟩
/-- A quotient and what is left over, both sides shifted. -/
theorem div_shift (n y p : Nat) (hp : 0 < p) : n * p / (y * p) = n / y ∧ n * p % (y * p) / p = n % y := by
  refine ⟨Nat.mul_div_mul_right _ _ hp, ?_⟩
  rw [Nat.mul_mod_mul_right, Nat.mul_div_cancel _ hp]
/-- What is left over behind a digit, told by words that wrap. -/
theorem dig_rest (u d y q : Nat) (hy : y < 18446744073709551616) (hq : q = (u * 4294967296 + d) / y) :
    (((u : Int) * 4294967296 + d - (q : Int) * y) % 18446744073709551616) = (((u * 4294967296 + d) % y : Nat) : Int) ∨ y = 0 := by
  rcases Nat.eq_zero_or_pos y with h0 | h0
  · exact .inr h0
  refine .inl ?_
  have h3 : y * q + (u * 4294967296 + d) % y = u * 4294967296 + d := by rw [hq]; exact Nat.div_add_mod _ _
  have hm := Nat.mod_lt (u * 4294967296 + d) h0
  generalize (u * 4294967296 + d) % y = r at *
  have e : (u : Int) * 4294967296 + d - (q : Int) * y = r := by
    have : ((y * q + r : Nat) : Int) = ((u * 4294967296 + d : Nat) : Int) := by rw [h3]
    rw [Int.natCast_add, Int.natCast_mul, Int.natCast_add, Int.natCast_mul] at this
    rw [Int.mul_comm (q : Int)]
    generalize (y : Int) * (q : Int) = z at *
    have c : ((4294967296 : Nat) : Int) = 4294967296 := rfl
    rw [c] at this
    omega
  rw [e]
  omega
end Go.Proofs.Ytfdphegiafccpab
