
/- Plain arithmetic of clocks: the floor as package clock reckons it, and what it is. -/
import Derived.Test.YtfdphegiafccpabP3
namespace Go.Proofs.Ytfdphegiafccpab

/-- The quotient that clock.quotient tells: cut at 2^62 + 1. -/
def quV (m c : Nat) : Nat := if c ≤ m / 18446744073709551616 then 4611686018427387905 else min (m / c) 4611686018427387905
def quR (m c : Nat) : Nat := if c ≤ m / 18446744073709551616 then 0 else m % c
/-- The floor that clock.floor tells. -/
def floV (a : Int) (b c : Nat) : Int := if 0 ≤ a then (quV (a.natAbs * b) c : Int) else if quR (a.natAbs * b) c = 0 then -(quV (a.natAbs * b) c : Int) else -(quV (a.natAbs * b) c : Int) - 1
theorem quV_le (m c : Nat) : quV m c ≤ 4611686018427387905 := by
  unfold quV
  split
  · omega
  · exact Nat.min_le_right _ _
theorem floV_bounds (a : Int) (b c : Nat) : -4611686018427387906 ≤ floV a b c ∧ floV a b c ≤ 4611686018427387905 := by
  have := quV_le (a.natAbs * b) c
  unfold floV
  split
  · omega
  · split <;> omega
theorem quV_is (m c : Nat) (hc : 0 < c) : (m / c ≤ 4611686018427387904 ∧ quV m c = m / c ∧ quR m c = m % c) ∨ (4611686018427387905 ≤ m / c ∧ quV m c = 4611686018427387905) := by
  unfold quV quR
  by_cases h : c ≤ m / 18446744073709551616
  · rw [if_pos h, if_pos h]
    refine .inr ⟨?_, rfl⟩
    rw [Nat.le_div_iff_mul_le hc]
    rw [Nat.le_div_iff_mul_le (by decide)] at h
    omega
  · rw [if_neg h, if_neg h]
    by_cases h2 : m / c ≤ 4611686018427387904
    · exact .inl ⟨h2, by rw [Nat.min_eq_left (by omega)], rfl⟩
    · exact .inr ⟨by omega, by rw [Nat.min_eq_right (by omega)]⟩
/-- The floor of a quotient of what is below 0. -/
theorem neg_floor (m c : Nat) (hc : 0 < c) : (-(m : Int)) / (c : Int) = if m % c = 0 then -((m / c : Nat) : Int) else -((m / c : Nat) : Int) - 1 := by
  have h := Nat.div_add_mod m c
  have hl := Nat.mod_lt m hc
  generalize m / c = q at *
  generalize m % c = r at *
  subst h
  have hci : (0 : Int) < (c : Int) := by omega
  split
  · rename_i h0
    subst h0
    rw [Nat.add_zero, Int.natCast_mul, ← Int.mul_neg, Int.mul_ediv_cancel_left _ (by omega)]
  · rename_i h0
    have e : -((c * q + r : Nat) : Int) = ((c : Int) - r) + c * (-(q : Int) - 1) := by
      rw [Int.natCast_add, Int.natCast_mul, Int.mul_sub, Int.mul_neg, Int.mul_one]
      omega
    rw [e, Int.add_mul_ediv_left _ _ (by omega), Int.ediv_eq_zero_of_lt (by omega) (by omega)]
    omega
/-- What clock.floor tells is the floor, or both lie beyond 2^62 on one side. -/
theorem floV_is (a : Int) (b c : Nat) (hc : 0 < c) : floV a b c = a * b / c ∨ (4611686018427387904 < a * b / c ∧ floV a b c = 4611686018427387905) ∨ (a * b / c < -4611686018427387904 ∧ floV a b c < -4611686018427387904) := by
  have hq := quV_is (a.natAbs * b) c hc
  unfold floV
  by_cases h0 : 0 ≤ a
  · rw [if_pos h0]
    obtain ⟨n, rfl⟩ := Int.eq_ofNat_of_zero_le h0
    have e : (n : Int) * b / c = ((n * b / c : Nat) : Int) := by rw [Int.natCast_ediv, Int.natCast_mul]
    rw [e]
    rw [Int.natAbs_natCast] at hq ⊢
    rcases hq with ⟨h1, h2, _⟩ | ⟨h1, h2⟩
    · exact .inl (by rw [h2])
    · exact .inr (.inl ⟨by omega, by rw [h2]; rfl⟩)
  · rw [if_neg h0]
    obtain ⟨n, hn⟩ : ∃ n : Nat, a = -(n : Int) := ⟨a.natAbs, by omega⟩
    have hn2 : a.natAbs = n := by omega
    rw [hn2] at hq ⊢
    have e : a * b = -((n * b : Nat) : Int) := by rw [hn, Int.natCast_mul, Int.neg_mul]
    rw [e, neg_floor _ _ hc]
    rcases hq with ⟨h1, h2, h3⟩ | ⟨h1, h2⟩
    · rw [h2, h3]
      exact .inl rfl
    · refine .inr (.inr ⟨?_, ?_⟩)
      · split <;> omega
      · rw [h2]
        split <;> omega
/-- Whether a floor with an offset lies within, told by clock's floor. -/
theorem floV_within (a : Int) (b c : Nat) (o : Int) (hc : 0 < c) (h1 : -1125899906842624 ≤ o) (h2 : o ≤ 1125899906842624) :
    (floV a b c = a * b / c) ∨ ((1125899906842624 < o + floV a b c ∧ 1125899906842624 < o + a * b / c) ∨ (o + floV a b c < -1125899906842624 ∧ o + a * b / c < -1125899906842624)) := by
  rcases floV_is a b c hc with h | ⟨h, h3⟩ | ⟨h, h3⟩
  · exact .inl h
  · exact .inr (.inl (by omega))
  · exact .inr (.inr (by omega))
/-- A clock may be. -/
def ckB (o n d : Int) : Bool := decide ((-1125899906842624 ≤ o ∧ o ≤ 1125899906842624) ∧ (1 ≤ n ∧ n ≤ 1000000000) ∧ (1 ≤ d ∧ d ≤ 1000000000))
theorem ckB_yes {o n d : Int} (h : ckB o n d = true) : (-1125899906842624 ≤ o ∧ o ≤ 1125899906842624) ∧ (1 ≤ n ∧ n ≤ 1000000000) ∧ (1 ≤ d ∧ d ≤ 1000000000) := by
  simpa [ckB] using h
def inB (t : Int) : Bool := decide (-1125899906842624 ≤ t ∧ t ≤ 1125899906842624)
theorem inB_iff (t : Int) : inB t = true ↔ (-1125899906842624 ≤ t ∧ t ≤ 1125899906842624) := by simp [inB]
theorem inB_no (t : Int) : inB t = false ↔ (t < -1125899906842624 ∨ 1125899906842624 < t) := by
  simp only [inB, decide_eq_false_iff_not]
  omega
/-- Time's error and answer. -/
def tmE (o n d k : Int) : Int := if ckB o n d = true then (if (inB k && inB (o + k * n / d)) = true then 0 else 1) else 130
def tmV (o n d k : Int) : Int := if tmE o n d k = 0 then o + k * n / d else 0
def cnE (o n d t : Int) : Int := if ckB o n d = true then (if (inB t && inB (-((o - t) * d / n))) = true then 0 else 1) else 130
def cnV (o n d t : Int) : Int := if cnE o n d t = 0 then -((o - t) * d / n) else 0
/-- What Time's error tells. -/
theorem tmE_zero (o n d k : Int) : tmE o n d k = 0 ↔ (ckB o n d = true ∧ inB k = true ∧ inB (o + k * n / d) = true) := by
  unfold tmE
  split
  · rename_i h
    split
    · rename_i h2
      rw [Bool.and_eq_true] at h2
      simp [h, h2]
    · rename_i h2
      rw [Bool.and_eq_true] at h2
      simp only [h, true_and]
      constructor
      · intro h3; omega
      · intro h3; exact absurd h3 h2
  · rename_i h
    simp [h]
theorem cnE_zero (o n d t : Int) : cnE o n d t = 0 ↔ (ckB o n d = true ∧ inB t = true ∧ inB (-((o - t) * d / n)) = true) := by
  unfold cnE
  split
  · rename_i h
    split
    · rename_i h2
      rw [Bool.and_eq_true] at h2
      simp [h, h2]
    · rename_i h2
      rw [Bool.and_eq_true] at h2
      simp only [h, true_and]
      constructor
      · intro h3; omega
      · intro h3; exact absurd h3 h2
  · rename_i h
    simp [h]
end Go.Proofs.Ytfdphegiafccpab
