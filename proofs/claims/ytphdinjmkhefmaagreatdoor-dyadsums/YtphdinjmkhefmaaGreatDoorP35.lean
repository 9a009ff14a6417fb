
/- Plain arithmetic on neighbours; no program is spoken of. -/
import Derived.Test.YtphdinjmkhefmaaGreatDoorP4
namespace Go.Proofs.YtphdinjmkhefmaaGreatDoor
open Go Go.RowKit Go.IntWalk

/-- The next number's bits. -/
def nextOf (x : Nat) : Nat :=
  if canonOf x = 9221120237041090561 ∨ canonOf x = 9218868437227405312 then canonOf x else if canonOf x = 9223372036854775808 then 1 else if 9223372036854775808 ≤ canonOf x then canonOf x - 1 else canonOf x + 1
/-- The bits with the other sign. -/
def flipOf (x : Nat) : Nat := if 9223372036854775808 ≤ x then x - 9223372036854775808 else x + 9223372036854775808
def prevOf (x : Nat) : Nat := if canonOf x = 9221120237041090561 then 9221120237041090561 else flipOf (nextOf (flipOf (canonOf x)))
theorem canon_cases (x : Nat) : canonOf x = 9221120237041090561 ∨ canonOf x % 9223372036854775808 ≤ 9218868437227405312 := by
  unfold canonOf
  split
  · exact Or.inl rfl
  · right; omega
theorem next_lt {x : Nat} (hx : x < 18446744073709551616) : nextOf x < 18446744073709551616 := by
  have := canon_lt hx
  have := canon_cases x
  unfold nextOf
  split
  · omega
  · split
    · omega
    · split <;> omega
theorem flip_lt {x : Nat} (hx : x < 18446744073709551616) : flipOf x < 18446744073709551616 := by unfold flipOf; split <;> omega
theorem flip_flip {x : Nat} (hx : x < 18446744073709551616) : flipOf (flipOf x) = x := by unfold flipOf; split <;> split <;> omega
theorem xor_sign (x : Nat) (hx : x < 18446744073709551616) : bits .xor .u64 (x : Int) 9223372036854775808 = (flipOf x : Int) := by
  have h := u64_xor_nat x 9223372036854775808 hx (by omega)
  have e : x ^^^ 9223372036854775808 = flipOf x := by
    apply Nat.eq_of_testBit_eq
    intro i
    have h63 : (9223372036854775808 : Nat) = 2 ^ 63 := by decide
    unfold flipOf
    rw [Nat.testBit_xor]
    by_cases hs : 9223372036854775808 ≤ x
    · rw [if_pos hs]
      obtain ⟨m, hm⟩ : ∃ m, x = 2 ^ 63 + m := ⟨x - 2 ^ 63, by omega⟩
      have hml : m < 2 ^ 63 := by omega
      have e1 : x - 9223372036854775808 = m := by omega
      rw [e1, hm, h63, Nat.testBit_two_pow]
      by_cases hi : i = 63
      · subst hi
        rw [Nat.testBit_two_pow_add_eq, Nat.testBit_lt_two_pow hml]; rfl
      · have e2 : (2 ^ 63 + m).testBit i = m.testBit i := by
          rcases Nat.lt_or_gt_of_ne hi with hi | hi
          · rw [Nat.testBit_two_pow_add_gt hi]
          · rw [Nat.testBit_lt_two_pow (x := 2 ^ 63 + m) (i := i) (Nat.lt_of_lt_of_le (by omega : 2 ^ 63 + m < 2 ^ 64) (Nat.pow_le_pow_right (by omega) (by omega))),
              Nat.testBit_lt_two_pow (x := m) (i := i) (Nat.lt_of_lt_of_le hml (Nat.pow_le_pow_right (by omega) (by omega)))]
        rw [e2]
        have : decide (63 = i) = false := by simpa using (fun h => hi h.symm)
        rw [this]; simp
    · rw [if_neg hs]
      have hml : x < 2 ^ 63 := by omega
      have e1 : x + 9223372036854775808 = 2 ^ 63 + x := by omega
      rw [e1, h63, Nat.testBit_two_pow]
      by_cases hi : i = 63
      · subst hi
        rw [Nat.testBit_two_pow_add_eq, Nat.testBit_lt_two_pow hml]; rfl
      · have e2 : (2 ^ 63 + x).testBit i = x.testBit i := by
          rcases Nat.lt_or_gt_of_ne hi with hi | hi
          · rw [Nat.testBit_two_pow_add_gt hi]
          · rw [Nat.testBit_lt_two_pow (x := 2 ^ 63 + x) (i := i) (Nat.lt_of_lt_of_le (by omega : 2 ^ 63 + x < 2 ^ 64) (Nat.pow_le_pow_right (by omega) (by omega))),
              Nat.testBit_lt_two_pow (x := x) (i := i) (Nat.lt_of_lt_of_le hml (Nat.pow_le_pow_right (by omega) (by omega)))]
        rw [e2]
        have : decide (63 = i) = false := by simpa using (fun h => hi h.symm)
        rw [this]; simp
  rw [e] at h
  exact h
theorem key_next (x : Nat) (hx : x < 18446744073709551616) (hn : x % 9223372036854775808 ≤ 9218868437227405312) (h1 : x ≠ 9218868437227405312) (h2 : x ≠ 9223372036854775808) : keyOf (nextOf x) = keyOf x + 1 := by
  have hc : canonOf x = x := by unfold canonOf; rw [if_neg (by omega)]
  unfold nextOf
  rw [hc, if_neg (by omega), if_neg h2]
  by_cases hs : 9223372036854775808 ≤ x
  · rw [if_pos hs, key_num _ (by omega), key_num _ hn, if_pos hs, if_pos (by omega)]
    omega
  · rw [if_neg hs, key_num _ (by omega), key_num _ hn, if_neg hs, if_neg (by omega)]
    omega
theorem next_num (x : Nat) (hx : x < 18446744073709551616) (hn : x % 9223372036854775808 ≤ 9218868437227405312) : nextOf x % 9223372036854775808 ≤ 9218868437227405312 := by
  have hc : canonOf x = x := by unfold canonOf; rw [if_neg (by omega)]
  unfold nextOf
  rw [hc]
  split
  · exact hn
  · split
    · omega
    · split <;> omega
theorem next_eq (x c : Nat) (h : canonOf x = c) : nextOf x = if c = 9221120237041090561 ∨ c = 9218868437227405312 then c else if c = 9223372036854775808 then 1 else if 9223372036854775808 ≤ c then c - 1 else c + 1 := by
  unfold nextOf; rw [h]
theorem next_w1 {x c : Nat} (hc : canonOf x = c) (h : (c : Int) = 9221120237041090561) : (c : Int) = (nextOf x : Int) := by
  rw [next_eq x c hc, if_pos (Or.inl (by omega))]
theorem next_w2 {x c : Nat} (hc : canonOf x = c) (h : ((c : Int) == 9221120237041090561) = true ∨ ((c : Int) == 9218868437227405312) = true) : (c : Int) = (nextOf x : Int) := by
  rw [beq_iff_eq, beq_iff_eq] at h
  rw [next_eq x c hc, if_pos (by omega)]
theorem next_w3 {x c : Nat} (hc : canonOf x = c) (h : ((c : Int) == 9223372036854775808) = true) : (1 : Int) = (nextOf x : Int) := by
  rw [beq_iff_eq] at h
  rw [next_eq x c hc, if_neg (by omega), if_pos (by omega)]; rfl
theorem next_w4 {x c : Nat} (hc : canonOf x = c) (hl : c < 18446744073709551616) (_h : ((c : Int) == 9221120237041090561) = false ∧ ((c : Int) == 9218868437227405312) = false) (h2 : ((c : Int) == 9223372036854775808) = false)
    (h3 : (bits .and .u64 (c : Int) 9223372036854775808 != 0) = true) : IntKind.u64.wrap ((c : Int) - 1) = (nextOf x : Int) := by
  simp only [beq_eq_false_iff_ne, ne_eq] at h2
  have h4 : 9223372036854775808 ≤ c := by
    apply Classical.byContradiction
    intro h4
    rw [and_sign c hl, if_neg h4] at h3
    simp at h3
  rw [next_eq x c hc, if_neg (by omega), if_neg (by omega), if_pos h4, IntKind.wrap_u64]
  omega
theorem next_w5 {x c : Nat} (hc : canonOf x = c) (hl : c < 18446744073709551616) (_hk : c = 9221120237041090561 ∨ c % 9223372036854775808 ≤ 9218868437227405312) (h : ((c : Int) == 9221120237041090561) = false ∧ ((c : Int) == 9218868437227405312) = false) (h2 : ((c : Int) == 9223372036854775808) = false)
    (h3 : (bits .and .u64 (c : Int) 9223372036854775808 != 0) = false) : IntKind.u64.wrap ((c : Int) + 1) = (nextOf x : Int) := by
  simp only [beq_eq_false_iff_ne, ne_eq] at h h2
  have h4 : ¬ 9223372036854775808 ≤ c := by
    intro h4
    rw [and_sign c hl, if_pos h4] at h3
    simp at h3
  rw [next_eq x c hc, if_neg (by omega), if_neg (by omega), if_neg h4, IntKind.wrap_u64]
  omega
end Go.Proofs.YtphdinjmkhefmaaGreatDoor
