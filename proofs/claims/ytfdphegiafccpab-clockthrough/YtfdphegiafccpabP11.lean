
/- Div64 of any two words by one that is above the first; clock's quotient, magnitude and floor. -/
import Derived.Test.YtfdphegiafccpabP10
import Derived.Test.YtfdphegiafccpabP4
namespace Go.Proofs.Ytfdphegiafccpab
open Go.RowKit Go.IntWalk

theorem ck_or (A C P a : Nat) (hA : A = a * P) (hP : ∃ s, P = 2 ^ s) (hC : C < P) (h1 : A < 18446744073709551616) (h2 : C < 18446744073709551616) : bits .or .u64 (A : Int) (C : Int) = ((A + C : Nat) : Int) := by
  obtain ⟨s, rfl⟩ := hP
  rw [bits_or_u64_nat A C h1 h2]
  congr 1
  rw [hA, Nat.mul_comm]
  exact (Nat.two_pow_add_eq_or_of_lt hC a).symm
theorem bl_bounds (y : Nat) (h0 : 0 < y) (hy : y < 18446744073709551616) : ∃ s, s + bitLen y = 64 ∧ 9223372036854775808 ≤ y * 2 ^ s ∧ y * 2 ^ s < 18446744073709551616 := by
  have hb : bitLen y ≤ 64 := bitLen_le y 64 (by simpa using hy)
  have h3 := (bitLen_spec y).1
  have h2 := (bitLen_spec y).2 (by omega)
  have h1 : 1 ≤ bitLen y := by
    rcases Nat.eq_zero_or_pos (bitLen y) with h | h
    · rw [h] at h3
      simp at h3
      omega
    · exact h
  refine ⟨64 - bitLen y, by omega, ?_, ?_⟩
  · have := Nat.mul_le_mul_right (2 ^ (64 - bitLen y)) h2
    rw [← Nat.pow_add, show bitLen y - 1 + (64 - bitLen y) = 63 by omega] at this
    simpa using this
  · have := Nat.mul_lt_mul_of_pos_right h3 (Nat.two_pow_pos (64 - bitLen y))
    rw [← Nat.pow_add, show bitLen y + (64 - bitLen y) = 64 by omega] at this
    simpa using this
/-- The numbers of the division, shifted. -/
theorem div_numbers (hi lo y s k : Nat) (hlt : hi < y) (hl : lo < 18446744073709551616) (hk : s + k = 64) :
    lo / 2 ^ k < 2 ^ s ∧ hi * 2 ^ s + lo / 2 ^ k < y * 2 ^ s ∧ (hi * 2 ^ s + lo / 2 ^ k) * 18446744073709551616 + lo * 2 ^ s % 18446744073709551616 = (hi * 18446744073709551616 + lo) * 2 ^ s := by
  have hp : (18446744073709551616 : Nat) = 2 ^ s * 2 ^ k := by rw [← Nat.pow_add, hk]
  have hps := Nat.two_pow_pos s
  have hpk := Nat.two_pow_pos k
  generalize 2 ^ s = P at *
  generalize 2 ^ k = K at *
  have hC : lo / K < P := by
    rw [Nat.div_lt_iff_lt_mul hpk, ← hp]
    exact hl
  have hlow : lo * P % 18446744073709551616 = (lo % K) * P := by
    rw [hp, Nat.mul_comm P K, Nat.mul_mod_mul_right]
  have hd := Nat.div_add_mod lo K
  refine ⟨hC, ?_, ?_⟩
  · have : (hi + 1) * P ≤ y * P := Nat.mul_le_mul_right P hlt
    rw [Nat.add_mul, Nat.one_mul] at this
    omega
  · rw [hlow]
    generalize lo % K = r at *
    generalize lo / K = C at *
    rw [← hd, Nat.add_mul, Nat.add_mul, Nat.add_mul, Nat.mul_right_comm hi P, hp, Nat.mul_comm K C, Nat.mul_assoc C K P, Nat.mul_comm K P]
    omega
theorem Div64_any (hi lo y : Nat) (w : World) (hlt : hi < y) (hl : lo < 18446744073709551616) (hy : y < 18446744073709551616) :
    Calls Try.prog 27 #[.int .u64 hi, .int .u64 lo, .int .u64 y] w fun r w' => r = .returned (.tuple #[.int .u64 (((hi * 18446744073709551616 + lo) / y : Nat) : Int), .int .u64 (((hi * 18446744073709551616 + lo) % y : Nat) : Int)]) ∧ ∃ m, w' = w.drewN m := by
  rcases Nat.eq_zero_or_pos hi with h0 | h0
  · subst h0
    have := Div64_low lo y w hl hy hlt
    rw [show 0 * 18446744073709551616 + lo = lo by omega]
    exact this
  · obtain ⟨s, hs, b1, b2⟩ := bl_bounds y (by omega) hy
    obtain ⟨n1, n2, n3⟩ := div_numbers hi lo y s (bitLen y) hlt hl hs
    have hps := Nat.two_pow_pos s
    have hA : hi * 2 ^ s < 18446744073709551616 := Nat.lt_of_le_of_lt (Nat.le_add_right _ _) (Nat.lt_trans n2 b2)
    obtain ⟨q1, q2⟩ := div_shift (hi * 18446744073709551616 + lo) y (2 ^ s) hps
    have hQ : (hi * 18446744073709551616 + lo) / y < 18446744073709551616 := by
      rw [Nat.div_lt_iff_lt_mul (by omega)]
      omega
    have hC2 : lo / 2 ^ bitLen y < 18446744073709551616 := Nat.lt_of_le_of_lt (Nat.div_le_self _ _) hl
    refine (Div64_high hi lo y s (y * 2 ^ s) (hi * 2 ^ s) (lo / 2 ^ bitLen y) (bitLen y) (hi * 2 ^ s + lo / 2 ^ bitLen y) (lo * 2 ^ s % 18446744073709551616) _ _ _ _ ((hi * 18446744073709551616 + lo) / y) ((hi * 18446744073709551616 + lo) % y) w h0 hlt hy hs rfl b1 b2 rfl hA rfl hs (ck_or _ _ (2 ^ s) hi rfl ⟨s, rfl⟩ n1 hA hC2) n2 rfl (Nat.mod_lt _ (by decide)) rfl rfl rfl rfl (by rw [n3]; exact q1) (by rw [n3]; exact q2) hQ).mono ?_
    rintro r w' ⟨h1, h2⟩
    exact ⟨h1, 0, h2⟩
end Go.Proofs.Ytfdphegiafccpab
