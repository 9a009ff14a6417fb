
/- Half of a number, by the machine. No program is spoken of. -/
import Derived.Test.YtglgjkhfoajflaaP13
namespace Go.Proofs.Ytglgjkhfoajflaa
open Go Go.RowKit Go.IntWalk

theorem read_fin2 (x : Nat) (hx : x < 18446744073709551616) (h : x % 9223372036854775808 < 9218868437227405312) :
    ∃ m : Nat, ∃ p : Nat, FloatKind.f64.format.read x = .number (decide (9223372036854775808 ≤ x)) m ((p : Int) - 1074) ∧ m < 9007199254740992 ∧ (p = 0 ∧ m = x % 9223372036854775808 ∨ 1 ≤ p ∧ 4503599627370496 ≤ m ∧ x % 9223372036854775808 = p * 4503599627370496 + m) := by
  unfold Ieee.Format.read
  rw [fmt_sw, fmt_bin, fmt_inf, fmt_lp, sign_read x hx]
  by_cases h1 : x % 9223372036854775808 < 4503599627370496
  · exact ⟨x % 9223372036854775808, 0, by simp only [if_pos h1]; rfl, by omega, Or.inl ⟨rfl, rfl⟩⟩
  · refine ⟨4503599627370496 + x % 9223372036854775808 % 4503599627370496, x % 9223372036854775808 / 4503599627370496 - 1, ?_, by omega, ?_⟩
    · simp only [if_neg h1, if_pos h]
      congr 1
    · by_cases c : x % 9223372036854775808 / 4503599627370496 = 1
      · left; omega
      · right; omega
theorem nv_small (r : Nat) (h : r ≤ 9007199254740992) : nv r = r := by
  unfold nv
  split
  · rfl
  · by_cases c : r = 9007199254740992
    · rw [c]
    · have e1 : r / 4503599627370496 - 1 = 0 := by omega
      have e2 : r % 4503599627370496 = r - 4503599627370496 := by omega
      rw [e1, e2, Nat.pow_zero, Nat.mul_one]
      omega
theorem rnd_odd (m : Nat) (h0 : m ≠ 0) (hm : m < 9007199254740992) : rndM m (-1075) = stepN m 1 0 false := by
  have hr : rndM m (-1075) = FloatKind.f64.format.nearest false m (-1075) := (near_rnd false m (-1075)).1.symm
  rw [hr]
  have hl : m.log2 ≤ 52 := by
    have := (Nat.log2_lt h0).2 (show m < 2 ^ 53 by omega)
    omega
  unfold Ieee.Format.nearest
  rw [if_neg h0, fmt_fb, fmt_lp, fmt_bin, fmt_inf]
  have l2 : max ((-1075 : Int) + (m.log2 : Int) - ((52 : Nat) : Int)) (-1074) = -1074 := by omega
  simp only [l2]
  have t3 : ((-1075 : Int) - -1074).toNat = 0 := by omega
  have t4 : ((-1074 : Int) - -1075).toNat = 1 := by omega
  rw [t3, t4, Nat.shiftLeft_zero, cut_near, word_false]
  have e1 : stepQ m ((1 : Nat) : Int) 0 false = stepN m 1 0 false := stepQ_nat m 1
  rw [e1]
  obtain ⟨_, _, _, h4⟩ := step_near m 1
  have hs : stepN m 1 0 false ≤ 4503599627370496 := by
    rcases h4 with h4 | ⟨h4, _⟩ <;> omega
  have e2 : ((-1074 : Int) - -1074).toNat = 0 := by omega
  simp only [e2]
  omega
/-- A number divided by 2. -/
theorem div_two (x : Nat) (hx : x < 18446744073709551616) (fx : x % 9223372036854775808 < 9218868437227405312) :
    ∃ q, FloatKind.f64.format.div x 4611686018427387904 = some q ∧ q < 18446744073709551616 ∧ q % 9223372036854775808 < 9218868437227405312 ∧ (2 * sv q = sv x ∨ 2 * sv q = sv x + 1 ∨ 2 * sv q = sv x - 1) := by
  obtain ⟨m, p, ex, hm, hp⟩ := read_fin2 x hx fx
  have e2 : FloatKind.f64.format.read 4611686018427387904 = .number false 4503599627370496 (-51) := by decide +kernel
  have key : FloatKind.f64.format.div x 4611686018427387904 = some (signN (decide (9223372036854775808 ≤ x)) (rndM m ((p : Int) - 1075))) := by
    unfold Ieee.Format.div
    rw [ex, e2]
    simp only [Ieee.Datum.quotient]
    rw [if_neg (by decide : ¬ (4503599627370496 : Nat) = 0)]
    have hl2 : Nat.log2 4503599627370496 = 52 := by decide +kernel
    have hlm : m.log2 ≤ 52 := by
      by_cases c : m = 0
      · rw [c]; decide
      · have := (Nat.log2_lt c).2 (show m < 2 ^ 53 by omega)
        omega
    rw [fmt_fb, hl2]
    obtain ⟨k, hk⟩ : ∃ k, 52 + 2 + 52 - m.log2 = k + 52 := ⟨54 - m.log2, by omega⟩
    simp only [hk]
    have d1 : m <<< (k + 52) = m * 2 ^ k * 4503599627370496 := by
      rw [Nat.shiftLeft_eq, Nat.pow_add, ← Nat.mul_assoc]
    rw [d1, Nat.mul_div_cancel _ (by decide), Nat.mul_mod_left]
    show some (FloatKind.f64.format.nearest _ (2 * (m * 2 ^ k) + 0) _) = _
    rw [(near_rnd _ _ _).1]
    have e3 : 2 * (m * 2 ^ k) + 0 = m * 2 ^ (k + 1) := by rw [Nat.pow_succ, Nat.add_zero, ← Nat.mul_assoc m, Nat.mul_comm 2]
    have e4 : ((p : Int) - 1074 - -51 - ((k + 52 : Nat) : Int) - 1) = ((p : Int) - 1075) - ((k + 1 : Nat) : Int) := by omega
    rw [e3, e4, rndM_sc]
    congr 2
    cases decide (9223372036854775808 ≤ x) <;> rfl
  have fin : ∀ r, r < 9218868437227405312 → (2 * nv r = nv (x % 9223372036854775808) ∨ 2 * nv r = nv (x % 9223372036854775808) + 1 ∨ 2 * nv r + 1 = nv (x % 9223372036854775808)) → ∀ q, q = signN (decide (9223372036854775808 ≤ x)) r → q < 18446744073709551616 ∧ q % 9223372036854775808 < 9218868437227405312 ∧ (2 * sv q = sv x ∨ 2 * sv q = sv x + 1 ∨ 2 * sv q = sv x - 1) := by
    intro r hr hv q hq
    obtain ⟨a1, a2, a3⟩ := signN_mod (decide (9223372036854775808 ≤ x)) r (by omega)
    rw [← hq] at a1 a2 a3
    refine ⟨a3, by rw [a1]; exact hr, ?_⟩
    have hsg : 9223372036854775808 ≤ q ↔ 9223372036854775808 ≤ x := by
      rw [decide_eq_decide] at a2; exact a2
    unfold sv
    rw [a1]
    by_cases c : 9223372036854775808 ≤ x
    · rw [if_pos (hsg.2 c), if_pos c]; omega
    · rw [if_neg (fun h => c (hsg.1 h)), if_neg c]; omega
  refine ⟨_, key, ?_⟩
  rcases hp with ⟨rfl, hm2⟩ | ⟨hp1, hm1, hxm⟩
  · have hnx : nv (x % 9223372036854775808) = m := by rw [← hm2, nv_small m (by omega)]
    by_cases h0 : m = 0
    · refine fin 0 (by decide) (Or.inl ?_) _ (by rw [h0]; unfold rndM; rw [if_pos rfl])
      rw [hnx, h0, nv_zero]
    · obtain ⟨_, _, _, h4⟩ := step_near m 1
      rw [Nat.pow_one] at h4
      have hs : stepN m 1 0 false ≤ 4503599627370496 := by
        rcases h4 with h4 | ⟨h4, _⟩ <;> omega
      refine fin (stepN m 1 0 false) (by omega) ?_ _ (by rw [← rnd_odd m h0 hm]; rfl)
      rw [hnx, nv_small _ (by omega)]
      rcases h4 with h4 | ⟨h4, h5⟩ <;> omega
  · obtain ⟨P, rfl⟩ : ∃ P, p = P + 1 := ⟨p - 1, by omega⟩
    have hr1 : P * 4503599627370496 + m < 9218868437227405312 := by omega
    have hw := nv_word P m (by omega) (fun _ => hm1)
    have hwx := nv_word (P + 1) m (by omega) (fun _ => hm1)
    have hn := nearest_nv false m P (P * 4503599627370496 + m) (by omega) hr1 (by rw [hw])
    have hr : rndM m (((P + 1 : Nat) : Int) - 1075) = P * 4503599627370496 + m := by
      have := (near_rnd false m ((P : Int) - 1074)).1
      rw [hn, word_false] at this
      have e : ((P + 1 : Nat) : Int) - 1075 = (P : Int) - 1074 := by omega
      rw [e, this]
      rfl
    refine fin (P * 4503599627370496 + m) hr1 (Or.inl ?_) _ (by rw [hr])
    rw [hw, hxm, hwx, Nat.pow_succ, ← Nat.mul_assoc m, Nat.mul_comm 2]
end Go.Proofs.Ytglgjkhfoajflaa
