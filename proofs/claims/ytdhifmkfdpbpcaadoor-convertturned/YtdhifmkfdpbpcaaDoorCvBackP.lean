
/- There and back through singles and whole numbers, in plain arithmetic. -/
import Derived.Test.YtdhifmkfdpbpcaaDoorCvAwake
namespace Go.Proofs.YtdhifmkfdpbpcaaDoor
open Go Go.RowKit Go.IntWalk

/-- An odd number's power of two is the greatest one. -/
theorem odd_pow_le (q a b K : Nat) (h : (2 * q + 1) * 2 ^ a = K * 2 ^ b) : b ≤ a := by
  apply Classical.byContradiction
  intro hc
  obtain ⟨d, hd⟩ : ∃ d, b = a + (d + 1) := ⟨b - a - 1, by omega⟩
  rw [hd, Nat.pow_add, Nat.mul_comm (2 ^ a), ← Nat.mul_assoc] at h
  have h2 := Nat.eq_of_mul_eq_mul_right (Nat.two_pow_pos a) h
  rw [Nat.pow_succ, ← Nat.mul_assoc] at h2
  omega
theorem pmant_odd (x : Nat) (h1 : expOf x ≠ 2047) (h2 : mantOf x ≠ 0) : ∃ q, pMant x = 2 * q + 1 := by
  have hml := mant_lt x
  obtain ⟨q, hq, _⟩ := odd_spec (mantOf x) h2 (by omega)
  exact ⟨q, by unfold pMant; rw [if_neg h1, hq]⟩
theorem bitLen_lt_of (m a b : Nat) (h0 : m ≠ 0) (h : m * 2 ^ a < 2 ^ b) : bitLen m + a ≤ b := by
  have h1 := bitLen_lo h0
  have hp := bitLen_pos h0
  have e : 2 ^ (bitLen m - 1 + a) ≤ m * 2 ^ a := by rw [Nat.pow_add]; exact Nat.mul_le_mul_right _ h1
  have := (Nat.pow_lt_pow_iff_right (by decide : 1 < 2)).1 (Nat.lt_of_le_of_lt e h)
  omega
theorem bitLen_lt_of2 (m a b c : Nat) (h0 : m ≠ 0) (h : m * 2 ^ a < 2 ^ b * 2 ^ c) : bitLen m + a ≤ b + c := by
  rw [← Nat.pow_add] at h
  exact bitLen_lt_of m a (b + c) h0 h
theorem nv32_top (r : Nat) (h : r < 2139095040) : nv32 r < 2 ^ 23 * 2 ^ 254 := by
  have := nv_lt32 h
  have e : nv32 2139095040 = 2 ^ 23 * 2 ^ 254 := by decide +kernel
  rw [e] at this
  exact this
theorem rungK (r e K : Nat) (h0 : nv32 r ≠ 0) (he : e = (nv32 r).log2 - 23) (hK : nv32 r = K * 2 ^ e) : K < 2 ^ 24 := by
  have h1 := Nat.lt_log2_self (n := nv32 r)
  have hK0 : K ≠ 0 := by intro h; rw [h, Nat.zero_mul] at hK; exact h0 hK
  have h2 : K * 2 ^ e < 2 ^ (e + 24) := by
    rw [← hK]
    exact Nat.lt_of_lt_of_le h1 (Nat.pow_le_pow_right (by decide) (by omega))
  have h3 := bitLen_lt_of K e (e + 24) hK0 h2
  exact Nat.lt_of_lt_of_le (bitLen_hi K) (Nat.pow_le_pow_right (by decide) (by omega))
theorem pow_cancel (a b s m : Nat) (u e : Int) (hu : -1074 ≤ u) (he : -1074 ≤ e) (ha : a = (u - e).toNat) (hb : b = (-(u - e)).toNat) : s * 2 ^ (u + 1074).toNat = m * 2 ^ (e + 1074).toNat ↔ s * 2 ^ a = m * 2 ^ b := by
  obtain ⟨c, hc⟩ : ∃ c, (min u e + 1074).toNat = c := ⟨_, rfl⟩
  have e1 : (u + 1074).toNat = a + c := by omega
  have e2 : (e + 1074).toNat = b + c := by omega
  rw [e1, e2, Nat.pow_add, Nat.pow_add, ← Nat.mul_assoc, ← Nat.mul_assoc]
  exact ⟨fun h => Nat.eq_of_mul_eq_mul_right (Nat.two_pow_pos c) h, fun h => by rw [h]⟩
theorem mag64_zero : mag64 0 = 0 := by decide +kernel

theorem back_a (y : Nat) (mode : Int) (hy : y < 4294967296) : narrowFl (widenOf y) mode = 0 ∧ narrowOf (widenOf y) mode = canonOf32 y ∧ widenOf y < 18446744073709551616 := by
  have hy2 := sign_of32 y hy
  obtain ⟨s, hs⟩ : ∃ s, decide (2147483648 ≤ y) = s := ⟨_, rfl⟩
  unfold widenOf
  by_cases hn : 2139095040 < y % 2147483648
  · rw [if_pos hn]
    have hc : canonOf32 y = 2143289344 := by unfold canonOf32; rw [if_pos hn]
    unfold narrowFl narrowOf
    rw [if_pos (Or.inl (by decide)), if_pos (by decide), hc]
    exact ⟨rfl, rfl, by decide⟩
  · rw [if_neg hn]
    have hc : canonOf32 y = y := by unfold canonOf32; rw [if_neg hn]
    rw [hc]
    by_cases hi : y % 2147483648 = 2139095040
    · rw [if_pos hi, hs]
      obtain ⟨a1, a2, a3⟩ := signN_mod s 9218868437227405312 (by decide)
      unfold narrowFl narrowOf
      rw [a1, a2, if_pos (Or.inl (Nat.le_refl _)), if_neg (by decide), if_pos rfl]
      rw [hi, hs] at hy2
      exact ⟨rfl, hy2.symm, a3⟩
    · rw [if_neg hi, hs]
      rw [hs] at hy2
      obtain ⟨r, hr⟩ : ∃ r, y % 2147483648 = r := ⟨_, rfl⟩
      rw [hr] at hn hi hy2 ⊢
      have hrl : r < 2139095040 := by omega
      obtain ⟨v1, v2⟩ := mag64_val r hrl
      obtain ⟨a1, a2, a3⟩ := signN_mod s (mag64 r) (by omega)
      refine and_assoc.1 ⟨?_, a3⟩
      unfold narrowFl narrowOf
      rw [a1, a2]
      by_cases h0 : r = 0
      · rw [h0, mag64_zero, if_pos (Or.inr rfl), if_neg (by decide), if_neg (by decide), if_pos rfl]
        rw [h0] at hy2
        exact ⟨rfl, hy2.symm⟩
      · have hvp := nv_lt32 (r := 0) (s := r) (by omega)
        have hR0 : mag64 r ≠ 0 := by
          intro hz
          rw [hz, nv_zero] at v2
          have := Nat.mul_pos (show 0 < nv32 r by omega) scl_pos
          omega
        rw [if_neg (by omega), if_neg (by omega), if_neg (by omega), if_neg hR0]
        obtain ⟨x, hx⟩ : ∃ x, signN s (mag64 r) = x := ⟨_, rfl⟩
        rw [hx] at a1 a2 a3 ⊢
        obtain ⟨w1, w2, w3, w4, w5⟩ := parts_val x (by rw [a1]; exact v1)
        have hm0 : mantOf x ≠ 0 := fun c => hR0 (by rw [← a1]; exact w4.1 c)
        obtain ⟨p1, p2, p3, p4, p5, p6⟩ := w5 hm0
        obtain ⟨q, hq⟩ := pmant_odd x w1 hm0
        rw [a1, v2] at p3
        obtain ⟨e, K, hee, hK, _⟩ := rung32 r (by omega)
        have hKl := rungK r e K (by omega) hee hK
        clear hee
        have hk := kcl_is
        have hb1 : e + kcl ≤ (pExp x + 1074).toNat := by
          have hsc : scl = 2 ^ kcl := rfl
          apply odd_pow_le q _ _ K
          rw [← hq, ← p3, hK, hsc, Nat.mul_assoc, ← Nat.pow_add]
        have hlo : -149 ≤ pExp x := by omega
        have he149 : (pExp x + 1074).toNat = (pExp x + 149).toNat + kcl := by omega
        have hval : nv32 r = pMant x * 2 ^ (pExp x + 149).toNat := by
          rw [he149, scl_pow, ← Nat.mul_assoc] at p3
          exact Nat.eq_of_mul_eq_mul_right scl_pos p3
        clear p3
        have ex1 : (pExp x + 149).toNat - e + e = (pExp x + 149).toNat := by omega
        have hm24 : pMant x < 2 ^ 24 := by
          have e1 : pMant x * 2 ^ ((pExp x + 149).toNat - e) = K := by
            apply Nat.eq_of_mul_eq_mul_right (Nat.two_pow_pos e)
            rw [← hK, hval, Nat.mul_assoc, ← Nat.pow_add, ex1]
          have e2 : pMant x * 1 ≤ pMant x * 2 ^ ((pExp x + 149).toNat - e) := Nat.mul_le_mul_left _ (Nat.two_pow_pos _)
          omega
        have hbl := bitLen_le _ 24 hm24
        have htop : bitLen (pMant x) + (pExp x + 149).toNat ≤ 23 + 254 := bitLen_lt_of2 _ _ _ _ p1 (by rw [← hval]; exact nv32_top r hrl)
        obtain ⟨f1, f2, f3, f4⟩ := fits_exact 24 (-126) 127 (pMant x) (pExp x) mode s p1 (by omega) (by omega) (by omega)
        refine ⟨f1, ?_⟩
        unfold nMag
        rw [if_neg f2, hy2]
        congr 1
        obtain ⟨g1, g2, g3⟩ := steps32 (pMant x) (pExp x) mode s f2
        have hs0 : rSteps 24 (-126) (pMant x) (pExp x) mode s ≠ 0 := by
          rw [f4]; exact Nat.mul_ne_zero p1 (Nat.pos_iff_ne_zero.1 (Nat.two_pow_pos _))
        obtain ⟨_, g5⟩ := mag32_val _ _ hs0 g1 g2 g3
        apply nv_inj32
        have ex2 : (pExp x - rUnit 24 (-126) (pMant x) (pExp x)).toNat + (rUnit 24 (-126) (pMant x) (pExp x) + 149).toNat = (pExp x + 149).toNat := by clear hval g5 f4 hK; omega
        rw [g5, hval, f4, Nat.mul_assoc, ← Nat.pow_add, ex2]

theorem back_b (x : Nat) (hx : x < 18446744073709551616) (hn : x % 9223372036854775808 ≤ 9218868437227405312) : (narrowFl x 0 = 0 ↔ widenOf (narrowOf x 0) = x) ∧ narrowOf x 0 < 4294967296 := by
  have hx2 := sign_of x hx
  obtain ⟨s, hs⟩ : ∃ s, decide (9223372036854775808 ≤ x) = s := ⟨_, rfl⟩
  rw [hs] at hx2
  unfold narrowFl narrowOf
  rw [if_neg (show ¬ 9218868437227405312 < x % 9223372036854775808 by omega), hs]
  have wid : ∀ q : Nat, q ≤ 2139095040 → widenOf (signN32 s q) = if q = 2139095040 then signN s 9218868437227405312 else signN s (mag64 q) := by
    intro q hq
    obtain ⟨b1, b2, _⟩ := signN_mod32 s q (by omega)
    unfold widenOf
    rw [b1, b2, if_neg (by omega)]
  by_cases hi : x % 9223372036854775808 = 9218868437227405312
  · rw [if_pos (Or.inl (by omega)), if_pos hi, wid _ (Nat.le_refl _), if_pos rfl]
    rw [hi] at hx2
    exact ⟨⟨fun _ => hx2.symm, fun _ => rfl⟩, (signN_mod32 s _ (by decide)).2.2⟩
  · rw [if_neg hi]
    by_cases h0 : x % 9223372036854775808 = 0
    · rw [if_pos (Or.inr h0), if_pos h0, wid _ (by decide), if_neg (by decide), mag64_zero]
      rw [h0] at hx2
      exact ⟨⟨fun _ => hx2.symm, fun _ => rfl⟩, (signN_mod32 s _ (by decide)).2.2⟩
    · rw [if_neg (by omega), if_neg h0]
      obtain ⟨w1, w2, w3, w4, w5⟩ := parts_val x (by omega)
      have hm0 : mantOf x ≠ 0 := fun c => h0 (w4.1 c)
      obtain ⟨p1, p2, p3, p4, p5, p6⟩ := w5 hm0
      obtain ⟨_, q2⟩ := n_conv (pMant x) (pExp x) 0 s
      rw [wid _ q2]
      refine ⟨?_, (signN_mod32 s _ (by omega)).2.2⟩
      unfold nMag
      by_cases ho : rOver 24 (-126) 127 (pMant x) (pExp x) 0 s
      · have hg : growsOf 0 s true 3 = true := by unfold growsOf; rw [if_pos rfl]; rfl
        rw [if_pos ho, if_pos hg, if_pos rfl]
        have hf : rFlag 24 (-126) 127 (pMant x) (pExp x) 0 s = 5 := by unfold rFlag; rw [if_pos ho]
        rw [hf]
        refine ⟨fun c => by omega, fun c => ?_⟩
        have e1 := (signN_mod s 9218868437227405312 (by decide)).1
        rw [c] at e1
        omega
      · rw [if_neg ho]
        obtain ⟨g1, g2, g3⟩ := steps32 (pMant x) (pExp x) 0 s ho
        have hml := mag32_le _ _ g1 g2 g3
        rw [if_neg (by omega)]
        obtain ⟨v1, v2⟩ := mag64_val _ hml
        have hvs : nv32 (mag32 (rSteps 24 (-126) (pMant x) (pExp x) 0 s) (rUnit 24 (-126) (pMant x) (pExp x))) = rSteps 24 (-126) (pMant x) (pExp x) 0 s * 2 ^ (rUnit 24 (-126) (pMant x) (pExp x) + 149).toNat := by
          by_cases hz : rSteps 24 (-126) (pMant x) (pExp x) 0 s = 0
          · rw [hz, Nat.zero_mul]
            have : mag32 0 (rUnit 24 (-126) (pMant x) (pExp x)) = 0 := by unfold mag32; rw [if_pos rfl]
            rw [this, nv_zero32]
          · exact (mag32_val _ _ hz g1 g2 g3).2
        rw [hvs, Nat.mul_assoc, ← scl_pow] at v2
        have hk := kcl_is
        have e1 : (rUnit 24 (-126) (pMant x) (pExp x) + 149).toNat + kcl = (rUnit 24 (-126) (pMant x) (pExp x) + 1074).toNat := by omega
        rw [e1] at v2
        have hst := step_value (pMant x) (rUnit 24 (-126) (pMant x) (pExp x) - pExp x) 0 s
        have hpc := pow_cancel _ _ (rSteps 24 (-126) (pMant x) (pExp x) 0 s) (pMant x) (rUnit 24 (-126) (pMant x) (pExp x)) (pExp x) (by omega) p2 rfl rfl
        rw [flag_zero]
        constructor
        · rintro ⟨_, hc⟩
          have h1 := hpc.2 (hst.1 hc)
          rw [← v2, ← p3] at h1
          rw [nv_inj h1]
          exact hx2.symm
        · intro hc
          refine ⟨ho, hst.2 (hpc.1 ?_)⟩
          rw [← v2, ← p3]
          congr 1
          have e2 := (signN_mod s (mag64 (mag32 (rSteps 24 (-126) (pMant x) (pExp x) 0 s) (rUnit 24 (-126) (pMant x) (pExp x)))) (by omega)).1
          rw [hc] at e2
          exact e2.symm
end Go.Proofs.YtdhifmkfdpbpcaaDoor
