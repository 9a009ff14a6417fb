
/- Whole numbers that are numbers, in plain arithmetic. -/
import Derived.Test.YtpgcelbgmpfliaaGreatDoorV37
namespace Go.Proofs.YtpgcelbgmpfliaaGreatDoor
open Go Go.RowKit Go.IntWalk

/-- An odd number's power of two is the greatest one. -/
theorem odd_pow_le (q a b K : Nat) (h : (2 * q + 1) * 2 ^ a = K * 2 ^ b) : b ≤ a := by
  apply Classical.byContradiction
  intro hc
  obtain ⟨d, hd⟩ : ∃ d, b = a + (d + 1) := ⟨b - a - 1, by omega⟩
  rw [hd, Nat.pow_add, Nat.mul_comm (2 ^ a), ← Nat.mul_assoc] at h
  have h2 := Nat.eq_of_mul_eq_mul_right (Nat.two_pow_pos a) h
  rw [Nat.pow_succ, ← Nat.mul_assoc] at h2
  omega
theorem pmant_odd (x : Nat) (h1 : expOf x ≠ 2047) (h2 : mantOf x ≠ 0) : ∃ q, pMant x = 2 * q + 1 := by
  have hml := mant_lt x
  obtain ⟨q, hq, _⟩ := odd_spec (mantOf x) h2 (by omega)
  exact ⟨q, by unfold pMant; rw [if_neg h1, hq]⟩
theorem bitLen_lt_of (m a b : Nat) (h0 : m ≠ 0) (h : m * 2 ^ a < 2 ^ b) : bitLen m + a ≤ b := by
  have h1 := bitLen_lo h0
  have hp := bitLen_pos h0
  have e : 2 ^ (bitLen m - 1 + a) ≤ m * 2 ^ a := by rw [Nat.pow_add]; exact Nat.mul_le_mul_right _ h1
  have := (Nat.pow_lt_pow_iff_right (by decide : 1 < 2)).1 (Nat.lt_of_le_of_lt e h)
  omega
theorem bitLen_lt_of2 (m a b c : Nat) (h0 : m ≠ 0) (h : m * 2 ^ a < 2 ^ b * 2 ^ c) : bitLen m + a ≤ b + c := by
  rw [← Nat.pow_add] at h
  exact bitLen_lt_of m a (b + c) h0 h
theorem nv32_top (r : Nat) (h : r < 2139095040) : nv32 r < 2 ^ 23 * 2 ^ 254 := by
  have := nv_lt32 h
  have e : nv32 2139095040 = 2 ^ 23 * 2 ^ 254 := by decide +kernel
  rw [e] at this
  exact this
theorem rungK (r e K : Nat) (h0 : nv32 r ≠ 0) (he : e = (nv32 r).log2 - 23) (hK : nv32 r = K * 2 ^ e) : K < 2 ^ 24 := by
  have h1 := Nat.lt_log2_self (n := nv32 r)
  have hK0 : K ≠ 0 := by intro h; rw [h, Nat.zero_mul] at hK; exact h0 hK
  have h2 : K * 2 ^ e < 2 ^ (e + 24) := by
    rw [← hK]
    exact Nat.lt_of_lt_of_le h1 (Nat.pow_le_pow_right (by decide) (by omega))
  have h3 := bitLen_lt_of K e (e + 24) hK0 h2
  exact Nat.lt_of_lt_of_le (bitLen_hi K) (Nat.pow_le_pow_right (by decide) (by omega))
theorem pow_cancel (a b s m : Nat) (u e : Int) (hu : -1074 ≤ u) (he : -1074 ≤ e) (ha : a = (u - e).toNat) (hb : b = (-(u - e)).toNat) : s * 2 ^ (u + 1074).toNat = m * 2 ^ (e + 1074).toNat ↔ s * 2 ^ a = m * 2 ^ b := by
  obtain ⟨c, hc⟩ : ∃ c, (min u e + 1074).toNat = c := ⟨_, rfl⟩
  have e1 : (u + 1074).toNat = a + c := by omega
  have e2 : (e + 1074).toNat = b + c := by omega
  rw [e1, e2, Nat.pow_add, Nat.pow_add, ← Nat.mul_assoc, ← Nat.mul_assoc]
  exact ⟨fun h => Nat.eq_of_mul_eq_mul_right (Nat.two_pow_pos c) h, fun h => by rw [h]⟩
theorem mag64_zero : mag64 0 = 0 := by decide +kernel

theorem back_a (y : Nat) (mode : Int) (hy : y < 4294967296) : narrowFl (widenOf y) mode = 0 ∧ narrowOf (widenOf y) mode = canonOf32 y ∧ widenOf y < 18446744073709551616 := by
  have hy2 := sign_of32 y hy
  obtain ⟨s, hs⟩ : ∃ s, decide (2147483648 ≤ y) = s := ⟨_, rfl⟩
  unfold widenOf
  by_cases hn : 2139095040 < y % 2147483648
  · rw [if_pos hn]
    have hc : canonOf32 y = 2143289344 := by unfold canonOf32; rw [if_pos hn]
    unfold narrowFl narrowOf
    rw [if_pos (Or.inl (by decide)), if_pos (by decide), hc]
    exact ⟨rfl, rfl, by decide⟩
  · rw [if_neg hn]
    have hc : canonOf32 y = y := by unfold canonOf32; rw [if_neg hn]
    rw [hc]
    by_cases hi : y % 2147483648 = 2139095040
    · rw [if_pos hi, hs]
      obtain ⟨a1, a2, a3⟩ := signN_mod s 9218868437227405312 (by decide)
      unfold narrowFl narrowOf
      rw [a1, a2, if_pos (Or.inl (Nat.le_refl _)), if_neg (by decide), if_pos rfl]
      rw [hi, hs] at hy2
      exact ⟨rfl, hy2.symm, a3⟩
    · rw [if_neg hi, hs]
      rw [hs] at hy2
      obtain ⟨r, hr⟩ : ∃ r, y % 2147483648 = r := ⟨_, rfl⟩
      rw [hr] at hn hi hy2 ⊢
      have hrl : r < 2139095040 := by omega
      obtain ⟨v1, v2⟩ := mag64_val r hrl
      obtain ⟨a1, a2, a3⟩ := signN_mod s (mag64 r) (by omega)
      refine and_assoc.1 ⟨?_, a3⟩
      unfold narrowFl narrowOf
      rw [a1, a2]
      by_cases h0 : r = 0
      · rw [h0, mag64_zero, if_pos (Or.inr rfl), if_neg (by decide), if_neg (by decide), if_pos rfl]
        rw [h0] at hy2
        exact ⟨rfl, hy2.symm⟩
      · have hvp := nv_lt32 (r := 0) (s := r) (by omega)
        have hR0 : mag64 r ≠ 0 := by
          intro hz
          rw [hz, nv_zero] at v2
          have := Nat.mul_pos (show 0 < nv32 r by omega) scl_pos
          omega
        rw [if_neg (by omega), if_neg (by omega), if_neg (by omega), if_neg hR0]
        obtain ⟨x, hx⟩ : ∃ x, signN s (mag64 r) = x := ⟨_, rfl⟩
        rw [hx] at a1 a2 a3 ⊢
        obtain ⟨w1, w2, w3, w4, w5⟩ := parts_val x (by rw [a1]; exact v1)
        have hm0 : mantOf x ≠ 0 := fun c => hR0 (by rw [← a1]; exact w4.1 c)
        obtain ⟨p1, p2, p3, p4, p5, p6⟩ := w5 hm0
        obtain ⟨q, hq⟩ := pmant_odd x w1 hm0
        rw [a1, v2] at p3
        obtain ⟨e, K, hee, hK, _⟩ := rung32 r (by omega)
        have hKl := rungK r e K (by omega) hee hK
        clear hee
        have hk := kcl_is
        have hb1 : e + kcl ≤ (pExp x + 1074).toNat := by
          have hsc : scl = 2 ^ kcl := rfl
          apply odd_pow_le q _ _ K
          rw [← hq, ← p3, hK, hsc, Nat.mul_assoc, ← Nat.pow_add]
        have hlo : -149 ≤ pExp x := by omega
        have he149 : (pExp x + 1074).toNat = (pExp x + 149).toNat + kcl := by omega
        have hval : nv32 r = pMant x * 2 ^ (pExp x + 149).toNat := by
          rw [he149, scl_pow, ← Nat.mul_assoc] at p3
          exact Nat.eq_of_mul_eq_mul_right scl_pos p3
        clear p3
        have ex1 : (pExp x + 149).toNat - e + e = (pExp x + 149).toNat := by omega
        have hm24 : pMant x < 2 ^ 24 := by
          have e1 : pMant x * 2 ^ ((pExp x + 149).toNat - e) = K := by
            apply Nat.eq_of_mul_eq_mul_right (Nat.two_pow_pos e)
            rw [← hK, hval, Nat.mul_assoc, ← Nat.pow_add, ex1]
          have e2 : pMant x * 1 ≤ pMant x * 2 ^ ((pExp x + 149).toNat - e) := Nat.mul_le_mul_left _ (Nat.two_pow_pos _)
          omega
        have hbl := bitLen_le _ 24 hm24
        have htop : bitLen (pMant x) + (pExp x + 149).toNat ≤ 23 + 254 := bitLen_lt_of2 _ _ _ _ p1 (by rw [← hval]; exact nv32_top r hrl)
        obtain ⟨f1, f2, f3, f4⟩ := fits_exact 24 (-126) 127 (pMant x) (pExp x) mode s p1 (by omega) (by omega) (by omega)
        refine ⟨f1, ?_⟩
        unfold nMag
        rw [if_neg f2, hy2]
        congr 1
        obtain ⟨g1, g2, g3⟩ := steps32 (pMant x) (pExp x) mode s f2
        have hs0 : rSteps 24 (-126) (pMant x) (pExp x) mode s ≠ 0 := by
          rw [f4]; exact Nat.mul_ne_zero p1 (Nat.pos_iff_ne_zero.1 (Nat.two_pow_pos _))
        obtain ⟨_, g5⟩ := mag32_val _ _ hs0 g1 g2 g3
        apply nv_inj32
        have ex2 : (pExp x - rUnit 24 (-126) (pMant x) (pExp x)).toNat + (rUnit 24 (-126) (pMant x) (pExp x) + 149).toNat = (pExp x + 149).toNat := by clear hval g5 f4 hK; omega
        rw [g5, hval, f4, Nat.mul_assoc, ← Nat.pow_add, ex2]

theorem back_b (x : Nat) (hx : x < 18446744073709551616) (hn : x % 9223372036854775808 ≤ 9218868437227405312) : (narrowFl x 0 = 0 ↔ widenOf (narrowOf x 0) = x) ∧ narrowOf x 0 < 4294967296 := by
  have hx2 := sign_of x hx
  obtain ⟨s, hs⟩ : ∃ s, decide (9223372036854775808 ≤ x) = s := ⟨_, rfl⟩
  rw [hs] at hx2
  unfold narrowFl narrowOf
  rw [if_neg (show ¬ 9218868437227405312 < x % 9223372036854775808 by omega), hs]
  have wid : ∀ q : Nat, q ≤ 2139095040 → widenOf (signN32 s q) = if q = 2139095040 then signN s 9218868437227405312 else signN s (mag64 q) := by
    intro q hq
    obtain ⟨b1, b2, _⟩ := signN_mod32 s q (by omega)
    unfold widenOf
    rw [b1, b2, if_neg (by omega)]
  by_cases hi : x % 9223372036854775808 = 9218868437227405312
  · rw [if_pos (Or.inl (by omega)), if_pos hi, wid _ (Nat.le_refl _), if_pos rfl]
    rw [hi] at hx2
    exact ⟨⟨fun _ => hx2.symm, fun _ => rfl⟩, (signN_mod32 s _ (by decide)).2.2⟩
  · rw [if_neg hi]
    by_cases h0 : x % 9223372036854775808 = 0
    · rw [if_pos (Or.inr h0), if_pos h0, wid _ (by decide), if_neg (by decide), mag64_zero]
      rw [h0] at hx2
      exact ⟨⟨fun _ => hx2.symm, fun _ => rfl⟩, (signN_mod32 s _ (by decide)).2.2⟩
    · rw [if_neg (by omega), if_neg h0]
      obtain ⟨w1, w2, w3, w4, w5⟩ := parts_val x (by omega)
      have hm0 : mantOf x ≠ 0 := fun c => h0 (w4.1 c)
      obtain ⟨p1, p2, p3, p4, p5, p6⟩ := w5 hm0
      obtain ⟨_, q2⟩ := n_conv (pMant x) (pExp x) 0 s
      rw [wid _ q2]
      refine ⟨?_, (signN_mod32 s _ (by omega)).2.2⟩
      unfold nMag
      by_cases ho : rOver 24 (-126) 127 (pMant x) (pExp x) 0 s
      · have hg : growsOf 0 s true 3 = true := by unfold growsOf; rw [if_pos rfl]; rfl
        rw [if_pos ho, if_pos hg, if_pos rfl]
        have hf : rFlag 24 (-126) 127 (pMant x) (pExp x) 0 s = 5 := by unfold rFlag; rw [if_pos ho]
        rw [hf]
        refine ⟨fun c => by omega, fun c => ?_⟩
        have e1 := (signN_mod s 9218868437227405312 (by decide)).1
        rw [c] at e1
        omega
      · rw [if_neg ho]
        obtain ⟨g1, g2, g3⟩ := steps32 (pMant x) (pExp x) 0 s ho
        have hml := mag32_le _ _ g1 g2 g3
        rw [if_neg (by omega)]
        obtain ⟨v1, v2⟩ := mag64_val _ hml
        have hvs : nv32 (mag32 (rSteps 24 (-126) (pMant x) (pExp x) 0 s) (rUnit 24 (-126) (pMant x) (pExp x))) = rSteps 24 (-126) (pMant x) (pExp x) 0 s * 2 ^ (rUnit 24 (-126) (pMant x) (pExp x) + 149).toNat := by
          by_cases hz : rSteps 24 (-126) (pMant x) (pExp x) 0 s = 0
          · rw [hz, Nat.zero_mul]
            have : mag32 0 (rUnit 24 (-126) (pMant x) (pExp x)) = 0 := by unfold mag32; rw [if_pos rfl]
            rw [this, nv_zero32]
          · exact (mag32_val _ _ hz g1 g2 g3).2
        rw [hvs, Nat.mul_assoc, ← scl_pow] at v2
        have hk := kcl_is
        have e1 : (rUnit 24 (-126) (pMant x) (pExp x) + 149).toNat + kcl = (rUnit 24 (-126) (pMant x) (pExp x) + 1074).toNat := by omega
        rw [e1] at v2
        have hst := step_value (pMant x) (rUnit 24 (-126) (pMant x) (pExp x) - pExp x) 0 s
        have hpc := pow_cancel _ _ (rSteps 24 (-126) (pMant x) (pExp x) 0 s) (pMant x) (rUnit 24 (-126) (pMant x) (pExp x)) (pExp x) (by omega) p2 rfl rfl
        rw [flag_zero]
        constructor
        · rintro ⟨_, hc⟩
          have h1 := hpc.2 (hst.1 hc)
          rw [← v2, ← p3] at h1
          rw [nv_inj h1]
          exact hx2.symm
        · intro hc
          refine ⟨ho, hst.2 (hpc.1 ?_)⟩
          rw [← v2, ← p3]
          congr 1
          have e2 := (signN_mod s (mag64 (mag32 (rSteps 24 (-126) (pMant x) (pExp x) 0 s) (rUnit 24 (-126) (pMant x) (pExp x)))) (by omega)).1
          rw [hc] at e2
          exact e2.symm
end Go.Proofs.YtpgcelbgmpfliaaGreatDoor

namespace Go.Proofs.YtpgcelbgmpfliaaGreatDoor
open Go Go.RowKit Go.IntWalk

def kt : Nat := 1074
theorem kt_is : kt = 1074 := rfl
theorem int_round (m : Nat) (mode : Int) (neg : Bool) (h0 : m ≠ 0) (hm : m ≤ 9007199254740992) : rFlag 53 (-1022) 1023 m 0 mode neg = 0 ∧ rMag 53 (-1022) 1023 m 0 mode neg < 9218868437227405312 ∧ nv (rMag 53 (-1022) 1023 m 0 mode neg) = m * 2 ^ kt := by
  have hk := kt_is
  by_cases hb : bitLen m ≤ 53
  · obtain ⟨f1, f2, f3, f4⟩ := fits_exact 53 (-1022) 1023 m 0 mode neg h0 (by omega) (by decide) (by omega)
    obtain ⟨g1, g2, g3⟩ := rOver_not 53 (-1022) 1023 m 0 mode neg 53 rfl (by decide) (by decide) (by decide) f2
    have hs0 : rSteps 53 (-1022) m 0 mode neg ≠ 0 := by rw [f4]; exact Nat.mul_ne_zero h0 (Nat.pos_iff_ne_zero.1 (Nat.two_pow_pos _))
    obtain ⟨v1, v2⟩ := good_val _ _ hs0 g1 g2 g3
    have hr : rMag 53 (-1022) 1023 m 0 mode neg = wMag (rSteps 53 (-1022) m 0 mode neg) (rUnit 53 (-1022) m 0) := by unfold rMag; rw [if_neg f2]
    rw [hr]
    have ex : (0 - rUnit 53 (-1022) m 0).toNat + (rUnit 53 (-1022) m 0 + 1074).toNat = kt := by clear v2 f4 hr; omega
    refine ⟨f1, v1, ?_⟩
    rw [v2, f4, Nat.mul_assoc, ← Nat.pow_add, ex]
  · have hm53 : m = 9007199254740992 := by
      apply Classical.byContradiction
      intro hc
      exact hb (bitLen_le m 53 (by simp only [Nat.reducePow]; omega))
    subst hm53
    have hu : rUnit 53 (-1022) 9007199254740992 0 = 1 := by decide +kernel
    have hr0 : cutR 9007199254740992 (1 - 0) = 0 := by decide +kernel
    have hq : cutQ 9007199254740992 (1 - 0) = 4503599627370496 := by decide +kernel
    have hs : rSteps 53 (-1022) 9007199254740992 0 mode neg = 4503599627370496 := by
      unfold rSteps stepQ
      rw [hu, if_neg (fun c => c.1 hr0), hq]
    have hbl : bitLen 4503599627370496 = 53 := by decide +kernel
    have ho : ¬ rOver 53 (-1022) 1023 9007199254740992 0 mode neg := by unfold rOver; rw [hs, hu, hbl]; decide
    have hr : rMag 53 (-1022) 1023 9007199254740992 0 mode neg = wMag 4503599627370496 1 := by unfold rMag; rw [if_neg ho, hs, hu]
    obtain ⟨v1, v2⟩ := good_val 4503599627370496 1 (by decide) (by decide) (by decide) (by rw [hbl]; decide)
    refine ⟨(flag_zero _ _ _ _ _ _ _).2 ⟨ho, by rw [hu]; exact hr0⟩, by rw [hr]; exact v1, ?_⟩
    have ex : ((1 : Int) + 1074).toNat = 1 + kt := by omega
    rw [hr, v2, ex, Nat.pow_add, ← Nat.mul_assoc]
theorem nv_2_63 : nv 4890909195324358656 = 9223372036854775808 * 2 ^ kt := by
  have e : wMag 1 63 = 4890909195324358656 := by decide +kernel
  have hbl : bitLen 1 = 1 := by decide
  obtain ⟨_, v2⟩ := good_val 1 63 (by decide) (by decide) (by decide) (by rw [hbl]; decide)
  have hk := kt_is
  have ex : ((63 : Int) + 1074).toNat = 63 + kt := by omega
  have e63 : (2 : Nat) ^ 63 = 9223372036854775808 := by decide
  rw [e, ex, Nat.pow_add, Nat.one_mul, e63] at v2
  exact v2
theorem sv_sign (neg : Bool) (R : Nat) (h : R < 9223372036854775808) : sv (signN neg R) = if neg then -(nv R : Int) else (nv R : Int) := by
  obtain ⟨a1, a2, _⟩ := signN_mod neg R h
  unfold sv
  rw [a1]
  cases neg
  · rw [if_neg (by simpa using a2)]; rfl
  · rw [if_pos (by simpa using a2)]; rfl
theorem int_order (m R : Nat) (neg : Bool) (hm : m ≤ 9007199254740992) (hR : R < 9218868437227405312) (hv : nv R = m * 2 ^ kt) :
    (FloatKind.f64.format.order (signN neg R) 14114281232179134464 == some .lt) = false ∧ (FloatKind.f64.format.order (signN neg R) 4890909195324358656 == some .gt || FloatKind.f64.format.order (signN neg R) 4890909195324358656 == some .eq) = false := by
  obtain ⟨a1, a2, a3⟩ := signN_mod neg R (by omega)
  obtain ⟨T, hT⟩ : ∃ T, 2 ^ kt = T := ⟨_, rfl⟩
  have hTp : 0 < T := by rw [← hT]; exact Nat.two_pow_pos _
  have h63 := nv_2_63
  rw [hT] at hv h63
  have hlt : nv R < nv 4890909195324358656 := by
    rw [hv, h63]
    exact Nat.mul_lt_mul_of_pos_right (by omega) hTp
  have s1 : sv 14114281232179134464 = -(nv 4890909195324358656 : Int) := sv_sign true 4890909195324358656 (by decide)
  have s2 : sv 4890909195324358656 = (nv 4890909195324358656 : Int) := sv_sign false 4890909195324358656 (by decide)
  have s3 := sv_sign neg R (by omega)
  rw [order_eq _ _ a3 (by decide) (by omega) (by decide), order_eq _ _ a3 (by decide) (by omega) (by decide), s1, s2]
  have c1 : -(nv 4890909195324358656 : Int) < sv (signN neg R) := by rw [s3]; split <;> omega
  have c2 : sv (signN neg R) < (nv 4890909195324358656 : Int) := by rw [s3]; split <;> omega
  rw [cmp_gt c1, cmp_lt c2]
  exact ⟨rfl, rfl⟩
theorem cut_zero (s : Bool) (n d k : Nat) (h0 : k ≠ 0) (h : n = k * 2 ^ d) : Ieee.Toward.zero.cut s n d = k := by
  apply cut_exact
  · rw [h, log2_mul_pow _ _ h0]; omega
  · exact h
theorem shift_back (mm m p : Nat) (h : mm * 2 ^ p = m * 2 ^ kt) : mm <<< ((p : Int) - 1074).toNat = m * 2 ^ (-((p : Int) - 1074)).toNat := by
  have hk := kt_is
  rw [Nat.shiftLeft_eq]
  by_cases c : kt ≤ p
  · have e1 : ((p : Int) - 1074).toNat = p - kt := by omega
    have e2 : (-((p : Int) - 1074)).toNat = 0 := by omega
    rw [e1, e2, Nat.pow_zero, Nat.mul_one]
    apply Nat.eq_of_mul_eq_mul_right (Nat.two_pow_pos kt)
    rw [Nat.mul_assoc, ← Nat.pow_add, Nat.sub_add_cancel c, h]
  · have e1 : ((p : Int) - 1074).toNat = 0 := by omega
    have e2 : (-((p : Int) - 1074)).toNat = kt - p := by omega
    rw [e1, e2, Nat.pow_zero, Nat.mul_one]
    apply Nat.eq_of_mul_eq_mul_right (Nat.two_pow_pos p)
    rw [h, Nat.mul_assoc, ← Nat.pow_add, Nat.sub_add_cancel (by omega)]
theorem int_conv (m R : Nat) (neg : Bool) (h0 : m ≠ 0) (hm : m ≤ 9007199254740992) (hR : R < 9218868437227405312) (hv : nv R = m * 2 ^ kt) :
    floatToIntVal .f64 (signN neg R) .i64 = some (if neg then -(m : Int) else (m : Int)) := by
  obtain ⟨a1, a2, a3⟩ := signN_mod neg R (by omega)
  obtain ⟨mm, p, ex, vx⟩ := read_fin (signN neg R) a3 (by rw [a1]; exact hR)
  rw [a1, hv] at vx
  rw [a2] at ex
  have hd : FloatKind.f64.decode (signN neg R) = .number neg mm ((p : Int) - 1074) := ex
  have hi : (Ieee.Datum.number neg mm ((p : Int) - 1074)).toInt .zero = some (Ieee.signed neg m 0) := by
    show some (Ieee.signed neg (Ieee.Toward.zero.cut neg (mm <<< ((p : Int) - 1074).toNat) (-((p : Int) - 1074)).toNat) 0) = _
    rw [cut_zero neg _ _ m h0 (shift_back mm m p vx)]
  unfold floatToIntVal
  rw [hd, hi]
  have hsg : Ieee.signed neg m 0 = if neg then -(m : Int) else (m : Int) := by
    unfold Ieee.signed
    rw [Nat.shiftLeft_zero]
  rw [hsg]
  have h1 : IntKind.i64.min = -9223372036854775808 := by decide
  have h2 : IntKind.i64.max = 9223372036854775807 := by decide
  simp only [h1, h2]
  rw [if_pos (by cases neg <;> simp <;> omega)]
theorem int_parts (m R : Nat) (neg : Bool) (h0 : m ≠ 0) (hR : R < 9218868437227405312) (hv : nv R = m * 2 ^ kt) : 0 ≤ pExp (signN neg R) := by
  obtain ⟨a1, a2, a3⟩ := signN_mod neg R (by omega)
  obtain ⟨w1, w2, w3, w4, w5⟩ := parts_val (signN neg R) (by rw [a1]; exact hR)
  have hR0 : R ≠ 0 := by
    intro hz
    rw [hz, nv_zero] at hv
    exact Nat.mul_ne_zero h0 (Nat.pos_iff_ne_zero.1 (Nat.two_pow_pos kt)) hv.symm
  have hm0 : mantOf (signN neg R) ≠ 0 := fun c => hR0 (by rw [← a1]; exact w4.1 c)
  obtain ⟨p1, p2, p3, p4, p5, p6⟩ := w5 hm0
  obtain ⟨q, hq⟩ := pmant_odd _ w1 hm0
  rw [a1, hv, hq] at p3
  have := odd_pow_le q _ _ m p3.symm
  have hk := kt_is
  omega
end Go.Proofs.YtpgcelbgmpfliaaGreatDoor
