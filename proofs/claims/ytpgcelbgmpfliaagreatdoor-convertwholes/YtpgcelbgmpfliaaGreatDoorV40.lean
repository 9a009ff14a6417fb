
/- Narrow, Scale and Whole rise, in plain arithmetic. -/
import Derived.Test.YtpgcelbgmpfliaaGreatDoorV39
namespace Go.Proofs.YtpgcelbgmpfliaaGreatDoor
open Go Go.RowKit Go.IntWalk

theorem nv_mono_iff {r s : Nat} : nv r ≤ nv s ↔ r ≤ s := by
  constructor
  · intro h
    apply Classical.byContradiction
    intro hc
    have := nv_lt (r := s) (s := r) (by omega)
    omega
  · exact nv_le
theorem nv_mono_iff32 {r s : Nat} : nv32 r ≤ nv32 s ↔ r ≤ s := by
  constructor
  · intro h
    apply Classical.byContradiction
    intro hc
    have := nv_lt32 (r := s) (s := r) (by omega)
    omega
  · exact nv_le32
theorem mag32_nv (s : Nat) (u : Int) (hs : s ≤ 16777216) (hu : -149 ≤ u) (ht : u + (bitLen s : Int) - 1 ≤ 127) : nv32 (mag32 s u) = s * 2 ^ (u + 149).toNat := by
  by_cases h0 : s = 0
  · rw [h0, Nat.zero_mul]
    have : mag32 0 u = 0 := by unfold mag32; rw [if_pos rfl]
    rw [this, nv_zero32]
  · exact (mag32_val s u h0 hs hu ht).2
theorem wMag_nv (s : Nat) (u : Int) (hs : s ≤ 9007199254740992) (hu : -1074 ≤ u) (ht : u + (bitLen s : Int) - 1 ≤ 1023) : nv (wMag s u) = s * 2 ^ (u + 1074).toNat ∧ wMag s u < 9218868437227405312 := by
  by_cases h0 : s = 0
  · rw [h0, Nat.zero_mul]
    have : wMag 0 u = 0 := by unfold wMag; rw [if_pos rfl]
    rw [this, nv_zero]
    exact ⟨rfl, by decide⟩
  · exact ⟨(good_val s u h0 hs hu ht).2, (good_val s u h0 hs hu ht).1⟩
/-- Taking a common power out. -/
theorem cancel_pow (s1 s2 : Nat) (u1 u2 : Int) (c C : Nat) (hc : c ≤ C) (h1 : 0 ≤ u1 + (c : Int)) (h2 : 0 ≤ u2 + (c : Int)) (h : s1 * 2 ^ (u1 + (C : Int)).toNat ≤ s2 * 2 ^ (u2 + (C : Int)).toNat) : s1 * 2 ^ (u1 + (c : Int)).toNat ≤ s2 * 2 ^ (u2 + (c : Int)).toNat := by
  have e1 : (u1 + (C : Int)).toNat = (u1 + (c : Int)).toNat + (C - c) := by omega
  have e2 : (u2 + (C : Int)).toNat = (u2 + (c : Int)).toNat + (C - c) := by omega
  rw [e1, e2, Nat.pow_add, Nat.pow_add, ← Nat.mul_assoc, ← Nat.mul_assoc] at h
  exact Nat.le_of_mul_le_mul_right h (Nat.two_pow_pos _)
theorem below_big' (p s B : Nat) (u H E : Int) (C : Nat) (hB : 2 ^ p - 1 = B) (hE : H - (p : Int) + 1 + (C : Int) = E) (hp : 1 ≤ p) (hs : s ≤ 2 ^ p) (hu : 0 ≤ u + (C : Int)) (hH : 0 ≤ H - (p : Int) + 1 + (C : Int)) (h : u + (bitLen s : Int) - 1 ≤ H) : s * 2 ^ (u + (C : Int)).toNat ≤ B * 2 ^ E.toNat := by
  have := below_big p s u H C hp hs hu hH h
  rw [hB, hE] at this
  exact this
theorem nMag_rise (m1 m2 : Nat) (e1 e2 : Int) (mode : Int) (neg : Bool) (C : Nat) (hC : 149 ≤ C) (h1 : m1 ≠ 0) (h2 : m2 ≠ 0) (he1 : 0 ≤ e1 + (C : Int)) (he2 : 0 ≤ e2 + (C : Int)) (h : m1 * 2 ^ (e1 + (C : Int)).toNat ≤ m2 * 2 ^ (e2 + (C : Int)).toNat) :
    nMag m1 e1 mode neg ≤ nMag m2 e2 mode neg := by
  have hr : rSteps 24 (-126) m1 e1 mode neg * 2 ^ (rUnit 24 (-126) m1 e1 + (C : Int)).toNat ≤ rSteps 24 (-126) m2 e2 mode neg * 2 ^ (rUnit 24 (-126) m2 e2 + (C : Int)).toNat := steps_rise 24 (-126) m1 m2 e1 e2 C mode neg (by decide) h1 h2 he1 he2 (by omega) h
  have hov : rOver 24 (-126) 127 m1 e1 mode neg → rOver 24 (-126) 127 m2 e2 mode neg := over_rise 24 (-126) 127 m1 m2 e1 e2 C mode neg (by decide) h1 h2 he1 he2 (by omega) (by decide) h
  unfold nMag
  by_cases o1 : rOver 24 (-126) 127 m1 e1 mode neg
  · rw [if_pos o1, if_pos (hov o1)]; exact Nat.le_refl _
  · rw [if_neg o1]
    obtain ⟨a1, a2, a3⟩ := steps32 m1 e1 mode neg o1
    by_cases o2 : rOver 24 (-126) 127 m2 e2 mode neg
    · rw [if_pos o2]
      split
      · exact Nat.le_of_lt (mag32_le _ _ a1 a2 a3)
      · rw [← nv_mono_iff32, mag32_nv _ _ a1 a2 a3, mag32_nv 16777215 104 (by decide) (by decide) (by rw [big32_len]; decide)]
        have := below_big 24 (rSteps 24 (-126) m1 e1 mode neg) (rUnit 24 (-126) m1 e1) 127 149 (by decide) a1 (by omega) (by decide) a3
        exact this
    · rw [if_neg o2]
      obtain ⟨b1, b2, b3⟩ := steps32 m2 e2 mode neg o2
      rw [← nv_mono_iff32, mag32_nv _ _ a1 a2 a3, mag32_nv _ _ b1 b2 b3]
      exact cancel_pow _ _ _ _ 149 C hC (by omega) (by omega) hr
theorem big64_len : bitLen 9007199254740991 = 53 := by decide +kernel
theorem rMag64_le (m : Nat) (e mode : Int) (neg : Bool) : rMag 53 (-1022) 1023 m e mode neg ≤ 9218868437227405312 := by
  unfold rMag
  by_cases o : rOver 53 (-1022) 1023 m e mode neg
  · rw [if_pos o]
    have hbig : bigM 53 1023 mode neg = if growsOf mode neg true 3 = true then 9218868437227405312 else wMag 9007199254740991 971 := rfl
    rw [hbig]
    split
    · exact Nat.le_refl _
    · exact Nat.le_of_lt (wMag_nv 9007199254740991 971 (by decide) (by decide) (by rw [big64_len]; decide)).2
  · rw [if_neg o]
    obtain ⟨a1, a2, a3⟩ := rOver_not 53 (-1022) 1023 m e mode neg 53 rfl (by decide) (by decide) (by decide) o
    exact Nat.le_of_lt (wMag_nv _ _ a1 a2 a3).2
theorem rMag_rise (m1 m2 : Nat) (e1 e2 : Int) (mode : Int) (neg : Bool) (C : Nat) (hC : 1074 ≤ C) (h1 : m1 ≠ 0) (h2 : m2 ≠ 0) (he1 : 0 ≤ e1 + (C : Int)) (he2 : 0 ≤ e2 + (C : Int)) (h : m1 * 2 ^ (e1 + (C : Int)).toNat ≤ m2 * 2 ^ (e2 + (C : Int)).toNat) :
    rMag 53 (-1022) 1023 m1 e1 mode neg ≤ rMag 53 (-1022) 1023 m2 e2 mode neg := by
  have hr : rSteps 53 (-1022) m1 e1 mode neg * 2 ^ (rUnit 53 (-1022) m1 e1 + (C : Int)).toNat ≤ rSteps 53 (-1022) m2 e2 mode neg * 2 ^ (rUnit 53 (-1022) m2 e2 + (C : Int)).toNat := steps_rise 53 (-1022) m1 m2 e1 e2 C mode neg (by decide) h1 h2 he1 he2 (by omega) h
  have hov : rOver 53 (-1022) 1023 m1 e1 mode neg → rOver 53 (-1022) 1023 m2 e2 mode neg := over_rise 53 (-1022) 1023 m1 m2 e1 e2 C mode neg (by decide) h1 h2 he1 he2 (by omega) (by decide) h
  by_cases o1 : rOver 53 (-1022) 1023 m1 e1 mode neg
  · unfold rMag
    rw [if_pos o1, if_pos (hov o1)]; exact Nat.le_refl _
  · obtain ⟨a1, a2, a3⟩ := rOver_not 53 (-1022) 1023 m1 e1 mode neg 53 rfl (by decide) (by decide) (by decide) o1
    unfold rMag
    rw [if_neg o1]
    by_cases o2 : rOver 53 (-1022) 1023 m2 e2 mode neg
    · rw [if_pos o2]
      have hbig : bigM 53 1023 mode neg = if growsOf mode neg true 3 = true then 9218868437227405312 else wMag 9007199254740991 971 := rfl
      rw [hbig]
      split
      · exact Nat.le_of_lt (wMag_nv _ _ a1 a2 a3).2
      · rw [← nv_mono_iff, (wMag_nv _ _ a1 a2 a3).1, (wMag_nv 9007199254740991 971 (by decide) (by decide) (by rw [big64_len]; decide)).1]
        exact below_big' 53 (rSteps 53 (-1022) m1 e1 mode neg) 9007199254740991 (rUnit 53 (-1022) m1 e1) 1023 (971 + 1074) 1074 (by decide) (by decide) (by decide) a1 (by omega) (by decide) a3
    · rw [if_neg o2]
      obtain ⟨b1, b2, b3⟩ := rOver_not 53 (-1022) 1023 m2 e2 mode neg 53 rfl (by decide) (by decide) (by decide) o2
      rw [← nv_mono_iff, (wMag_nv _ _ a1 a2 a3).1, (wMag_nv _ _ b1 b2 b3).1]
      exact cancel_pow _ _ _ _ 1074 C hC (by omega) (by omega) hr

/-- With signs: what rises on magnitudes rises. -/
theorem rise_sign (f : Bool → Nat → Nat) (h0 : ∀ s, f s 0 = 0) (hm : ∀ s r1 r2, r1 ≤ r2 → r2 ≤ 9218868437227405312 → f s r1 ≤ f s r2) (s1 s2 : Bool) (r1 r2 : Nat) (l1 : r1 ≤ 9218868437227405312) (l2 : r2 ≤ 9218868437227405312)
    (h : (if s1 then -(nv r1 : Int) else (nv r1 : Int)) ≤ (if s2 then -(nv r2 : Int) else (nv r2 : Int))) : (if s1 then -(f s1 r1 : Int) else (f s1 r1 : Int)) ≤ (if s2 then -(f s2 r2 : Int) else (f s2 r2 : Int)) := by
  cases s1 <;> cases s2
  · have h' : (nv r1 : Int) ≤ (nv r2 : Int) := h
    have := hm false r1 r2 (nv_mono_iff.1 (by omega)) l2
    show (f false r1 : Int) ≤ (f false r2 : Int)
    omega
  · have h' : (nv r1 : Int) ≤ -(nv r2 : Int) := h
    have hz : nv r1 = 0 ∧ nv r2 = 0 := by omega
    have e1 : r1 = 0 := nv_inj (by rw [hz.1, nv_zero])
    have e2 : r2 = 0 := nv_inj (by rw [hz.2, nv_zero])
    rw [e1, e2, h0, h0]; decide
  · show -(f true r1 : Int) ≤ (f false r2 : Int)
    omega
  · have h' : -(nv r1 : Int) ≤ -(nv r2 : Int) := h
    have := hm true r2 r1 (nv_mono_iff.1 (by omega)) l1
    show -(f true r1 : Int) ≤ -(f true r2 : Int)
    omega

/-- What Narrow, Scale and Whole make of a magnitude. -/
def nR (mode : Int) (s : Bool) (r : Nat) : Nat := if r = 9218868437227405312 then 2139095040 else if r = 0 then 0 else nMag (pMant (signN s r)) (pExp (signN s r)) mode s
def sR (k mode : Int) (s : Bool) (r : Nat) : Nat := if r = 9218868437227405312 ∨ r = 0 then r else rMag 53 (-1022) 1023 (pMant (signN s r)) (pExp (signN s r) + clampK k) mode s
theorem narrow_form (x : Nat) (mode : Int) (hx : x < 18446744073709551616) (hn : x % 9223372036854775808 ≤ 9218868437227405312) : narrowOf x mode = signN32 (decide (9223372036854775808 ≤ x)) (nR mode (decide (9223372036854775808 ≤ x)) (x % 9223372036854775808)) := by
  have hx2 := sign_of x hx
  unfold narrowOf nR
  rw [if_neg (by omega), ← hx2]
  split
  · rfl
  · split <;> rfl
theorem scale_form (x : Nat) (k mode : Int) (hx : x < 18446744073709551616) (hn : x % 9223372036854775808 ≤ 9218868437227405312) : scaleOf x k mode = signN (decide (9223372036854775808 ≤ x)) (sR k mode (decide (9223372036854775808 ≤ x)) (x % 9223372036854775808)) := by
  have hx2 := sign_of x hx
  unfold scaleOf sR
  rw [if_neg (by omega), ← hx2]
  split
  · exact hx2
  · rfl
theorem parts_sign (s : Bool) (r : Nat) (h0 : r ≠ 0) (h : r < 9218868437227405312) : pMant (signN s r) ≠ 0 ∧ -1074 ≤ pExp (signN s r) ∧ nv r = pMant (signN s r) * 2 ^ (pExp (signN s r) + 1074).toNat ∧ bitLen (pMant (signN s r)) ≤ 53 ∧ pExp (signN s r) ≤ 1023 ∧ pNeg (signN s r) = s ∧ pErr (signN s r) = 0 ∧ pMant (signN s r) < 9007199254740992 := by
  obtain ⟨a1, a2, a3⟩ := signN_mod s r (by omega)
  obtain ⟨w1, w2, w3, w4, w5⟩ := parts_val (signN s r) (by rw [a1]; exact h)
  have hm0 : mantOf (signN s r) ≠ 0 := fun c => h0 (by rw [← a1]; exact w4.1 c)
  obtain ⟨p1, p2, p3, p4, p5, p6⟩ := w5 hm0
  rw [a1] at p3
  refine ⟨p1, p2, p3, p4, by have := bitLen_pos p1; omega, by unfold pNeg; rw [if_neg w1, w2, a2], by unfold pErr; rw [if_neg w1], ?_⟩
  have h53 : (2 : Nat) ^ 53 = 9007199254740992 := by decide
  rw [← h53]
  exact Nat.lt_of_lt_of_le (bitLen_hi _) (Nat.pow_le_pow_right (by decide) p4)
theorem nR_le (mode : Int) (s : Bool) (r : Nat) : nR mode s r ≤ 2139095040 := by
  unfold nR
  split
  · exact Nat.le_refl _
  · split
    · decide
    · exact (n_conv _ _ _ _).2
theorem nR_mono (mode : Int) (s : Bool) (r1 r2 : Nat) (h : r1 ≤ r2) (h2 : r2 ≤ 9218868437227405312) : nR mode s r1 ≤ nR mode s r2 := by
  by_cases i2 : r2 = 9218868437227405312
  · have : nR mode s r2 = 2139095040 := by unfold nR; rw [if_pos i2]
    rw [this]; exact nR_le _ _ _
  · by_cases z1 : r1 = 0
    · have : nR mode s r1 = 0 := by unfold nR; rw [if_neg (by omega), if_pos z1]
      rw [this]; exact Nat.zero_le _
    · obtain ⟨p1, p2, p3, _, _, _, _, _⟩ := parts_sign s r1 z1 (by omega)
      obtain ⟨q1, q2, q3, _, _, _, _, _⟩ := parts_sign s r2 (by omega) (by omega)
      have hv := nv_le h
      rw [p3, q3] at hv
      unfold nR
      rw [if_neg (by omega), if_neg z1, if_neg i2, if_neg (by omega)]
      exact nMag_rise _ _ _ _ mode s 1074 (by decide) p1 q1 (by omega) (by omega) hv
theorem sR_le (k mode : Int) (s : Bool) (r : Nat) (h : r ≤ 9218868437227405312) : sR k mode s r ≤ 9218868437227405312 := by
  unfold sR
  split
  · exact h
  · exact rMag64_le _ _ _ _
theorem sR_mono (k mode : Int) (s : Bool) (r1 r2 : Nat) (h : r1 ≤ r2) (h2 : r2 ≤ 9218868437227405312) : sR k mode s r1 ≤ sR k mode s r2 := by
  by_cases i2 : r2 = 9218868437227405312
  · have : sR k mode s r2 = 9218868437227405312 := by unfold sR; rw [if_pos (Or.inl i2), i2]
    rw [this]; exact sR_le _ _ _ _ (by omega)
  · by_cases z1 : r1 = 0
    · have : sR k mode s r1 = 0 := by unfold sR; rw [if_pos (Or.inr z1), z1]
      rw [this]; exact Nat.zero_le _
    · obtain ⟨p1, p2, p3, _, _, _, _, _⟩ := parts_sign s r1 z1 (by omega)
      obtain ⟨q1, q2, q3, _, _, _, _, _⟩ := parts_sign s r2 (by omega) (by omega)
      have hv := nv_le h
      rw [p3, q3] at hv
      unfold sR
      rw [if_neg (by omega), if_neg (by omega)]
      obtain ⟨c, hc⟩ : ∃ c, clampK k = c := ⟨_, rfl⟩
      have hck1 : -8192 ≤ c := by rw [← hc]; unfold clampK; omega
      have hck2 : c ≤ 8192 := by rw [← hc]; unfold clampK; omega
      rw [hc]
      refine rMag_rise _ _ _ _ mode s 20000 (by decide) p1 q1 (by omega) (by omega) ?_
      have e1 : (pExp (signN s r1) + c + ((20000 : Nat) : Int)).toNat = (pExp (signN s r1) + 1074).toNat + (c + 18926).toNat := by omega
      have e2 : (pExp (signN s r2) + c + ((20000 : Nat) : Int)).toNat = (pExp (signN s r2) + 1074).toNat + (c + 18926).toNat := by omega
      rw [e1, e2, Nat.pow_add, Nat.pow_add, ← Nat.mul_assoc, ← Nat.mul_assoc]
      exact Nat.mul_le_mul_right _ hv
end Go.Proofs.YtpgcelbgmpfliaaGreatDoor
