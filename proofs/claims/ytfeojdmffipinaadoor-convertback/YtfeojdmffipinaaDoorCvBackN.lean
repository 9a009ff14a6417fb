
/- Whole numbers that are numbers, in plain arithmetic. -/
import Derived.Test.YtfeojdmffipinaaDoorCvBackP
namespace Go.Proofs.YtfeojdmffipinaaDoor
open Go Go.RowKit Go.IntWalk

def kt : Nat := 1074
theorem kt_is : kt = 1074 := rfl
theorem int_round (m : Nat) (mode : Int) (neg : Bool) (h0 : m ≠ 0) (hm : m ≤ 9007199254740992) : rFlag 53 (-1022) 1023 m 0 mode neg = 0 ∧ rMag 53 (-1022) 1023 m 0 mode neg < 9218868437227405312 ∧ nv (rMag 53 (-1022) 1023 m 0 mode neg) = m * 2 ^ kt := by
  have hk := kt_is
  by_cases hb : bitLen m ≤ 53
  · obtain ⟨f1, f2, f3, f4⟩ := fits_exact 53 (-1022) 1023 m 0 mode neg h0 (by omega) (by decide) (by omega)
    obtain ⟨g1, g2, g3⟩ := rOver_not 53 (-1022) 1023 m 0 mode neg 53 rfl (by decide) (by decide) (by decide) f2
    have hs0 : rSteps 53 (-1022) m 0 mode neg ≠ 0 := by rw [f4]; exact Nat.mul_ne_zero h0 (Nat.pos_iff_ne_zero.1 (Nat.two_pow_pos _))
    obtain ⟨v1, v2⟩ := good_val _ _ hs0 g1 g2 g3
    have hr : rMag 53 (-1022) 1023 m 0 mode neg = wMag (rSteps 53 (-1022) m 0 mode neg) (rUnit 53 (-1022) m 0) := by unfold rMag; rw [if_neg f2]
    rw [hr]
    have ex : (0 - rUnit 53 (-1022) m 0).toNat + (rUnit 53 (-1022) m 0 + 1074).toNat = kt := by clear v2 f4 hr; omega
    refine ⟨f1, v1, ?_⟩
    rw [v2, f4, Nat.mul_assoc, ← Nat.pow_add, ex]
  · have hm53 : m = 9007199254740992 := by
      apply Classical.byContradiction
      intro hc
      exact hb (bitLen_le m 53 (by simp only [Nat.reducePow]; omega))
    subst hm53
    have hu : rUnit 53 (-1022) 9007199254740992 0 = 1 := by decide +kernel
    have hr0 : cutR 9007199254740992 (1 - 0) = 0 := by decide +kernel
    have hq : cutQ 9007199254740992 (1 - 0) = 4503599627370496 := by decide +kernel
    have hs : rSteps 53 (-1022) 9007199254740992 0 mode neg = 4503599627370496 := by
      unfold rSteps stepQ
      rw [hu, if_neg (fun c => c.1 hr0), hq]
    have hbl : bitLen 4503599627370496 = 53 := by decide +kernel
    have ho : ¬ rOver 53 (-1022) 1023 9007199254740992 0 mode neg := by unfold rOver; rw [hs, hu, hbl]; decide
    have hr : rMag 53 (-1022) 1023 9007199254740992 0 mode neg = wMag 4503599627370496 1 := by unfold rMag; rw [if_neg ho, hs, hu]
    obtain ⟨v1, v2⟩ := good_val 4503599627370496 1 (by decide) (by decide) (by decide) (by rw [hbl]; decide)
    refine ⟨(flag_zero _ _ _ _ _ _ _).2 ⟨ho, by rw [hu]; exact hr0⟩, by rw [hr]; exact v1, ?_⟩
    have ex : ((1 : Int) + 1074).toNat = 1 + kt := by omega
    rw [hr, v2, ex, Nat.pow_add, ← Nat.mul_assoc]
theorem nv_2_63 : nv 4890909195324358656 = 9223372036854775808 * 2 ^ kt := by
  have e : wMag 1 63 = 4890909195324358656 := by decide +kernel
  have hbl : bitLen 1 = 1 := by decide
  obtain ⟨_, v2⟩ := good_val 1 63 (by decide) (by decide) (by decide) (by rw [hbl]; decide)
  have hk := kt_is
  have ex : ((63 : Int) + 1074).toNat = 63 + kt := by omega
  have e63 : (2 : Nat) ^ 63 = 9223372036854775808 := by decide
  rw [e, ex, Nat.pow_add, Nat.one_mul, e63] at v2
  exact v2
theorem sv_sign (neg : Bool) (R : Nat) (h : R < 9223372036854775808) : sv (signN neg R) = if neg then -(nv R : Int) else (nv R : Int) := by
  obtain ⟨a1, a2, _⟩ := signN_mod neg R h
  unfold sv
  rw [a1]
  cases neg
  · rw [if_neg (by simpa using a2)]; rfl
  · rw [if_pos (by simpa using a2)]; rfl
theorem int_order (m R : Nat) (neg : Bool) (hm : m ≤ 9007199254740992) (hR : R < 9218868437227405312) (hv : nv R = m * 2 ^ kt) :
    (FloatKind.f64.format.order (signN neg R) 14114281232179134464 == some .lt) = false ∧ (FloatKind.f64.format.order (signN neg R) 4890909195324358656 == some .gt || FloatKind.f64.format.order (signN neg R) 4890909195324358656 == some .eq) = false := by
  obtain ⟨a1, a2, a3⟩ := signN_mod neg R (by omega)
  obtain ⟨T, hT⟩ : ∃ T, 2 ^ kt = T := ⟨_, rfl⟩
  have hTp : 0 < T := by rw [← hT]; exact Nat.two_pow_pos _
  have h63 := nv_2_63
  rw [hT] at hv h63
  have hlt : nv R < nv 4890909195324358656 := by
    rw [hv, h63]
    exact Nat.mul_lt_mul_of_pos_right (by omega) hTp
  have s1 : sv 14114281232179134464 = -(nv 4890909195324358656 : Int) := sv_sign true 4890909195324358656 (by decide)
  have s2 : sv 4890909195324358656 = (nv 4890909195324358656 : Int) := sv_sign false 4890909195324358656 (by decide)
  have s3 := sv_sign neg R (by omega)
  rw [order_eq _ _ a3 (by decide) (by omega) (by decide), order_eq _ _ a3 (by decide) (by omega) (by decide), s1, s2]
  have c1 : -(nv 4890909195324358656 : Int) < sv (signN neg R) := by rw [s3]; split <;> omega
  have c2 : sv (signN neg R) < (nv 4890909195324358656 : Int) := by rw [s3]; split <;> omega
  rw [cmp_gt c1, cmp_lt c2]
  exact ⟨rfl, rfl⟩
theorem cut_zero (s : Bool) (n d k : Nat) (h0 : k ≠ 0) (h : n = k * 2 ^ d) : Ieee.Toward.zero.cut s n d = k := by
  apply cut_exact
  · rw [h, log2_mul_pow _ _ h0]; omega
  · exact h
theorem shift_back (mm m p : Nat) (h : mm * 2 ^ p = m * 2 ^ kt) : mm <<< ((p : Int) - 1074).toNat = m * 2 ^ (-((p : Int) - 1074)).toNat := by
  have hk := kt_is
  rw [Nat.shiftLeft_eq]
  by_cases c : kt ≤ p
  · have e1 : ((p : Int) - 1074).toNat = p - kt := by omega
    have e2 : (-((p : Int) - 1074)).toNat = 0 := by omega
    rw [e1, e2, Nat.pow_zero, Nat.mul_one]
    apply Nat.eq_of_mul_eq_mul_right (Nat.two_pow_pos kt)
    rw [Nat.mul_assoc, ← Nat.pow_add, Nat.sub_add_cancel c, h]
  · have e1 : ((p : Int) - 1074).toNat = 0 := by omega
    have e2 : (-((p : Int) - 1074)).toNat = kt - p := by omega
    rw [e1, e2, Nat.pow_zero, Nat.mul_one]
    apply Nat.eq_of_mul_eq_mul_right (Nat.two_pow_pos p)
    rw [h, Nat.mul_assoc, ← Nat.pow_add, Nat.sub_add_cancel (by omega)]
theorem int_conv (m R : Nat) (neg : Bool) (h0 : m ≠ 0) (hm : m ≤ 9007199254740992) (hR : R < 9218868437227405312) (hv : nv R = m * 2 ^ kt) :
    floatToIntVal .f64 (signN neg R) .i64 = some (if neg then -(m : Int) else (m : Int)) := by
  obtain ⟨a1, a2, a3⟩ := signN_mod neg R (by omega)
  obtain ⟨mm, p, ex, vx⟩ := read_fin (signN neg R) a3 (by rw [a1]; exact hR)
  rw [a1, hv] at vx
  rw [a2] at ex
  have hd : FloatKind.f64.decode (signN neg R) = .number neg mm ((p : Int) - 1074) := ex
  have hi : (Ieee.Datum.number neg mm ((p : Int) - 1074)).toInt .zero = some (Ieee.signed neg m 0) := by
    show some (Ieee.signed neg (Ieee.Toward.zero.cut neg (mm <<< ((p : Int) - 1074).toNat) (-((p : Int) - 1074)).toNat) 0) = _
    rw [cut_zero neg _ _ m h0 (shift_back mm m p vx)]
  unfold floatToIntVal
  rw [hd, hi]
  have hsg : Ieee.signed neg m 0 = if neg then -(m : Int) else (m : Int) := by
    unfold Ieee.signed
    rw [Nat.shiftLeft_zero]
  rw [hsg]
  have h1 : IntKind.i64.min = -9223372036854775808 := by decide
  have h2 : IntKind.i64.max = 9223372036854775807 := by decide
  simp only [h1, h2]
  rw [if_pos (by cases neg <;> simp <;> omega)]
theorem int_parts (m R : Nat) (neg : Bool) (h0 : m ≠ 0) (hR : R < 9218868437227405312) (hv : nv R = m * 2 ^ kt) : 0 ≤ pExp (signN neg R) := by
  obtain ⟨a1, a2, a3⟩ := signN_mod neg R (by omega)
  obtain ⟨w1, w2, w3, w4, w5⟩ := parts_val (signN neg R) (by rw [a1]; exact hR)
  have hR0 : R ≠ 0 := by
    intro hz
    rw [hz, nv_zero] at hv
    exact Nat.mul_ne_zero h0 (Nat.pos_iff_ne_zero.1 (Nat.two_pow_pos kt)) hv.symm
  have hm0 : mantOf (signN neg R) ≠ 0 := fun c => hR0 (by rw [← a1]; exact w4.1 c)
  obtain ⟨p1, p2, p3, p4, p5, p6⟩ := w5 hm0
  obtain ⟨q, hq⟩ := pmant_odd _ w1 hm0
  rw [a1, hv, hq] at p3
  have := odd_pow_le q _ _ m p3.symm
  have hk := kt_is
  omega
end Go.Proofs.YtfeojdmffipinaaDoor
