
/- Quotients by numbers of 2 and more are no greater than what was divided (plain arithmetic; no program is spoken of). -/
import Derived.Test.YthakhmnlpmfdgaaP25
namespace Go.Proofs.Ythakhmnlpmfdgaa
open Go Go.RowKit Go.IntWalk

theorem rnd_rise2 {m1 m2 : Nat} {e1 e2 : Int} (h1 : -2148 ≤ e1) (h2 : -2148 ≤ e2) (hm : m2 ≠ 0) (h : m1 * 2 ^ (e1 + ((2148 : Nat) : Int)).toNat ≤ m2 * 2 ^ (e2 + ((2148 : Nat) : Int)).toNat) : rndM m1 e1 ≤ rndM m2 e2 := by
  unfold rndM
  by_cases h0 : m1 = 0
  · rw [if_pos h0]; exact Nat.zero_le _
  · rw [if_neg h0, if_neg hm]
    exact rMag_rise m1 m2 e1 e2 0 false 2148 (by decide) h0 hm (by omega) (by omega) h
theorem div_core (m n j more t : Nat) (hn : 2 ^ (j + 1) ≤ n) (hD : 2 ^ j ≤ m * 2 ^ more) : (2 * (m * 2 ^ more / n) + (m * 2 ^ more % n != 0).toNat) * 2 ^ (t + j) ≤ m * 2 ^ (t + more + 1) := by
  obtain ⟨D, hd⟩ : ∃ D, m * 2 ^ more = D := ⟨_, rfl⟩
  rw [hd] at hD ⊢
  have e1 : m * 2 ^ (t + more + 1) = 2 * D * 2 ^ t := by
    rw [← hd, Nat.pow_succ, Nat.pow_add]
    rw [Nat.mul_comm (2 ^ t), ← Nat.mul_assoc, ← Nat.mul_assoc, Nat.mul_right_comm, Nat.mul_comm (m * 2 ^ more) 2, Nat.mul_assoc 2]
  have hs : (D % n != 0).toNat ≤ 1 := by cases (D % n != 0) <;> decide
  have hq : D / n * 2 ^ (j + 1) ≤ D := Nat.le_trans (Nat.mul_le_mul_left _ hn) (Nat.div_mul_le_self D n)
  rw [e1, Nat.pow_add, Nat.mul_comm (2 ^ t), ← Nat.mul_assoc]
  refine Nat.mul_le_mul_right _ ?_
  have e2 : 2 * (D / n) * 2 ^ j = D / n * 2 ^ (j + 1) := by rw [Nat.pow_succ, Nat.mul_comm 2, Nat.mul_assoc, Nat.mul_comm 2]
  rw [Nat.add_mul, e2]
  have e3 : (D % n != 0).toNat * 2 ^ j ≤ 1 * 2 ^ j := Nat.mul_le_mul_right _ hs
  omega
/-- A number divided by one that is 2 or more. -/
theorem div_most (x y n j : Nat) (hx : x < 18446744073709551616) (fx : x % 9223372036854775808 < 9218868437227405312) (hy : FloatKind.f64.format.read y = .number false n (-(j : Int))) (hn : 2 ^ (j + 1) ≤ n) (hn2 : n < 9007199254740992) (hj : j ≤ 60) :
    ∃ z, floatBits .quo .f64 x y = some z ∧ z < 18446744073709551616 ∧ z % 9223372036854775808 ≤ x % 9223372036854775808 ∧ (9223372036854775808 ≤ z ↔ 9223372036854775808 ≤ x) := by
  obtain ⟨m, p, ex, vx⟩ := read_fin x hx fx
  have hn0 : n ≠ 0 := by have := Nat.two_pow_pos (j + 1); omega
  have key : FloatKind.f64.format.div x y = some (signN (decide (9223372036854775808 ≤ x)) (rndM (2 * (m * 2 ^ (54 + n.log2 - m.log2) / n) + (m * 2 ^ (54 + n.log2 - m.log2) % n != 0).toNat) ((p : Int) - 1074 - -(j : Int) - ((54 + n.log2 - m.log2 : Nat) : Int) - 1))) := by
    unfold Ieee.Format.div
    rw [ex, hy]
    simp only [Ieee.Datum.quotient]
    rw [if_neg hn0, fmt_fb, Nat.shiftLeft_eq]
    show some (FloatKind.f64.format.nearest _ _ _) = _
    rw [(near_rnd _ _ _).1]
    congr 2
    cases decide (9223372036854775808 ≤ x) <;> rfl
  have hln : n.log2 ≤ 53 := by
    have := (Nat.log2_lt hn0).2 (show n < 2 ^ 53 by omega)
    omega
  have hr : rndM (2 * (m * 2 ^ (54 + n.log2 - m.log2) / n) + (m * 2 ^ (54 + n.log2 - m.log2) % n != 0).toNat) ((p : Int) - 1074 - -(j : Int) - ((54 + n.log2 - m.log2 : Nat) : Int) - 1) ≤ x % 9223372036854775808 := by
    by_cases h0 : m = 0
    · subst h0
      rw [Nat.zero_mul, Nat.zero_div, Nat.zero_mod]
      show rndM 0 _ ≤ _
      unfold rndM
      rw [if_pos rfl]
      exact Nat.zero_le _
    · have hv : rndM m ((p : Int) - 1074) = x % 9223372036854775808 := by
        have := rndM_sc m p ((p : Int) - 1074)
        rw [vx, show (p : Int) - 1074 - (p : Int) = -1074 by omega, rndq_nv _ fx] at this
        exact this.symm
      rw [← hv]
      obtain ⟨more, hmore⟩ : ∃ t, 54 + n.log2 - m.log2 = t := ⟨_, rfl⟩
      rw [hmore]
      have hm2 : more ≤ 107 := by omega
      refine rnd_rise2 (by omega) (by omega) h0 ?_
      have t1 : ((p : Int) - 1074 - -(j : Int) - (more : Int) - 1 + ((2148 : Nat) : Int)).toNat = (p + 1073 - more) + j := by omega
      have t2 : ((p : Int) - 1074 + ((2148 : Nat) : Int)).toNat = (p + 1073 - more) + more + 1 := by omega
      rw [t1, t2]
      refine div_core m n j more _ hn ?_
      have h1 : 2 ^ m.log2 ≤ m := Nat.log2_self_le h0
      have h2 : 2 ^ (j + 1) ≤ 2 ^ (n.log2 + 1) := Nat.le_of_lt (Nat.lt_of_le_of_lt hn Nat.lt_log2_self)
      have h3 : j + 1 ≤ n.log2 + 1 := (Nat.pow_le_pow_iff_right (by decide)).1 h2
      have h4 : 2 ^ j ≤ 2 ^ (m.log2 + more) := Nat.pow_le_pow_right (by decide) (by omega)
      rw [Nat.pow_add] at h4
      exact Nat.le_trans h4 (Nat.mul_le_mul_right _ h1)
  obtain ⟨R, hR⟩ : ∃ t, rndM (2 * (m * 2 ^ (54 + n.log2 - m.log2) / n) + (m * 2 ^ (54 + n.log2 - m.log2) % n != 0).toNat) ((p : Int) - 1074 - -(j : Int) - ((54 + n.log2 - m.log2 : Nat) : Int) - 1) = t := ⟨_, rfl⟩
  rw [hR] at key hr
  refine ⟨_, key, ?_⟩
  unfold signN
  by_cases sx : 9223372036854775808 ≤ x <;> simp [sx] <;> omega
end Go.Proofs.Ythakhmnlpmfdgaa

namespace Go.Proofs.Ythakhmnlpmfdgaa
open Go Go.RowKit Go.IntWalk

theorem rnd_riseC {m1 m2 : Nat} {e1 e2 : Int} (C : Nat) (hC : 1074 ≤ C) (h1 : 0 ≤ e1 + (C : Int)) (h2 : 0 ≤ e2 + (C : Int)) (hm : m2 ≠ 0) (h : m1 * 2 ^ (e1 + (C : Int)).toNat ≤ m2 * 2 ^ (e2 + (C : Int)).toNat) : rndM m1 e1 ≤ rndM m2 e2 := by
  unfold rndM
  by_cases h0 : m1 = 0
  · rw [if_pos h0]; exact Nat.zero_le _
  · rw [if_neg h0, if_neg hm]
    exact rMag_rise m1 m2 e1 e2 0 false C hC h0 hm h1 h2 h
theorem svE_mag (r : Nat) (h : r < 9223372036854775808) : sv r = (nv r : Int) := by
  unfold sv
  rw [if_neg (by omega), Nat.mod_eq_of_lt h]
theorem pow_le3 {x a b K c : Nat} (h : x ≤ 2 ^ a) (hs : a + b ≤ 52 + K + c) : x * 2 ^ b ≤ 4503599627370496 * 2 ^ K * 2 ^ c := by
  have e : (4503599627370496 : Nat) = 2 ^ 52 := by decide
  rw [e, ← Nat.pow_add, ← Nat.pow_add]
  refine Nat.le_trans (Nat.mul_le_mul_right _ h) ?_
  rw [← Nat.pow_add]
  exact Nat.pow_le_pow_right (by decide) hs
theorem over_core {n p more D A B G T s : Nat} (hv : 2 ^ A ≤ n * 2 ^ p) (hD : D = 2 ^ (52 + more)) (hT : T + p + more = B) (hA : A ≤ 52 + B) (hG : 52 + B + 2 ≤ A + G) (hTG : T + 1 ≤ G) (hs : s ≤ 1) : (2 * (D / n) + s) * 2 ^ T ≤ 2 ^ G := by
  have a1 : D / n * 2 ^ A ≤ D * 2 ^ p := by
    refine Nat.le_trans (Nat.mul_le_mul_left _ hv) ?_
    rw [← Nat.mul_assoc]
    exact Nat.mul_le_mul_right _ (Nat.div_mul_le_self D n)
  have a2 : D / n * 2 ^ T * 2 ^ A ≤ 2 ^ (52 + B - A) * 2 ^ A := by
    rw [Nat.mul_right_comm]
    refine Nat.le_trans (Nat.mul_le_mul_right _ a1) ?_
    rw [hD, ← Nat.pow_add, ← Nat.pow_add, ← Nat.pow_add]
    exact Nat.pow_le_pow_right (by decide) (by omega)
  have a3 : D / n * 2 ^ T ≤ 2 ^ (52 + B - A) := Nat.le_of_mul_le_mul_right a2 (Nat.two_pow_pos _)
  have a4 : 2 ^ (52 + B - A) * 2 ≤ 2 ^ (G - 1) := by rw [← Nat.pow_succ]; exact Nat.pow_le_pow_right (by decide) (by omega)
  have a5 : s * 2 ^ T ≤ 1 * 2 ^ T := Nat.mul_le_mul_right _ hs
  have a6 : 2 ^ T ≤ 2 ^ (G - 1) := Nat.pow_le_pow_right (by decide) (by omega)
  have a7 : 2 ^ G = 2 ^ (G - 1) * 2 := by rw [← Nat.pow_succ]; congr 1; omega
  rw [Nat.add_mul, Nat.mul_assoc, a7]
  omega
theorem one_read : FloatKind.f64.format.read 4607182418800017408 = .number false 4503599627370496 (-52) := by decide +kernel
theorem root_from (n : Nat) : ∀ todo root, Ieee.Datum.rootFrom n todo root + 1 ≤ root + 2 ^ todo := by
  intro todo
  induction todo with
  | zero => intro root; show root + 1 ≤ root + 1; exact Nat.le_refl _
  | succ t ih =>
    intro root
    unfold Ieee.Datum.rootFrom
    have e : 2 ^ (t + 1) = 2 ^ t + 2 ^ t := by rw [Nat.pow_succ]; omega
    have e2 : root + 1 <<< t = root + 2 ^ t := by rw [Nat.shiftLeft_eq, Nat.one_mul]
    simp only [e2]
    split
    · have := ih (root + 2 ^ t); omega
    · have := ih root; have := Nat.two_pow_pos t; omega
/-- The root of a finite number that isn't below 0 is finite, and isn't below 0. -/
theorem sqrt_most (x : Nat) (hx : x < 18446744073709551616) (fx : x % 9223372036854775808 < 9218868437227405312) (h0 : x < 9223372036854775808 ∨ x = 9223372036854775808) :
    ∃ z, FloatKind.f64.format.sqrt x = some z ∧ z < 18446744073709551616 ∧ z % 9223372036854775808 ≤ twoW 1540 ∧ (x < 9223372036854775808 → z < 9223372036854775808) := by
  obtain ⟨m, p, ex, hm, hp⟩ := read_fin2 x hx fx
  by_cases hm0 : m = 0
  · refine ⟨signN (decide (9223372036854775808 ≤ x)) 0, ?_, ?_⟩
    · unfold Ieee.Format.sqrt
      rw [ex]
      simp only [Ieee.Datum.root]
      rw [if_pos hm0, hm0]
      show some (FloatKind.f64.format.nearest _ 0 _) = _
      rw [(near_rnd _ _ _).1]
      unfold rndM
      rw [if_pos rfl]
    · unfold signN
      rcases h0 with h0 | h0
      · have : ¬ 9223372036854775808 ≤ x := by omega
        simp [this]
      · subst h0
        decide
  · have hxs : x < 9223372036854775808 := by
      rcases h0 with h0 | h0
      · exact h0
      · subst h0
        exfalso
        rcases hp with ⟨_, h⟩ | ⟨_, h, h2⟩ <;> omega
    have hdec : decide (9223372036854775808 ≤ x) = false := decide_eq_false (by omega)
    obtain ⟨more, hmore⟩ : ∃ t : Nat, 2 * 54 - m.log2 + (((p : Int) - 1074 - ((2 * 54 - m.log2 : Nat) : Int)) % 2).toNat = t := ⟨_, rfl⟩
    obtain ⟨W, hW⟩ : ∃ t, Ieee.Datum.rootFrom (m * 2 ^ more) ((m * 2 ^ more).log2 / 2 + 1) 0 = t := ⟨_, rfl⟩
    have key : FloatKind.f64.format.sqrt x = some (rndM (2 * W + (W * W != m * 2 ^ more).toNat) (((p : Int) - 1074 - (more : Int)) / 2 - 1)) := by
      unfold Ieee.Format.sqrt
      rw [ex, hdec]
      simp only [Ieee.Datum.root]
      rw [if_neg hm0, fmt_fb]
      simp only [Bool.false_eq_true, if_false]
      show some (FloatKind.f64.format.nearest _ _ _) = _
      rw [(near_rnd _ _ _).1]
      rw [← hW, ← hmore, Nat.shiftLeft_eq]
      rfl
    have hp2 : p ≤ 2046 := by rcases hp with ⟨h, _⟩ | ⟨_, h, h2⟩ <;> omega
    have hmr : more ≤ 109 := by
      have : (((p : Int) - 1074 - ((2 * 54 - m.log2 : Nat) : Int)) % 2).toNat ≤ 1 := by omega
      omega
    have hn0 : m * 2 ^ more ≠ 0 := Nat.mul_ne_zero hm0 (Nat.ne_of_gt (Nat.two_pow_pos _))
    have hl : (m * 2 ^ more).log2 ≤ 52 + more := by
      have h1 : m * 2 ^ more < 2 ^ (53 + more) := by
        rw [Nat.pow_add]
        exact Nat.mul_lt_mul_of_pos_right (by omega) (Nat.two_pow_pos _)
      have := (Nat.log2_lt hn0).2 h1
      omega
    have hW1 : W + 1 ≤ 2 ^ ((52 + more) / 2 + 1) := by
      have h1 := root_from (m * 2 ^ more) ((m * 2 ^ more).log2 / 2 + 1) 0
      rw [hW, Nat.zero_add] at h1
      exact Nat.le_trans h1 (Nat.pow_le_pow_right (by decide) (by omega))
    have hs : (W * W != m * 2 ^ more).toNat ≤ 1 := by cases (W * W != m * 2 ^ more) <;> decide
    have hA : 2 * W + (W * W != m * 2 ^ more).toNat ≤ 2 ^ ((52 + more) / 2 + 2) := by
      have e : 2 ^ ((52 + more) / 2 + 2) = 2 * 2 ^ ((52 + more) / 2 + 1) := by rw [Nat.pow_succ 2 ((52 + more) / 2 + 1), Nat.mul_comm]
      rw [e]
      omega
    obtain ⟨e, he⟩ : ∃ t : Int, ((p : Int) - 1074 - (more : Int)) / 2 - 1 = t := ⟨_, rfl⟩
    rw [he] at key
    have hr : rndM (2 * W + (W * W != m * 2 ^ more).toNat) e ≤ twoW 1540 := by
      have a : rndM (nv (twoW 1540)) (-1074) = twoW 1540 := rndq_nv _ (by decide)
      have hne : nv (twoW 1540) ≠ 0 := by have := nv_lt (show 0 < twoW 1540 by decide); omega
      rw [← a]
      refine rnd_riseC 2148 (by decide) (by omega) (by decide) hne ?_
      rw [nv_two 1540 (by decide)]
      obtain ⟨K, hK⟩ : ∃ K, 1540 - 1 = K := ⟨_, rfl⟩
      rw [hK]
      have t2 : ((-1074 : Int) + ((2148 : Nat) : Int)).toNat = 1074 := by decide
      rw [t2]
      obtain ⟨c2, hc2⟩ : ∃ t, 1074 = t := ⟨_, rfl⟩
      rw [hc2]
      exact pow_le3 hA (by omega)
    have hw : twoW 1540 < 9218868437227405312 := by decide
    exact ⟨_, key, by omega, by rw [Nat.mod_eq_of_lt (by omega)]; exact hr, fun _ => by omega⟩
/-- 1 and a number that isn't below 0: 1 or more. -/
theorem one_plus (z a : Nat) (hz : z < 18446744073709551616) (ha : 1023 ≤ a ∧ a ≤ 2000) (mz : z % 9223372036854775808 ≤ twoW a) (h0 : z < 9223372036854775808 ∨ z = 9223372036854775808) :
    ∃ y, floatBits .add .f64 4607182418800017408 z = some y ∧ 4607182418800017408 ≤ y ∧ y ≤ twoW (a + 1) := by
  have fa : twoW (a + 1) < 9218868437227405312 := by unfold twoW; omega
  have fa2 : twoW a < 9218868437227405312 := by unfold twoW; omega
  have h := add_rndQ 4607182418800017408 z (by decide) hz (by decide) (by omega)
  have e1 : sv 4607182418800017408 = (nv 4607182418800017408 : Int) := svE_mag _ (by decide)
  have e2 : sv z = (nv (z % 9223372036854775808) : Int) := by
    rcases h0 with h0 | h0
    · rw [Nat.mod_eq_of_lt h0]; exact svE_mag _ h0
    · subst h0; decide +kernel
  have p1 : 0 < nv 4607182418800017408 := by
    have := nv_lt (show 0 < 4607182418800017408 by decide)
    omega
  rw [e1, e2, if_neg (by omega), decide_eq_false (by omega)] at h
  have e3 : ((nv 4607182418800017408 : Int) + (nv (z % 9223372036854775808) : Int)).natAbs = nv 4607182418800017408 + nv (z % 9223372036854775808) := by omega
  rw [e3] at h
  refine ⟨_, h, ?_, ?_⟩
  · show 4607182418800017408 ≤ signN false _
    unfold signN
    have a1 := rnd_rise (m1 := nv 4607182418800017408) (m2 := nv 4607182418800017408 + nv (z % 9223372036854775808)) (-1074) (by decide) (by omega)
    rw [rndq_nv _ (by decide)] at a1
    simpa using a1
  · show signN false _ ≤ _
    unfold signN
    have q1 : nv 4607182418800017408 ≤ nv (twoW a) := nv_le (by unfold twoW; omega)
    have q2 : nv (z % 9223372036854775808) ≤ nv (twoW a) := nv_le mz
    have q3 : nv (twoW (a + 1)) = nv (twoW a) + nv (twoW a) := by
      rw [nv_two a (by omega), nv_two (a + 1) (by omega), Nat.add_sub_cancel, ← Nat.mul_add]
      congr 1
      obtain ⟨b, rfl⟩ : ∃ b, a = b + 1 := ⟨a - 1, by omega⟩
      rw [Nat.add_sub_cancel, Nat.pow_succ]
      omega
    have a1 := rnd_rise (m1 := nv 4607182418800017408 + nv (z % 9223372036854775808)) (m2 := nv (twoW (a + 1))) (-1074) (by decide) (by omega)
    rw [rndq_nv _ fa] at a1
    simpa using a1
/-- 1 over a number of 1 and more: finite. -/
theorem one_over (y : Nat) (h1 : 4607182418800017408 ≤ y) (hy : y < 9218868437227405312) :
    ∃ z, floatBits .quo .f64 4607182418800017408 y = some z ∧ z ≤ twoW 1024 := by
  obtain ⟨n, p, ey, vy⟩ := read_fin y (by omega) (by omega)
  rw [decide_eq_false (show ¬ 9223372036854775808 ≤ y by omega)] at ey
  rw [Nat.mod_eq_of_lt (show y < 9223372036854775808 by omega)] at vy
  have hv : nv 4607182418800017408 ≤ n * 2 ^ p := by rw [vy]; exact nv_le h1
  have hn0 : n ≠ 0 := by
    rintro rfl
    rw [Nat.zero_mul] at hv
    have := nv_lt (show 0 < 4607182418800017408 by decide)
    omega
  have hl1 : Nat.log2 4503599627370496 = 52 := by decide +kernel
  have key : FloatKind.f64.format.div 4607182418800017408 y = some (rndM (2 * (4503599627370496 * 2 ^ (54 + n.log2 - 52) / n) + (4503599627370496 * 2 ^ (54 + n.log2 - 52) % n != 0).toNat) (-52 - ((p : Int) - 1074) - ((54 + n.log2 - 52 : Nat) : Int) - 1)) := by
    unfold Ieee.Format.div
    rw [one_read, ey]
    simp only [Ieee.Datum.quotient]
    rw [if_neg hn0, fmt_fb, hl1, Nat.shiftLeft_eq]
    show some (FloatKind.f64.format.nearest _ _ _) = _
    rw [(near_rnd _ _ _).1]
    rfl
  obtain ⟨more, hmore⟩ : ∃ t, 54 + n.log2 - 52 = t := ⟨_, rfl⟩
  rw [hmore] at key
  obtain ⟨D, hD⟩ : ∃ t, 4503599627370496 * 2 ^ more = t := ⟨_, rfl⟩
  rw [hD] at key
  obtain ⟨k, hk, hone⟩ : ∃ k, k = 1022 ∧ nv 4607182418800017408 = 4503599627370496 * 2 ^ k := ⟨1023 - 1, by decide, nv_two 1023 (by decide)⟩
  have hv2 : 2 ^ (52 + k) ≤ n * 2 ^ p := by
    rw [hone, show (4503599627370496 : Nat) = 2 ^ 52 by decide, ← Nat.pow_add] at hv
    exact hv
  have hp2 : p ≤ 2046 ∧ n < 9007199254740992 := by
    obtain ⟨m', p', ex', hm', hp'⟩ := read_fin2 y (by omega) (by rw [Nat.mod_eq_of_lt (by omega)]; omega)
    rw [decide_eq_false (show ¬ 9223372036854775808 ≤ y by omega), ey] at ex'
    simp only [Ieee.Datum.number.injEq] at ex'
    rw [Nat.mod_eq_of_lt (show y < 9223372036854775808 by omega)] at hp'
    obtain ⟨_, rfl, e3⟩ := ex'
    have e4 : p = p' := by omega
    subst e4
    refine ⟨?_, hm'⟩
    rcases hp' with ⟨h, _⟩ | ⟨_, h, h2⟩ <;> omega
  have hln : n.log2 ≤ 52 := by
    have := (Nat.log2_lt hn0).2 (show n < 2 ^ 53 by omega)
    omega
  have hnl : n < 2 ^ (n.log2 + 1) := Nat.lt_log2_self
  have hsum : 52 + k ≤ p + n.log2 := by
    apply Classical.byContradiction
    intro hc
    have a1 : n * 2 ^ p < 2 ^ (n.log2 + 1) * 2 ^ p := Nat.mul_lt_mul_of_pos_right hnl (Nat.two_pow_pos _)
    rw [← Nat.pow_add] at a1
    have a2 : 2 ^ (n.log2 + 1 + p) ≤ 2 ^ (52 + k) := Nat.pow_le_pow_right (by decide) (by omega)
    exact absurd (Nat.lt_of_le_of_lt hv2 (Nat.lt_of_lt_of_le a1 a2)) (Nat.lt_irrefl _)
  have hs : (D % n != 0).toNat ≤ 1 := by cases (D % n != 0) <;> decide
  obtain ⟨e, he⟩ : ∃ t : Int, -52 - ((p : Int) - 1074) - (more : Int) - 1 = t := ⟨_, rfl⟩
  rw [he] at key
  have hr : rndM (2 * (D / n) + (D % n != 0).toNat) e ≤ twoW 1024 := by
    have a : rndM (nv (twoW 1024)) (-1074) = twoW 1024 := rndq_nv _ (by decide)
    have hne : nv (twoW 1024) ≠ 0 := by have := nv_lt (show 0 < twoW 1024 by decide); omega
    rw [← a]
    refine rnd_riseC 3300 (by decide) (by omega) (by decide) hne ?_
    rw [nv_two 1024 (by decide)]
    obtain ⟨K, hK⟩ : ∃ K, 1024 - 1 = K := ⟨_, rfl⟩
    obtain ⟨c2, hc2⟩ : ∃ t, ((-1074 : Int) + ((3300 : Nat) : Int)).toNat = t := ⟨_, rfl⟩
    obtain ⟨T, hT⟩ : ∃ t, (e + ((3300 : Nat) : Int)).toNat = t := ⟨_, rfl⟩
    have hc3 : c2 = 2226 := by rw [← hc2]; decide
    rw [hK, hc2, hT, show (4503599627370496 : Nat) = 2 ^ 52 by decide, ← Nat.pow_add, ← Nat.pow_add]
    exact over_core (p := p) (more := more) (A := 52 + k) (B := T + p + more) hv2 (by rw [← hD, show (4503599627370496 : Nat) = 2 ^ 52 by decide, ← Nat.pow_add]) rfl (by omega) (by omega) (by omega) hs
  exact ⟨_, key, hr⟩
end Go.Proofs.Ythakhmnlpmfdgaa
