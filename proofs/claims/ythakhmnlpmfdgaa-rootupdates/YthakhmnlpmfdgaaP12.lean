
/- The machine's rounding of any number m * 2^p is the rounding to the nearest; its sums and products of finite numbers, by values. No program is spoken of. -/
import Derived.Test.YthakhmnlpmfdgaaP11
namespace Go.Proofs.Ythakhmnlpmfdgaa
open Go Go.RowKit Go.IntWalk

theorem cutQ_nat (m e : Nat) : cutQ m (e : Int) = m / 2 ^ e := by
  unfold cutQ
  by_cases h : (e : Int) ≤ 0
  · have h0 : e = 0 := by omega
    subst h0
    rw [if_pos h]; simp
  · rw [if_neg h, Int.toNat_natCast]
theorem cutR_nat (m e : Nat) : cutR m (e : Int) = restN m e := by
  unfold cutR
  by_cases h : (e : Int) ≤ 0
  · have h0 : e = 0 := by omega
    subst h0
    rw [if_pos h]
    unfold restN
    rw [if_pos (by rw [Nat.pow_zero, Nat.mod_one])]
  · rw [if_neg h, Int.toNat_natCast]
/-- The machine's cut, and ours. -/
theorem cut_near (s : Bool) (m e : Nat) : Ieee.Toward.even.cut s m e = stepQ m (e : Int) 0 false := by
  have hlt : m < 2 ^ (m.log2 + 1) := Nat.lt_log2_self
  have hg : ∀ (o : Bool) (l : Nat), growsOf 0 false o l = (l == 3 || (l == 2 && o)) := fun o l => by unfold growsOf; rw [if_pos rfl]
  unfold stepQ
  rw [cutQ_nat, cutR_nat, hg]
  unfold Ieee.Toward.cut
  simp only
  by_cases he : e ≤ m.log2 + 2
  · have e1 : min e (m.log2 + 2) = e := Nat.min_eq_left he
    have e2 : (1 <<< e : Nat) = 2 ^ e := by rw [Nat.shiftLeft_eq, Nat.one_mul]
    simp only [e1, e2]
    congr 1
    have ho : (m / 2 ^ e % 2 == 1) = decide (m / 2 ^ e % 2 = 1) := by rw [Bool.eq_iff_iff, beq_iff_eq, decide_eq_true_eq]
    rw [ho]
    have hpos := Nat.two_pow_pos e
    unfold restN
    obtain ⟨r, hr⟩ : ∃ r, m % 2 ^ e = r := ⟨_, rfl⟩
    obtain ⟨P, hP⟩ : ∃ P, 2 ^ e = P := ⟨_, rfl⟩
    rw [hP] at hpos
    rw [hr, hP]
    by_cases c0 : r = 0
    · have d1 : ¬ P < 2 * r := by omega
      have d2 : (P == 2 * r) = false := by rw [beq_eq_false_iff_ne]; omega
      rw [if_pos c0, d2, decide_eq_false d1]
      simp
    · rw [if_neg c0]
      rcases Nat.lt_trichotomy (2 * r) P with c | c | c
      · have d1 : ¬ P < 2 * r := by omega
        have d2 : (P == 2 * r) = false := by rw [beq_eq_false_iff_ne]; omega
        have hL : (if 2 * r < P then 1 else if 2 * r = P then 2 else 3 : Nat) = 1 := if_pos c
        rw [hL, d2, decide_eq_false d1]
        simp
      · have d1 : ¬ P < 2 * r := by omega
        have d2 : (P == 2 * r) = true := by rw [beq_iff_eq]; omega
        have hL : (if 2 * r < P then 1 else if 2 * r = P then 2 else 3 : Nat) = 2 := by rw [if_neg (by omega), if_pos c]
        rw [hL, d2, decide_eq_false d1]
        by_cases o : m / P % 2 = 1
        · simp [o]
        · simp [o]
      · have d1 : P < 2 * r := by omega
        have hL : (if 2 * r < P then 1 else if 2 * r = P then 2 else 3 : Nat) = 3 := by rw [if_neg (by omega), if_neg (by omega)]
        rw [hL, decide_eq_true d1]
        simp
  · have e1 : min e (m.log2 + 2) = m.log2 + 2 := Nat.min_eq_right (by omega)
    have e2 : (1 <<< (m.log2 + 2) : Nat) = 2 * 2 ^ (m.log2 + 1) := by rw [Nat.shiftLeft_eq, Nat.one_mul, Nat.pow_succ 2 (m.log2 + 1), Nat.mul_comm]
    simp only [e1, e2]
    have h4 : 2 * 2 ^ (m.log2 + 1) ≤ 2 ^ e := by
      have : 2 ^ (m.log2 + 1 + 1) ≤ 2 ^ e := Nat.pow_le_pow_right (by decide) (by omega)
      rwa [Nat.pow_succ 2 (m.log2 + 1), Nat.mul_comm] at this
    obtain ⟨P, hP⟩ : ∃ P, 2 ^ e = P := ⟨_, rfl⟩
    obtain ⟨Q, hQ⟩ : ∃ Q, 2 ^ (m.log2 + 1) = Q := ⟨_, rfl⟩
    rw [hP] at h4
    rw [hQ] at h4 hlt
    unfold restN
    rw [hP, hQ]
    have q1 : m / P = 0 := Nat.div_eq_of_lt (by omega)
    have q2 : m / (2 * Q) = 0 := Nat.div_eq_of_lt (by omega)
    have r1 : m % P = m := Nat.mod_eq_of_lt (by omega)
    have r2 : m % (2 * Q) = m := Nat.mod_eq_of_lt (by omega)
    rw [q1, q2, r1, r2]
    have d1 : ¬ 2 * Q < 2 * m := by omega
    have d2 : (2 * Q == 2 * m) = false := by rw [beq_eq_false_iff_ne]; omega
    rw [d2, decide_eq_false d1]
    by_cases c0 : m = 0
    · rw [if_pos c0]; simp
    · have hL : (if 2 * m < P then 1 else if 2 * m = P then 2 else 3 : Nat) = 1 := if_pos (by omega)
      rw [if_neg c0, hL]; simp
theorem stepQ_left (m k : Nat) (sh : Int) (h : sh + (k : Int) = 0) : stepQ (m * 2 ^ k) ((0 : Nat) : Int) 0 false = stepQ m sh 0 false := by
  have q1 : cutQ (m * 2 ^ k) ((0 : Nat) : Int) = m * 2 ^ k := by rw [cutQ_nat]; simp
  have r1 : cutR (m * 2 ^ k) ((0 : Nat) : Int) = 0 := by
    rw [cutR_nat]
    unfold restN
    rw [if_pos (by rw [Nat.pow_zero, Nat.mod_one])]
  have q2 : cutQ m sh = m * 2 ^ k := by unfold cutQ; rw [if_pos (by omega), show (-sh).toNat = k by omega]
  have r2 : cutR m sh = 0 := by unfold cutR; rw [if_pos (by omega)]
  unfold stepQ
  rw [q1, r1, q2, r2]
theorem wMag_val (s : Nat) (u : Int) (hs : s ≤ 9007199254740992) (hu : -1074 ≤ u) (ht : u + (bitLen s : Int) - 1 ≤ 1023) : nv (wMag s u) = s * 2 ^ (u + 1074).toNat ∧ wMag s u < 9218868437227405312 := by
  by_cases h0 : s = 0
  · rw [h0, Nat.zero_mul]
    have : wMag 0 u = 0 := by unfold wMag; rw [if_pos rfl]
    rw [this, nv_zero]
    exact ⟨rfl, by decide⟩
  · exact ⟨(good_val s u h0 hs hu ht).2, (good_val s u h0 hs hu ht).1⟩
/-- The machine's rounding, and ours. -/
theorem near_all (m : Nat) (p : Int) (h0 : m ≠ 0) : FloatKind.f64.format.nearest false m p = rMag 53 (-1022) 1023 m p 0 false := by
  unfold Ieee.Format.nearest
  rw [if_neg h0, fmt_fb, fmt_lp, fmt_bin, fmt_inf]
  have hbl : bitLen m = m.log2 + 1 := by unfold bitLen; rw [if_neg h0]
  obtain ⟨u, hu⟩ : ∃ u, rUnit 53 (-1022) m p = u := ⟨_, rfl⟩
  have hu1 : -1074 ≤ u := by rw [← hu]; unfold rUnit; omega
  have l2 : max (p + (m.log2 : Int) - ((52 : Nat) : Int)) (-1074) = u := by rw [← hu]; unfold rUnit rTop; rw [hbl]; omega
  simp only [l2]
  obtain ⟨e, he⟩ := Int.eq_ofNat_of_zero_le (show 0 ≤ u + 1074 by omega)
  have t4 : (u - -1074).toNat = e := by omega
  have hcut : Ieee.Toward.even.cut false (m <<< (p - u).toNat) (u - p).toNat = stepQ m (u - p) 0 false := by
    by_cases c : u ≤ p
    · have z : (u - p).toNat = 0 := by omega
      rw [z, Nat.shiftLeft_eq, cut_near]
      exact stepQ_left m _ (u - p) (by omega)
    · have z : (p - u).toNat = 0 := by omega
      rw [z, Nat.shiftLeft_zero, cut_near]
      congr 1
      omega
  have hst : rSteps 53 (-1022) m p 0 false = stepQ m (u - p) 0 false := by unfold rSteps; rw [hu]
  have hsl := rSteps_le 53 (-1022) m p 0 false 53 rfl
  have h53 : (2 : Nat) ^ 53 = 9007199254740992 := by decide
  rw [hcut, t4, word_false]
  rw [hst, h53] at hsl
  obtain ⟨S, hS⟩ : ∃ S, stepQ m (u - p) 0 false = S := ⟨_, rfl⟩
  rw [hS] at hsl hst ⊢
  have hfull : e ≠ 0 → 4503599627370496 ≤ S := by
    intro hne
    have hq := cutQ_ge m p u 52 h0 (by rw [hbl]; omega)
    have h52 : (2 : Nat) ^ 52 = 4503599627370496 := by decide
    rw [h52] at hq
    rw [← hS]
    unfold stepQ
    omega
  have hval : nv (e * 4503599627370496 + S) = S * 2 ^ e := by
    unfold nv
    by_cases c : e * 4503599627370496 + S < 4503599627370496
    · have e0 : e = 0 := by
        apply Classical.byContradiction
        intro hne
        have := hfull hne
        omega
      rw [if_pos c, e0, Nat.zero_mul, Nat.zero_add, Nat.pow_zero, Nat.mul_one]
    · rw [if_neg c]
      have hS1 : 4503599627370496 ≤ S := by
        by_cases hne : e = 0
        · rw [hne] at c; omega
        · exact hfull hne
      by_cases c2 : S = 9007199254740992
      · have d1 : (e * 4503599627370496 + S) / 4503599627370496 = e + 2 := by omega
        have d2 : (e * 4503599627370496 + S) % 4503599627370496 = 0 := by omega
        rw [d1, d2, c2, Nat.add_zero, show e + 2 - 1 = e + 1 by omega, Nat.pow_succ, Nat.mul_comm (2 ^ e) 2, ← Nat.mul_assoc]
      · have d1 : (e * 4503599627370496 + S) / 4503599627370496 = e + 1 := by omega
        have d2 : (e * 4503599627370496 + S) % 4503599627370496 = S - 4503599627370496 := by omega
        rw [d1, d2, Nat.add_sub_cancel, Nat.add_sub_cancel' hS1]
  unfold rMag
  by_cases ho : rOver 53 (-1022) 1023 m p 0 false
  · rw [if_pos ho]
    have hb : bigM 53 1023 0 false = 9218868437227405312 := by decide +kernel
    rw [hb]
    apply Nat.min_eq_right
    unfold rOver at ho
    rw [hst, hu] at ho
    have hbS := bitLen_le S 54 (by simp only [Nat.reducePow]; omega)
    by_cases c2 : bitLen S ≤ 53
    · have : 4503599627370496 ≤ S := hfull (by omega)
      omega
    · have : 9007199254740992 ≤ S := by
        apply Classical.byContradiction
        intro hc
        exact c2 (bitLen_le S 53 (by simp only [Nat.reducePow]; omega))
      omega
  · rw [if_neg ho, hst, hu]
    unfold rOver at ho
    rw [hst, hu] at ho
    obtain ⟨w1, w2⟩ := wMag_val S u hsl hu1 (by omega)
    have a2 : (u + 1074).toNat = e := by omega
    rw [a2, ← hval] at w1
    have := nv_inj w1
    rw [this]
    rw [this] at w2
    exact Nat.min_eq_left (by omega)
/-- Rounded to the nearest: a magnitude; a number with its sign. -/
def rndM (m : Nat) (e : Int) : Nat := if m = 0 then 0 else rMag 53 (-1022) 1023 m e 0 false
def rndI (z e : Int) : Nat := signN (decide (z < 0)) (rndM z.natAbs e)
theorem near_rnd (s : Bool) (m : Nat) (p : Int) : FloatKind.f64.format.nearest s m p = signN s (rndM m p) ∧ rndM m p ≤ 9218868437227405312 := by
  unfold rndM
  by_cases h : m = 0
  · rw [if_pos h, h, nearest_zero]
    refine ⟨?_, by decide⟩
    unfold signN
    cases s
    · rw [word_false]; rfl
    · rw [word_true]; rfl
  · rw [if_neg h, ← near_all m p h]
    obtain ⟨l, hl⟩ : ∃ l, max (p + (m.log2 : Int) - (FloatKind.f64.format.fractionBits : Int)) FloatKind.f64.format.leastPlace = l := ⟨_, rfl⟩
    obtain ⟨R, hR⟩ : ∃ R, min ((l - FloatKind.f64.format.leastPlace).toNat * FloatKind.f64.format.binade + Ieee.Toward.even.cut false (m <<< (p - l).toNat) (l - p).toNat) FloatKind.f64.format.infRung = R := ⟨_, rfl⟩
    have hn : ∀ t, FloatKind.f64.format.nearest t m p = FloatKind.f64.format.word t R := fun t => by
      rw [← hR]
      unfold Ieee.Format.nearest
      rw [if_neg h]
      simp only [hl]
      rfl
    rw [hn, hn, word_false]
    refine ⟨?_, by rw [← hR, fmt_inf]; exact Nat.min_le_right _ _⟩
    unfold signN
    cases s
    · rw [word_false]; rfl
    · rw [word_true, Nat.add_comm]; rfl
/-- The rounding hangs on the value alone. -/
theorem cutQ_sc (m k : Nat) (sh : Int) : cutQ (m * 2 ^ k) (sh + k) = cutQ m sh := by
  unfold cutQ
  by_cases h1 : sh + (k : Int) ≤ 0
  · rw [if_pos h1, if_pos (by omega), Nat.mul_assoc, ← Nat.pow_add]
    congr 2
    omega
  · rw [if_neg h1]
    by_cases h2 : sh ≤ 0
    · rw [if_pos h2]
      have e : k = (-sh).toNat + (sh + (k : Int)).toNat := by omega
      conv => lhs; arg 1; rw [e, Nat.pow_add, ← Nat.mul_assoc]
      rw [Nat.mul_div_cancel _ (Nat.two_pow_pos _)]
    · rw [if_neg h2]
      have e : (sh + (k : Int)).toNat = sh.toNat + k := by omega
      rw [e, Nat.pow_add, Nat.mul_div_mul_right _ _ (Nat.two_pow_pos k)]
theorem restN_sc (m k s : Nat) : restN (m * 2 ^ k) (s + k) = restN m s := by
  have hp := Nat.two_pow_pos k
  have e : (m * 2 ^ k) % 2 ^ (s + k) = (m % 2 ^ s) * 2 ^ k := by rw [Nat.pow_add, Nat.mul_mod_mul_right]
  have e2 : 2 ^ (s + k) = 2 ^ s * 2 ^ k := Nat.pow_add ..
  unfold restN
  rw [e, e2]
  have c1 : (m % 2 ^ s) * 2 ^ k = 0 ↔ m % 2 ^ s = 0 := by
    rw [Nat.mul_eq_zero]
    exact ⟨fun h => h.resolve_right (by omega), Or.inl⟩
  have c2 : 2 * ((m % 2 ^ s) * 2 ^ k) < 2 ^ s * 2 ^ k ↔ 2 * (m % 2 ^ s) < 2 ^ s := by
    rw [← Nat.mul_assoc]
    exact Nat.mul_lt_mul_right hp
  have c3 : 2 * ((m % 2 ^ s) * 2 ^ k) = 2 ^ s * 2 ^ k ↔ 2 * (m % 2 ^ s) = 2 ^ s := by
    rw [← Nat.mul_assoc]
    exact Nat.mul_right_cancel_iff hp
  simp only [c1, c2, c3]
theorem cutR_sc (m k : Nat) (sh : Int) : cutR (m * 2 ^ k) (sh + k) = cutR m sh := by
  unfold cutR
  by_cases h1 : sh + (k : Int) ≤ 0
  · rw [if_pos h1, if_pos (by omega)]
  · rw [if_neg h1]
    by_cases h2 : sh ≤ 0
    · rw [if_pos h2]
      have e : k = (-sh).toNat + (sh + (k : Int)).toNat := by omega
      rw [restN_zero]
      conv => lhs; arg 1; rw [e, Nat.pow_add, ← Nat.mul_assoc]
      exact Nat.mul_mod_left _ _
    · rw [if_neg h2]
      have e : (sh + (k : Int)).toNat = sh.toNat + k := by omega
      rw [e, restN_sc]
theorem rMag_sc (P L H : Int) (m k : Nat) (e mode : Int) (neg : Bool) (h0 : m ≠ 0) : rMag P L H (m * 2 ^ k) (e - k) mode neg = rMag P L H m e mode neg := by
  have hT : rTop (m * 2 ^ k) (e - k) = rTop m e := by
    unfold rTop
    rw [bitLen_mul_pow m k h0]
    omega
  have hU : rUnit P L (m * 2 ^ k) (e - k) = rUnit P L m e := by unfold rUnit; rw [hT]
  have e1 : rUnit P L m e - (e - (k : Int)) = rUnit P L m e - e + (k : Int) := by omega
  have hS : rSteps P L (m * 2 ^ k) (e - k) mode neg = rSteps P L m e mode neg := by
    unfold rSteps stepQ
    rw [hU, e1, cutQ_sc, cutR_sc]
  have hO : rOver P L H (m * 2 ^ k) (e - k) mode neg ↔ rOver P L H m e mode neg := by unfold rOver; rw [hU, hS]
  unfold rMag
  rw [hU, hS]
  by_cases c : rOver P L H m e mode neg
  · rw [if_pos c, if_pos (hO.2 c)]
  · rw [if_neg c, if_neg (fun d => c (hO.1 d))]
theorem rndM_sc (m k : Nat) (e : Int) : rndM (m * 2 ^ k) (e - k) = rndM m e := by
  unfold rndM
  by_cases h : m = 0
  · rw [if_pos h, h, Nat.zero_mul, if_pos rfl]
  · rw [if_neg h, if_neg (Nat.mul_ne_zero h (Nat.pos_iff_ne_zero.1 (Nat.two_pow_pos k))), rMag_sc _ _ _ _ _ _ _ _ h]
/-- A sum of finite numbers. -/
theorem add_rnd (x y : Nat) (hx : x < 18446744073709551616) (hy : y < 18446744073709551616) (fx : x % 9223372036854775808 < 9218868437227405312) (fy : y % 9223372036854775808 < 9218868437227405312) :
    ∃ s, FloatKind.f64.format.add x y = some (signN s (rndM (sv x + sv y).natAbs (-1074))) ∧ (sv x + sv y ≠ 0 → s = decide (sv x + sv y < 0)) := by
  obtain ⟨m, p, ex, vx⟩ := read_fin x hx fx
  obtain ⟨n, q, ey, vy⟩ := read_fin y hy fy
  unfold Ieee.Format.add
  rw [ex, ey]
  obtain ⟨mag, b, e, hv⟩ := sum_val _ _ m n p q (sv x) (sv y) (sv_form x m p vx) (sv_form y n q vy)
  rw [e]
  refine ⟨if sv x + sv y = 0 then decide (9223372036854775808 ≤ x) && decide (9223372036854775808 ≤ y) else decide (sv x + sv y < 0), ?_, fun h => by rw [if_neg h]⟩
  show some (FloatKind.f64.format.nearest _ mag ((b : Int) - 1074)) = _
  have := rndM_sc mag b ((b : Int) - 1074)
  rw [hv, show (b : Int) - 1074 - (b : Int) = -1074 by omega] at this
  rw [(near_rnd _ mag _).1, this]
/-- A product of finite numbers. -/
theorem mul_rnd (x y : Nat) (hx : x < 18446744073709551616) (hy : y < 18446744073709551616) (fx : x % 9223372036854775808 < 9218868437227405312) (fy : y % 9223372036854775808 < 9218868437227405312) :
    ∃ s, FloatKind.f64.format.mul x y = some (signN s (rndM (sv x * sv y).natAbs (-2148))) ∧ (sv x * sv y ≠ 0 → s = decide (sv x * sv y < 0)) := by
  obtain ⟨m, p, ex, vx⟩ := read_fin x hx fx
  obtain ⟨n, q, ey, vy⟩ := read_fin y hy fy
  have fa := sv_form x m p vx
  have fb := sv_form y n q vy
  unfold Ieee.Format.mul
  rw [ex, ey]
  refine ⟨decide (9223372036854775808 ≤ x) ^^ decide (9223372036854775808 ≤ y), ?_, fun h => ?_⟩
  · show some (FloatKind.f64.format.nearest _ (m * n) ((p : Int) - 1074 + ((q : Int) - 1074))) = _
    have hv : (sv x * sv y).natAbs = m * n * 2 ^ (p + q) := by
      have ha : (sv x).natAbs = m * 2 ^ p := by
        rw [fa]; split <;> simp only [Int.natAbs_neg, Int.natAbs_natCast]
      have hb : (sv y).natAbs = n * 2 ^ q := by
        rw [fb]; split <;> simp only [Int.natAbs_neg, Int.natAbs_natCast]
      rw [Int.natAbs_mul, ha, hb, Nat.pow_add, Nat.mul_assoc, Nat.mul_assoc, Nat.mul_left_comm (2 ^ p)]
    have := rndM_sc (m * n) (p + q) ((p : Int) - 1074 + ((q : Int) - 1074))
    rw [← hv, show (p : Int) - 1074 + ((q : Int) - 1074) - ((p + q : Nat) : Int) = -2148 by omega] at this
    rw [(near_rnd _ (m * n) _).1, this]
  · obtain ⟨A, hA⟩ : ∃ A, m * 2 ^ p = A := ⟨_, rfl⟩
    obtain ⟨B, hB⟩ : ∃ B, n * 2 ^ q = B := ⟨_, rfl⟩
    rw [hA] at fa
    rw [hB] at fb
    rw [fa, fb] at h ⊢
    have hA0 : A ≠ 0 := fun c => h (by rw [c]; split <;> simp)
    have hB0 : B ≠ 0 := fun c => h (by rw [c]; split <;> simp)
    have hp : (0 : Int) < (A : Int) * (B : Int) := Int.mul_pos (by omega) (by omega)
    by_cases c : 9223372036854775808 ≤ x <;> by_cases d : 9223372036854775808 ≤ y
    · simp only [c, d, decide_true, if_true, Int.neg_mul_neg, Bool.xor_self]
      rw [eq_comm, decide_eq_false_iff_not]; omega
    · simp only [c, d, decide_true, decide_false, if_true, Int.neg_mul]
      simp
      omega
    · simp only [c, d, decide_true, decide_false, if_true, Int.mul_neg]
      simp
      omega
    · simp only [c, d, decide_false]
      simp
      omega
end Go.Proofs.Ythakhmnlpmfdgaa
