
/- The machine's own rounding of sums is the rounding to the nearest; bounds; the other sign. -/
import Derived.Test.YtpgcelbgmpfliaaDoorQ37
import Derived.Test.YtpgcelbgmpfliaaDoorQ40
namespace Go.Proofs.YtpgcelbgmpfliaaDoor
open Go Go.RowKit Go.IntWalk

theorem cut_scale (s : Bool) (n d b : Nat) (h0 : n ≠ 0) : Ieee.Toward.even.cut s (n * 2 ^ b) (d + b) = Ieee.Toward.even.cut s n d := by
  unfold Ieee.Toward.cut
  have hp := Nat.two_pow_pos b
  have e1 : min (d + b) ((n * 2 ^ b).log2 + 2) = min d (n.log2 + 2) + b := by rw [log2_mul_pow n b h0]; omega
  obtain ⟨g, hg⟩ : ∃ g, (1 <<< min d (n.log2 + 2) : Nat) = g := ⟨_, rfl⟩
  have e2 : (1 <<< (min d (n.log2 + 2) + b) : Nat) = g * 2 ^ b := by rw [← hg, Nat.shiftLeft_eq, Nat.shiftLeft_eq, Nat.one_mul, Nat.one_mul, Nat.pow_add]
  simp only [e1, e2, hg, Nat.mul_div_mul_right _ _ hp, Nat.mul_mod_mul_right]
  have c1 : (g * 2 ^ b < 2 * (n % g * 2 ^ b)) ↔ g < 2 * (n % g) := by rw [← Nat.mul_assoc]; exact Nat.mul_lt_mul_right hp
  have c2 : (g * 2 ^ b == 2 * (n % g * 2 ^ b)) = (g == 2 * (n % g)) := by
    rw [← Nat.mul_assoc, Bool.eq_iff_iff, beq_iff_eq, beq_iff_eq]
    exact ⟨fun h => Nat.eq_of_mul_eq_mul_right hp h, fun h => congrArg (fun z => z * 2 ^ b) h⟩
  rw [c2]
  simp only [c1]
/-- Only the value counts. -/
theorem near_scale (s : Bool) (mag b : Nat) : FloatKind.f64.format.nearest s mag ((b : Int) - 1074) = FloatKind.f64.format.nearest s (mag * 2 ^ b) (-1074) := by
  by_cases h0 : mag = 0
  · rw [h0, Nat.zero_mul, nearest_zero, nearest_zero]
  · have hl := log2_mul_pow mag b h0
    have hn0 : mag * 2 ^ b ≠ 0 := Nat.mul_ne_zero h0 (Nat.pos_iff_ne_zero.1 (Nat.two_pow_pos b))
    unfold Ieee.Format.nearest
    rw [if_neg h0, if_neg hn0, fmt_fb, fmt_lp, fmt_bin, fmt_inf]
    obtain ⟨e, he⟩ : ∃ e, (mag * 2 ^ b).log2 - 52 = e := ⟨_, rfl⟩
    have l1 : max ((b : Int) - 1074 + (mag.log2 : Int) - ((52 : Nat) : Int)) (-1074) = (e : Int) - 1074 := by omega
    have l2 : max ((-1074 : Int) + ((mag * 2 ^ b).log2 : Int) - ((52 : Nat) : Int)) (-1074) = (e : Int) - 1074 := by omega
    simp only [l1, l2]
    have t1 : ((b : Int) - 1074 - ((e : Int) - 1074)).toNat = b - e := by omega
    have t2 : ((e : Int) - 1074 - ((b : Int) - 1074)).toNat = e - b := by omega
    have t3 : ((-1074 : Int) - ((e : Int) - 1074)).toNat = 0 := by omega
    have t4 : ((e : Int) - 1074 - -1074).toNat = e := by omega
    rw [t1, t2, t3, t4, Nat.shiftLeft_zero]
    congr 3
    by_cases hb : e ≤ b
    · have z : e - b = 0 := by omega
      rw [z, cut_exact .even s (mag <<< (b - e)) 0 (mag * 2 ^ (b - e)) (by omega) (by rw [Nat.shiftLeft_eq, Nat.pow_zero, Nat.mul_one]),
        cut_exact .even s (mag * 2 ^ b) e (mag * 2 ^ (b - e)) (by omega) (by rw [Nat.mul_assoc, ← Nat.pow_add, Nat.sub_add_cancel hb])]
    · have z : b - e = 0 := by omega
      have ee : e = e - b + b := by omega
      rw [z, Nat.shiftLeft_zero]
      conv => rhs; rw [ee]
      rw [cut_scale s mag (e - b) b h0]
theorem cut_is (s : Bool) (V e : Nat) (he : e ≤ V.log2 + 2) : Ieee.Toward.even.cut s V e = stepN V e 0 false := by
  unfold Ieee.Toward.cut stepN
  have e1 : min e (V.log2 + 2) = e := Nat.min_eq_left he
  have e2 : (1 <<< e : Nat) = 2 ^ e := by rw [Nat.shiftLeft_eq, Nat.one_mul]
  simp only [e1, e2]
  congr 1
  have hg : ∀ l : Nat, growsOf 0 false (decide (V / 2 ^ e % 2 = 1)) l = (l == 3 || (l == 2 && decide (V / 2 ^ e % 2 = 1))) := fun l => by unfold growsOf; rw [if_pos rfl]
  rw [hg]
  have ho : (V / 2 ^ e % 2 == 1) = decide (V / 2 ^ e % 2 = 1) := by rw [Bool.eq_iff_iff, beq_iff_eq, decide_eq_true_eq]
  rw [ho]
  have hpos := Nat.two_pow_pos e
  unfold restN
  obtain ⟨r, hr⟩ : ∃ r, V % 2 ^ e = r := ⟨_, rfl⟩
  obtain ⟨P, hP⟩ : ∃ P, 2 ^ e = P := ⟨_, rfl⟩
  rw [hP] at hpos
  rw [hr, hP]
  by_cases c0 : r = 0
  · have d1 : ¬ P < 2 * r := by omega
    have d2 : (P == 2 * r) = false := by rw [beq_eq_false_iff_ne]; omega
    rw [if_pos c0, d2, decide_eq_false d1]
    simp
  · rw [if_neg c0]
    rcases Nat.lt_trichotomy (2 * r) P with c | c | c
    · have d1 : ¬ P < 2 * r := by omega
      have d2 : (P == 2 * r) = false := by rw [beq_eq_false_iff_ne]; omega
      have hL : (if 2 * r < P then 1 else if 2 * r = P then 2 else 3 : Nat) = 1 := if_pos c
      rw [hL, d2, decide_eq_false d1]
      simp
    · have d1 : ¬ P < 2 * r := by omega
      have d2 : (P == 2 * r) = true := by rw [beq_iff_eq]; omega
      have hL : (if 2 * r < P then 1 else if 2 * r = P then 2 else 3 : Nat) = 2 := by rw [if_neg (by omega), if_pos c]
      rw [hL, d2, decide_eq_false d1]
      by_cases o : V / P % 2 = 1
      · simp [o]
      · simp [o]
    · have d1 : P < 2 * r := by omega
      have hL : (if 2 * r < P then 1 else if 2 * r = P then 2 else 3 : Nat) = 3 := by rw [if_neg (by omega), if_neg (by omega)]
      rw [hL, decide_eq_true d1]
      simp
/-- The machine's rounding, and ours. -/
theorem near_rMag (V : Nat) (h0 : V ≠ 0) : FloatKind.f64.format.nearest false V (-1074) = rMag 53 (-1022) 1023 V (-1074) 0 false := by
  unfold Ieee.Format.nearest
  rw [if_neg h0, fmt_fb, fmt_lp, fmt_bin, fmt_inf]
  obtain ⟨e, he⟩ : ∃ e, V.log2 - 52 = e := ⟨_, rfl⟩
  have l2 : max ((-1074 : Int) + (V.log2 : Int) - ((52 : Nat) : Int)) (-1074) = (e : Int) - 1074 := by omega
  simp only [l2]
  have t3 : ((-1074 : Int) - ((e : Int) - 1074)).toNat = 0 := by omega
  have t4 : ((e : Int) - 1074 - -1074).toNat = e := by omega
  rw [t3, t4, Nat.shiftLeft_zero, cut_is false V e (by omega), word_false]
  have hbl : bitLen V = V.log2 + 1 := by unfold bitLen; rw [if_neg h0]
  have hu : rUnit 53 (-1022) V (-1074) = (e : Int) - 1074 := by unfold rUnit rTop; rw [hbl]; omega
  have hk := kt_is
  have hst : rSteps 53 (-1022) V (-1074) 0 false = stepN V e 0 false := by
    unfold rSteps
    rw [hu, stepQ_scale V (-1074) ((e : Int) - 1074) kt 0 false (by omega) (by omega)]
    have a1 : ((-1074 : Int) + (kt : Int)).toNat = 0 := by omega
    have a2 : ((e : Int) - 1074 + (kt : Int)).toNat = e := by omega
    rw [a1, a2, Nat.pow_zero, Nat.mul_one]
  have hsl := rSteps_le 53 (-1022) V (-1074) 0 false 53 rfl
  have h53 : (2 : Nat) ^ 53 = 9007199254740992 := by decide
  rw [hst, h53] at hsl
  obtain ⟨S, hS⟩ : ∃ S, stepN V e 0 false = S := ⟨_, rfl⟩
  rw [hS] at hsl hst ⊢
  -- where e is not 0 the steps fill the digits
  have hfull : e ≠ 0 → 4503599627370496 ≤ S := by
    intro hne
    have hq := cutQ_ge V (-1074) (rUnit 53 (-1022) V (-1074)) 52 h0 (by rw [hu, hbl]; omega)
    have h52 : (2 : Nat) ^ 52 = 4503599627370496 := by decide
    rw [h52] at hq
    rw [← hst]
    unfold rSteps stepQ
    omega
  have hval : nv (e * 4503599627370496 + S) = S * 2 ^ e := by
    unfold nv
    by_cases c : e * 4503599627370496 + S < 4503599627370496
    · have e0 : e = 0 := by
        apply Classical.byContradiction
        intro hne
        have := hfull hne
        omega
      rw [if_pos c, e0, Nat.zero_mul, Nat.zero_add, Nat.pow_zero, Nat.mul_one]
    · rw [if_neg c]
      have hS1 : 4503599627370496 ≤ S := by
        by_cases hne : e = 0
        · rw [hne] at c; omega
        · exact hfull hne
      by_cases c2 : S = 9007199254740992
      · have d1 : (e * 4503599627370496 + S) / 4503599627370496 = e + 2 := by omega
        have d2 : (e * 4503599627370496 + S) % 4503599627370496 = 0 := by omega
        rw [d1, d2, c2, Nat.add_zero, show e + 2 - 1 = e + 1 by omega, Nat.pow_succ, Nat.mul_comm (2 ^ e) 2, ← Nat.mul_assoc]
      · have d1 : (e * 4503599627370496 + S) / 4503599627370496 = e + 1 := by omega
        have d2 : (e * 4503599627370496 + S) % 4503599627370496 = S - 4503599627370496 := by omega
        rw [d1, d2, Nat.add_sub_cancel, Nat.add_sub_cancel' hS1]
  unfold rMag
  by_cases ho : rOver 53 (-1022) 1023 V (-1074) 0 false
  · rw [if_pos ho]
    have hb : bigM 53 1023 0 false = 9218868437227405312 := by decide +kernel
    rw [hb]
    apply Nat.min_eq_right
    unfold rOver at ho
    rw [hst, hu] at ho
    have hbS := bitLen_le S 54 (by simp only [Nat.reducePow]; omega)
    by_cases c2 : bitLen S ≤ 53
    · have : 4503599627370496 ≤ S := hfull (by omega)
      omega
    · have : 9007199254740992 ≤ S := by
        apply Classical.byContradiction
        intro hc
        exact c2 (bitLen_le S 53 (by simp only [Nat.reducePow]; omega))
      omega
  · rw [if_neg ho, hst, hu]
    unfold rOver at ho
    rw [hst, hu] at ho
    obtain ⟨w1, w2⟩ := wMag_nv S ((e : Int) - 1074) hsl (by omega) (by omega)
    have a2 : ((e : Int) - 1074 + 1074).toNat = e := by omega
    rw [a2, ← hval] at w1
    have := nv_inj w1
    rw [this]
    rw [this] at w2
    exact Nat.min_eq_left (by omega)
/-- What a sum of value V becomes. -/
def rnR (V : Nat) : Nat := FloatKind.f64.format.nearest false V (-1074)
theorem near_rn (s : Bool) (mag b : Nat) : FloatKind.f64.format.nearest s mag ((b : Int) - 1074) = signN s (rnR (mag * 2 ^ b)) ∧ rnR (mag * 2 ^ b) ≤ 9218868437227405312 := by
  obtain ⟨R, hR, hn⟩ := nearest_any (mag * 2 ^ b) (-1074)
  have e : rnR (mag * 2 ^ b) = R := by unfold rnR; rw [hn false]; rfl
  rw [near_scale, hn s, e]
  exact ⟨rfl, hR⟩
theorem rn_bound (V k : Nat) (hV : V ≤ 2 ^ k) (hk : k ≤ 2000) : rnR V < 9218868437227405312 ∧ nv (rnR V) ≤ 2 ^ k := by
  by_cases h0 : V = 0
  · have : rnR V = 0 := by unfold rnR; rw [h0, nearest_zero, word_false]
    rw [this, nv_zero]
    exact ⟨by decide, Nat.zero_le _⟩
  · have e : rnR V = rMag 53 (-1022) 1023 V (-1074) 0 false := near_rMag V h0
    have hbl : bitLen 1 = 1 := by decide
    have hkt := kt_is
    have hr := rMag_rise V 1 (-1074) ((k : Int) - 1074) 0 false kt (by omega) h0 (by decide) (by omega) (by omega) (by
      have a1 : ((-1074 : Int) + (kt : Int)).toNat = 0 := by omega
      have a2 : ((k : Int) - 1074 + (kt : Int)).toNat = k := by omega
      rw [a1, a2, Nat.pow_zero, Nat.mul_one, Nat.one_mul]
      exact hV)
    obtain ⟨f1, f2, f3, f4⟩ := fits_exact 53 (-1022) 1023 1 ((k : Int) - 1074) 0 false (by decide) (by rw [hbl]; decide) (by omega) (by rw [hbl]; omega)
    obtain ⟨g1, g2, g3⟩ := rOver_not 53 (-1022) 1023 1 ((k : Int) - 1074) 0 false 53 rfl (by decide) (by decide) (by decide) f2
    obtain ⟨w1, w2⟩ := wMag_nv _ _ g1 g2 g3
    have hr2 : rMag 53 (-1022) 1023 1 ((k : Int) - 1074) 0 false = wMag (rSteps 53 (-1022) 1 ((k : Int) - 1074) 0 false) (rUnit 53 (-1022) 1 ((k : Int) - 1074)) := by unfold rMag; rw [if_neg f2]
    rw [hr2, ← e] at hr
    refine ⟨by omega, ?_⟩
    have hv := nv_le hr
    have a3 : ((k : Int) - 1074 - rUnit 53 (-1022) 1 ((k : Int) - 1074)).toNat + (rUnit 53 (-1022) 1 ((k : Int) - 1074) + 1074).toNat = k := by clear w1 f4 hr hr2 hv; omega
    rw [w1, f4, Nat.one_mul, ← Nat.pow_add, a3] at hv
    exact hv
/-- A sum and a difference of finite numbers. -/
theorem add_val (x y : Nat) (hx : x < 18446744073709551616) (hy : y < 18446744073709551616) (fx : x % 9223372036854775808 < 9218868437227405312) (fy : y % 9223372036854775808 < 9218868437227405312) :
    ∃ s, FloatKind.f64.format.add x y = some (signN s (rnR (sv x + sv y).natAbs)) ∧ (sv x + sv y ≠ 0 → s = decide (sv x + sv y < 0)) := by
  obtain ⟨m, p, ex, vx⟩ := read_fin x hx fx
  obtain ⟨n, q, ey, vy⟩ := read_fin y hy fy
  unfold Ieee.Format.add
  rw [ex, ey]
  obtain ⟨mag, b, e, hv⟩ := sum_val _ _ m n p q (sv x) (sv y) (sv_form x m p vx) (sv_form y n q vy)
  rw [e]
  refine ⟨if sv x + sv y = 0 then decide (9223372036854775808 ≤ x) && decide (9223372036854775808 ≤ y) else decide (sv x + sv y < 0), ?_, fun h => by rw [if_neg h]⟩
  show some (FloatKind.f64.format.nearest _ mag ((b : Int) - 1074)) = _
  rw [(near_rn _ mag b).1, hv]
theorem sub_val (x y : Nat) (hx : x < 18446744073709551616) (hy : y < 18446744073709551616) (fx : x % 9223372036854775808 < 9218868437227405312) (fy : y % 9223372036854775808 < 9218868437227405312) :
    ∃ s, FloatKind.f64.format.sub x y = some (signN s (rnR (sv x - sv y).natAbs)) ∧ (sv x - sv y ≠ 0 → s = decide (sv x - sv y < 0)) := by
  obtain ⟨m, p, ex, vx⟩ := read_fin x hx fx
  obtain ⟨n, q, ey, vy⟩ := read_fin y hy fy
  unfold Ieee.Format.sub
  rw [ex, ey]
  have hB : -sv y = if (!decide (9223372036854775808 ≤ y)) then -((n * 2 ^ q : Nat) : Int) else ((n * 2 ^ q : Nat) : Int) := by
    rw [sv_form y n q vy]
    by_cases c : 9223372036854775808 ≤ y <;> simp [c]
  obtain ⟨mag, b, e, hv⟩ := sum_val _ _ m n p q (sv x) (-sv y) (sv_form x m p vx) hB
  show ∃ s, ((Ieee.Datum.number _ m _).sum (.number (!decide (9223372036854775808 ≤ y)) n _)).map _ = _ ∧ _
  rw [e]
  have eq : sv x + -sv y = sv x - sv y := by omega
  rw [eq] at hv
  refine ⟨if sv x + -sv y = 0 then (decide (9223372036854775808 ≤ x) && !decide (9223372036854775808 ≤ y)) else decide (sv x + -sv y < 0), ?_, fun h => ?_⟩
  · show some (FloatKind.f64.format.nearest _ mag ((b : Int) - 1074)) = _
    rw [(near_rn _ mag b).1, hv]
  · rw [if_neg (by omega), eq]
end Go.Proofs.YtpgcelbgmpfliaaDoor
