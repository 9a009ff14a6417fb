
/- Plain arithmetic on steps: between a number and the next one there is none, and how far it is; no program is spoken of. -/
import Derived.Test.YtilffgmekeeohaaDoorP7
import Derived.Test.YtilffgmekeeohaaDoorP8
import Derived.Test.YtilffgmekeeohaaDoorP6
import Derived.Test.YtilffgmekeeohaaDoorP14
namespace Go.Proofs.YtilffgmekeeohaaDoor
open Go

theorem nv_step (r : Nat) : nv (r + 1) = nv r + 2 ^ (max (r / 4503599627370496) 1 - 1) := by
  unfold nv
  by_cases h1 : r + 1 < 4503599627370496
  · have e : max (r / 4503599627370496) 1 - 1 = 0 := by omega
    rw [if_pos h1, if_pos (by omega), e]
  · rw [if_neg h1]
    by_cases h2 : r < 4503599627370496
    · have e : max (r / 4503599627370496) 1 - 1 = 0 := by omega
      have e2 : r + 1 = 4503599627370496 := by omega
      have e3 : (4503599627370496 + 4503599627370496 % 4503599627370496) * 2 ^ (4503599627370496 / 4503599627370496 - 1) = 4503599627370496 := by decide
      rw [if_pos h2, e, e2, e3]
    · rw [if_neg h2]
      by_cases h3 : (r + 1) % 4503599627370496 = 0
      · obtain ⟨q, hq⟩ : ∃ q, r / 4503599627370496 = q + 1 := ⟨r / 4503599627370496 - 1, by omega⟩
        have e1 : (r + 1) / 4503599627370496 = q + 2 := by omega
        have e2 : r % 4503599627370496 = 4503599627370495 := by omega
        have e3 : max (q + 1) 1 - 1 = q := by omega
        rw [h3, e1, e2, hq, e3]
        have e4 : q + 2 - 1 = q + 1 := by omega
        have e5 : q + 1 - 1 = q := by omega
        rw [e4, e5, Nat.pow_succ]
        omega
      · have e1 : (r + 1) / 4503599627370496 = r / 4503599627370496 := by omega
        have e2 : (r + 1) % 4503599627370496 = r % 4503599627370496 + 1 := by omega
        have e3 : max (r / 4503599627370496) 1 - 1 = r / 4503599627370496 - 1 := by omega
        rw [e1, e2, e3, ← Nat.add_assoc, Nat.add_mul, Nat.one_mul]
theorem nv_pow (k : Nat) : nv (powN k) = 2 ^ k := by
  unfold powN
  by_cases h : k ≤ 51
  · rw [if_pos h]
    have h1 : (2 : Nat) ^ k ≤ 2 ^ 51 := Nat.pow_le_pow_right (by omega) h
    have h2 : (2 : Nat) ^ 51 = 2251799813685248 := by decide
    unfold nv
    rw [if_pos (by omega)]
  · rw [if_neg h]
    unfold nv
    have e1 : (k - 51) * 4503599627370496 / 4503599627370496 = k - 51 := Nat.mul_div_cancel _ (by omega)
    have e2 : (k - 51) * 4503599627370496 % 4503599627370496 = 0 := Nat.mul_mod_left _ _
    rw [if_neg (by omega), e1, e2]
    have e3 : (4503599627370496 + 0 : Nat) = 2 ^ 52 := by decide
    rw [e3, ← Nat.pow_add]
    congr 1
    omega
theorem pow_lt_inf (k : Nat) (h : k ≤ 2045) : powN k < 9218868437227405312 := by
  unfold powN
  split
  · rename_i h2
    have h1 : (2 : Nat) ^ k ≤ 2 ^ 51 := Nat.pow_le_pow_right (by omega) h2
    have h2 : (2 : Nat) ^ 51 = 2251799813685248 := by decide
    omega
  · omega
theorem order_lt (x y : Nat) (hx : x < 18446744073709551616) (hy : y < 18446744073709551616) (nx : x % 9223372036854775808 ≤ 9218868437227405312) (ny : y % 9223372036854775808 ≤ 9218868437227405312) :
    (FloatKind.f64.format.order x y == some .lt) = decide (sv x < sv y) := by
  rw [order_eq x y hx hy nx ny]
  rcases Int.lt_trichotomy (sv x) (sv y) with h | h | h
  · rw [cmp_lt h, decide_eq_true h]; rfl
  · rw [cmp_eq h, decide_eq_false (by omega)]; rfl
  · rw [cmp_gt h, decide_eq_false (by omega)]; rfl
theorem order_gt (x y : Nat) (hx : x < 18446744073709551616) (hy : y < 18446744073709551616) (nx : x % 9223372036854775808 ≤ 9218868437227405312) (ny : y % 9223372036854775808 ≤ 9218868437227405312) :
    (FloatKind.f64.format.order x y == some .gt) = decide (sv y < sv x) := by
  rw [order_eq x y hx hy nx ny]
  rcases Int.lt_trichotomy (sv x) (sv y) with h | h | h
  · rw [cmp_lt h, decide_eq_false (by omega)]; rfl
  · rw [cmp_eq h, decide_eq_false (by omega)]; rfl
  · rw [cmp_gt h, decide_eq_true h]; rfl
theorem order_eq' (x y : Nat) (hx : x < 18446744073709551616) (hy : y < 18446744073709551616) (nx : x % 9223372036854775808 ≤ 9218868437227405312) (ny : y % 9223372036854775808 ≤ 9218868437227405312) :
    (FloatKind.f64.format.order x y == some .eq) = decide (sv x = sv y) := by
  rw [order_eq x y hx hy nx ny]
  rcases Int.lt_trichotomy (sv x) (sv y) with h | h | h
  · rw [cmp_lt h, decide_eq_false (by omega)]; rfl
  · rw [cmp_eq h, decide_eq_true h]; rfl
  · rw [cmp_gt h, decide_eq_false (by omega)]; rfl

/-- The step above the magnitude of x, as a power: 2^(stepOf x - 1074). -/
def stepOf (x : Nat) : Nat := max (x % 9223372036854775808 / 4503599627370496) 1 - 1
theorem step_exp (x : Nat) (nx : x % 9223372036854775808 < 9218868437227405312) : max (expOf x) 1 = stepOf x + 1 ∧ expOf x < 2047 := by
  have e : expOf x = x % 9223372036854775808 / 4503599627370496 := by
    unfold expOf canonOf
    rw [if_neg (by omega)]
    omega
  unfold stepOf
  rw [e]
  omega
/-- What Next gives, by cases on the sign. -/
theorem next_pos (x : Nat) (h : x < 9218868437227405312) : nextOf x = x + 1 := by
  have hc : canonOf x = x := by unfold canonOf; rw [if_neg (by omega)]
  unfold nextOf
  rw [hc, if_neg (by omega), if_neg (by omega), if_neg (by omega)]
theorem next_neg (x : Nat) (h1 : 9223372036854775808 < x) (h2 : x ≤ 18442240474082181120) : nextOf x = x - 1 := by
  have hc : canonOf x = x := by unfold canonOf; rw [if_neg (by omega)]
  unfold nextOf
  rw [hc, if_neg (by omega), if_neg (by omega), if_pos (by omega)]
theorem next_nzero : nextOf 9223372036854775808 = 1 := by decide
theorem next_inf : nextOf 9218868437227405312 = 9218868437227405312 := by decide
theorem prev_one : prevOf 1 = 0 := by decide
theorem prev_pos (x : Nat) (h1 : 0 < x) (h : x < 9218868437227405312) : prevOf (x + 1) = x := by
  have hc : canonOf (x + 1) = x + 1 := by unfold canonOf; rw [if_neg (by omega)]
  unfold prevOf
  rw [hc, if_neg (by omega)]
  have e1 : flipOf (x + 1) = x + 1 + 9223372036854775808 := by unfold flipOf; rw [if_neg (by omega)]
  rw [e1, next_neg _ (by omega) (by omega)]
  unfold flipOf
  rw [if_pos (by omega)]
  omega
theorem prev_neg (x : Nat) (h1 : 9223372036854775808 < x) (h2 : x ≤ 18442240474082181120) : prevOf (x - 1) = x := by
  have hc : canonOf (x - 1) = x - 1 := by unfold canonOf; rw [if_neg (by omega)]
  unfold prevOf
  rw [hc, if_neg (by omega)]
  have e1 : flipOf (x - 1) = x - 1 - 9223372036854775808 := by unfold flipOf; rw [if_pos (by omega)]
  rw [e1, next_pos _ (by omega)]
  unfold flipOf
  rw [if_neg (by omega)]
  omega
theorem sv_pos (x : Nat) (h : x < 9223372036854775808) : sv x = (nv x : Int) := by
  unfold sv
  rw [if_neg (by omega), Nat.mod_eq_of_lt h]
theorem sv_neg (x : Nat) (h : 9223372036854775808 ≤ x) (h2 : x < 18446744073709551616) : sv x = -(nv (x - 9223372036854775808) : Int) := by
  unfold sv
  have e : x % 9223372036854775808 = x - 9223372036854775808 := by omega
  rw [if_pos h, e]
/-- Between a number and the next one there is none. -/
theorem none_between (x y : Nat) (hx : x < 18446744073709551616) (hy : y < 18446744073709551616) (nx : x % 9223372036854775808 ≤ 9218868437227405312) (hi : x ≠ 9218868437227405312)
    (h1 : FloatKind.f64.format.order x y = some .lt) (h2 : FloatKind.f64.format.order y (nextOf x) = some .lt) : False := by
  by_cases hz : x = 9223372036854775808
  · subst hz
    rw [next_nzero] at h2
    have k1 := lt_key _ _ hx hy h1
    have k2 := lt_key _ _ hy (by omega) h2
    have e1 : keyOf 9223372036854775808 = -1 := by decide
    have e2 : keyOf 1 = 1 := by decide
    rw [e1] at k1
    rw [e2] at k2
    have e3 : keyOf y = keyOf 0 := by
      have : keyOf 0 = 0 := by decide
      omega
    have e4 := (canon_key y 0 hy (by omega)).2 e3
    have e5 : canonOf 0 = 0 := by decide
    rw [e5] at e4
    have e6 : y = 0 := by
      unfold canonOf at e4
      split at e4 <;> omega
    subst e6
    revert h1
    decide
  · have k1 := lt_key _ _ hx hy h1
    have k2 := lt_key _ _ hy (next_lt hx) h2
    rw [key_next x hx nx hi hz] at k2
    omega
end Go.Proofs.YtilffgmekeeohaaDoor

namespace Go.Proofs.YtilffgmekeeohaaDoor
open Go Go.RowKit Go.IntWalk

/-- u is the least number that is not below V (the infinity, if all are). -/
def UpR (u : Nat) (V : Int) : Prop := Cn u ∧ u ≠ 18442240474082181120 ∧ (u = 9218868437227405312 ∨ V ≤ sv u) ∧ ∀ z, Cn z → z % 9223372036854775808 < 9218868437227405312 → V ≤ sv z → sv u ≤ sv z
/-- u is the greatest number that is not above V. -/
def DnR (u : Nat) (V : Int) : Prop := Cn u ∧ u ≠ 9218868437227405312 ∧ (u = 18442240474082181120 ∨ sv u ≤ V) ∧ ∀ z, Cn z → z % 9223372036854775808 < 9218868437227405312 → sv z ≤ V → sv z ≤ sv u
/-- No NaN. -/
def Nn' (x : Nat) : Prop := x < 18446744073709551616 ∧ x % 9223372036854775808 ≤ 9218868437227405312
theorem fin_lt {x : Nat} (h : x % 9223372036854775808 < 9218868437227405312) : -PI < sv x ∧ sv x < PI := by
  have := nv_lt h
  rw [pi_nv]; unfold sv; split <;> omega
theorem cn_inf {x : Nat} (h : Cn x) (hf : ¬ x % 9223372036854775808 < 9218868437227405312) : x = 9218868437227405312 ∨ x = 18442240474082181120 := by
  obtain ⟨h1, h2, h3⟩ := h
  omega
theorem UpR.uniq {u v : Nat} {V : Int} (h1 : UpR u V) (h2 : UpR v V) : u = v := by
  obtain ⟨a1, a2, a3, a4⟩ := h1
  obtain ⟨b1, b2, b3, b4⟩ := h2
  by_cases fu : u % 9223372036854775808 < 9218868437227405312
  · have ku := fin_lt fu
    have e1 : V ≤ sv u := by
      rcases a3 with k | k
      · rw [k] at fu; exact absurd fu (by decide)
      · exact k
    by_cases fv : v % 9223372036854775808 < 9218868437227405312
    · have e2 : V ≤ sv v := by
        rcases b3 with k | k
        · rw [k] at fv; exact absurd fv (by decide)
        · exact k
      have := a4 v b1 fv e2
      have := b4 u a1 fu e1
      exact cn_inj a1 b1 (by omega)
    · rcases cn_inf b1 fv with k | k
      · have := b4 u a1 fu e1
        rw [k] at this
        have e : sv 9218868437227405312 = PI := rfl
        omega
      · exact absurd k b2
  · rcases cn_inf a1 fu with k | k
    · by_cases fv : v % 9223372036854775808 < 9218868437227405312
      · have e2 : V ≤ sv v := by
          rcases b3 with j | j
          · rw [j] at fv; exact absurd fv (by decide)
          · exact j
        have := a4 v b1 fv e2
        have kv := fin_lt fv
        rw [k] at this
        have e : sv 9218868437227405312 = PI := rfl
        omega
      · rcases cn_inf b1 fv with j | j
        · rw [k, j]
        · exact absurd j b2
    · exact absurd k a2
theorem flip_cn {u : Nat} (h : Cn u) (h0 : u ≠ 0) : Cn (flipOf u) := by
  obtain ⟨h1, h2, h3⟩ := h
  refine ⟨flip6_lt h1, by rw [(flip6_md h1).1]; exact h2, ?_⟩
  unfold flipOf
  split <;> omega
theorem cn_sv0 {u : Nat} (h : Cn u) (h0 : sv u = 0) : u = 0 := cn_inj h cn_0 (by rw [h0]; decide +kernel)
/-- A rounded value has the sign of what was rounded. -/
theorem rz_sign (V : Int) : (0 ≤ V → 0 ≤ rz V) ∧ (V ≤ 0 → rz V ≤ 0) := by
  constructor
  · intro h
    unfold rz
    rw [if_neg (by omega)]
    omega
  · intro h
    by_cases c : V = 0
    · rw [c, rz_exact Fz_zero]; omega
    · unfold rz
      rw [if_pos (by omega)]
      omega
/-- What has 53 digits and is below the infinity is a number. -/
theorem rn_fin (V : Nat) (h : rnv V < nv 9218868437227405312) : rnR V < 9218868437227405312 := by
  have hw := nv_word (dN V) (stepN V (dN V) 0 false) (step_top V) (step_full V)
  have hlt : dN V * 4503599627370496 + stepN V (dN V) 0 false < 9218868437227405312 := by
    apply Classical.byContradiction
    intro c
    have h1 := nv_mono (r := 9218868437227405312) (s := dN V * 4503599627370496 + stepN V (dN V) 0 false) (by omega)
    rw [hw] at h1
    have e : rnv V = stepN V (dN V) 0 false * 2 ^ dN V := rfl
    omega
  by_cases h0 : V = 0
  · have : rnR V = 0 := by unfold rnR rndM; rw [h0, if_pos rfl]
    rw [this]; decide
  · rw [rn_min V h0]; omega
theorem fin_F (s : Bool) (V : Int) (hF : Fz V) (hb : V.natAbs < nv 9218868437227405312) (hs : V ≠ 0 → s = decide (V < 0)) : Fin64 (signN s (rnR V.natAbs)) V := by
  have e : rz V = V := rz_exact hF
  have hr : rnR V.natAbs < 9218868437227405312 := rn_fin _ (by rw [← rz_abs, e]; exact hb)
  obtain ⟨a1, _, a3⟩ := signN_mod s (rnR V.natAbs) (by omega)
  exact ⟨a3, by rw [a1]; exact hr, by rw [sv_rz s V hr hs, e]⟩
theorem Dz_mono {a b : Int} (h : a.natAbs ≤ b.natAbs) : Dz a ≤ Dz b := dN_le _ _ (Nat.lt_of_le_of_lt h (dN_hi _))
/-- The greater part taken away from the rounded sum: nothing is lost. -/
theorem back_fin (s x : Nat) (a b : Int) (hs : Fin64 s (rz (a + b))) (hx : Fin64 x a) (fb : Fz b) (h : b.natAbs ≤ a.natAbs) : ∃ r, FloatKind.f64.format.sub s x = some r ∧ Fin64 r (rz (a + b) - a) := by
  obtain ⟨s1, s2, s3⟩ := hs
  obtain ⟨x1, x2, x3⟩ := hx
  obtain ⟨g, e, hg⟩ := sub_val s x s1 x1 s2 x2
  rw [s3, x3] at e hg
  have fa : Fz a := by rw [← x3]; exact Fz_sv x
  have hF := fast_F a b fa fb (Dz_mono h)
  have ks := fin_lt s2
  have kx := fin_lt x2
  rw [s3] at ks
  rw [x3] at kx
  have sg := rz_sign (a + b)
  have hp := pi_nv
  refine ⟨_, e, fin_F g _ hF ?_ hg⟩
  by_cases c : 0 ≤ a
  · have : 0 ≤ rz (a + b) := sg.1 (by omega)
    omega
  · have : rz (a + b) ≤ 0 := sg.2 (by omega)
    omega
/-- No number lies between one and the next. -/
theorem next_least {s z : Nat} (hs : s < 18446744073709551616) (ns : s % 9223372036854775808 < 9218868437227405312) (hz : Nn' z) (h : sv s < sv z) : sv (nextOf s) ≤ sv z := by
  apply Classical.byContradiction
  intro c
  have nn := next_num s hs (by omega)
  refine none_between s z hs hz.1 (by omega) (by intro hc; rw [hc] at ns; exact absurd ns (by decide)) ?_ ?_
  · rw [order_eq s z hs hz.1 (by omega) hz.2, cmp_lt h]
  · rw [order_eq z _ hz.1 (next_lt hs) hz.2 nn, cmp_lt (by omega)]
theorem next_gt {s : Nat} (hs : s < 18446744073709551616) (ns : s % 9223372036854775808 < 9218868437227405312) : sv s < sv (nextOf s) := by
  have hc : canonOf s = s := by unfold canonOf; rw [if_neg (by omega)]
  rw [next_eq s s hc]
  rw [if_neg (by omega)]
  split
  · rename_i k
    rw [k]
    decide +kernel
  · split
    · rename_i k1 k2
      have e1 : s % 9223372036854775808 = s - 9223372036854775808 := by omega
      have e2 : (s - 1) % 9223372036854775808 = s - 9223372036854775808 - 1 := by omega
      have := nv_lt (r := s - 9223372036854775808 - 1) (s := s - 9223372036854775808) (by omega)
      unfold sv
      rw [if_pos k2, if_pos (by omega), e1, e2]
      omega
    · rename_i k1 k2
      have e1 : s % 9223372036854775808 = s := by omega
      have e2 : (s + 1) % 9223372036854775808 = s + 1 := by omega
      have := nv_lt (r := s) (s := s + 1) (by omega)
      unfold sv
      rw [if_neg k2, if_neg (by omega), e1, e2]
      omega
end Go.Proofs.YtilffgmekeeohaaDoor
