
/- The machine's sum of two ends, what is left of it behind the greater one, and the numbers beside: rounded up and down. -/
import Derived.Test.YtilffgmekeeohaaDoorP15
namespace Go.Proofs.YtilffgmekeeohaaDoor
open Go Go.RowKit Go.IntWalk

theorem inf_sub {x : Nat} (hx : x < 18446744073709551616) (fx : x % 9223372036854775808 < 9218868437227405312) : FloatKind.f64.format.sub 9218868437227405312 x = some 9218868437227405312 ∧ FloatKind.f64.format.sub 18442240474082181120 x = some 18442240474082181120 := by
  obtain ⟨m, p, ex, _⟩ := read_fin x hx fx
  unfold Ieee.Format.sub
  rw [ex]
  exact ⟨rfl, rfl⟩
theorem max_fin {z : Nat} (h : z % 9223372036854775808 < 9218868437227405312) : -sv 9218868437227405311 ≤ sv z ∧ sv z ≤ sv 9218868437227405311 := by
  have em : sv 9218868437227405311 = (nv 9218868437227405311 : Int) := by unfold sv; rw [if_neg (by decide)]
  have hm := nv_mono (show z % 9223372036854775808 ≤ 9218868437227405311 by omega)
  rw [em]; unfold sv; split <;> omega
/-- A sum that is rounded to an infinity is beyond all numbers. -/
theorem rz_beyond (V : Int) (h : ¬ rnR V.natAbs < 9218868437227405312) : (0 < V → sv 9218868437227405311 < V) ∧ (V < 0 → V < -sv 9218868437227405311) ∧ V ≠ 0 := by
  have hr : ¬ rnv V.natAbs < nv 9218868437227405312 := fun c => h (rn_fin _ c)
  rw [← rz_abs] at hr
  have hp := pi_nv
  have sg := rz_sign V
  have hm := svmax
  have h1 := rz_near V (sv 9218868437227405311) (Fz_sv _)
  have h2 := rz_near V (-sv 9218868437227405311) (Fz_neg (Fz_sv _))
  have hmp : 0 < sv 9218868437227405311 := by decide +kernel
  have hpp := pi_pos
  refine ⟨fun c => ?_, fun c => ?_, fun c => ?_⟩
  · have := sg.1 (by omega)
    omega
  · have := sg.2 (by omega)
    omega
  · rw [c] at hr
    rw [rz_exact Fz_zero] at hr
    have : 0 < nv 9218868437227405312 := by omega
    exact hr this
theorem add_null {x y : Nat} (hx : x < 18446744073709551616) (hy : y < 18446744073709551616) (hz : ¬ (x = 9223372036854775808 ∧ y = 9223372036854775808)) (fx : x % 9223372036854775808 < 9218868437227405312) (fy : y % 9223372036854775808 < 9218868437227405312) (h : sv x + sv y = 0) : FloatKind.f64.format.add x y = some 0 := by
  obtain ⟨m, p, ex, vx⟩ := read_fin x hx fx
  obtain ⟨n, q, ey, vy⟩ := read_fin y hy fy
  unfold Ieee.Format.add
  rw [ex, ey]
  obtain ⟨mag, b, e, hv⟩ := sum_val _ _ m n p q (sv x) (sv y) (sv_form x m p vx) (sv_form y n q vy)
  rw [e, if_pos h]
  have hm0 : mag = 0 := by
    rw [h] at hv
    rcases Nat.mul_eq_zero.1 (show mag * 2 ^ b = 0 from hv) with k | k
    · exact k
    · have := Nat.two_pow_pos b; omega
  have hs : (decide (9223372036854775808 ≤ x) && decide (9223372036854775808 ≤ y)) = false := by
    by_cases c1 : 9223372036854775808 ≤ x
    · by_cases c2 : 9223372036854775808 ≤ y
      · exfalso
        unfold sv at h
        rw [if_pos c1, if_pos c2] at h
        have k0 := nv_0
        have n1 : nv (x % 9223372036854775808) = nv 0 := by omega
        have n2 : nv (y % 9223372036854775808) = nv 0 := by omega
        have m1 := inv_inj n1
        have m2 := inv_inj n2
        exact hz ⟨by omega, by omega⟩
      · rw [decide_eq_false c2, Bool.and_false]
    · rw [decide_eq_false c1, Bool.false_and]
  show some (FloatKind.f64.format.nearest _ mag ((b : Int) - 1074)) = some 0
  rw [hm0, nearest_zero, hs, word_false]
theorem ord_lt {x y : Nat} (hx : Nn' x) (hy : Nn' y) : (FloatKind.f64.format.order x y == some .lt) = decide (sv x < sv y) ∧ (FloatKind.f64.format.order x y == some .gt) = decide (sv y < sv x) := by
  rw [order_eq x y hx.1 hy.1 hx.2 hy.2]
  rcases Int.lt_trichotomy (sv x) (sv y) with c | c | c
  · rw [cmp_lt c, decide_eq_true c, decide_eq_false (by omega)]; exact ⟨rfl, rfl⟩
  · rw [cmp_eq c, decide_eq_false (by omega), decide_eq_false (by omega)]; exact ⟨rfl, rfl⟩
  · rw [cmp_gt c, decide_eq_false (by omega), decide_eq_true c]; exact ⟨rfl, rfl⟩
theorem cn_nn' {x : Nat} (h : Cn x) : Nn' x := ⟨h.1, h.2.1⟩
/-- The nearest number, on the right side of V or not. -/
theorem up_near {s : Nat} {V : Int} (hc : Cn s) (hs : Fin64 s (rz V)) (h : V ≤ rz V) : UpR s V := by
  obtain ⟨s1, s2, s3⟩ := hs
  refine ⟨hc, by intro k; rw [k] at s2; exact absurd s2 (by decide), Or.inr (by rw [s3]; exact h), fun z _ _ hv => ?_⟩
  have := rz_near V (sv z) (Fz_sv z)
  rw [s3]
  omega
theorem dn_near {s : Nat} {V : Int} (hc : Cn s) (hs : Fin64 s (rz V)) (h : rz V ≤ V) : DnR s V := by
  obtain ⟨s1, s2, s3⟩ := hs
  refine ⟨hc, by intro k; rw [k] at s2; exact absurd s2 (by decide), Or.inr (by rw [s3]; exact h), fun z _ _ hv => ?_⟩
  have := rz_near V (sv z) (Fz_sv z)
  rw [s3]
  omega
theorem Fz_one : Fz 1 := Fz_of 1 0 (by rw [Nat.pow_zero]; exact Int.one_dvd _) (by decide)
theorem up_next {s : Nat} {V : Int} (hs : Fin64 s (rz V)) (h : rz V < V) : UpR (nextOf s) V := by
  obtain ⟨s1, s2, s3⟩ := hs
  have nn := next_num s s1 (by omega)
  have nl := next_lt s1
  have hg := next_gt s1 s2
  rw [s3] at hg
  have sg := rz_sign V
  have h0 : rz V ≠ 0 := fun c => by
    have := rz_near V 1 Fz_one
    omega
  have h1 : rz V ≠ -1 := fun c => by
    by_cases k : 0 ≤ V
    · have := sg.1 k; omega
    · omega
  have hcn : Cn (nextOf s) := by
    refine ⟨nl, nn, fun k => ?_⟩
    have hc : canonOf s = s := by unfold canonOf; rw [if_neg (by omega)]
    rw [next_eq s s hc] at k
    rw [if_neg (by omega)] at k
    split at k
    · exact absurd k (by decide)
    · split at k
      · have : s = 9223372036854775809 := by omega
        rw [this] at s3
        apply h1
        rw [← s3]
        decide +kernel
      · omega
  refine ⟨hcn, ?_, ?_, fun z hz hf hv => ?_⟩
  · intro k
    rw [k] at hg
    have := fin_lt s2
    rw [s3] at this
    rw [pi_neg] at hg
    omega
  · by_cases k : nextOf s % 9223372036854775808 < 9218868437227405312
    · right
      have := rz_near V (sv (nextOf s)) (Fz_sv _)
      omega
    · rcases cn_inf hcn k with j | j
      · exact Or.inl j
      · exfalso
        rw [j, pi_neg] at hg
        have := fin_lt s2
        rw [s3] at this
        omega
  · exact next_least s1 s2 (cn_nn' hz) (by rw [s3]; omega)
theorem rz_neg (V : Int) : rz (-V) = -rz V := by
  unfold rz
  rw [Int.natAbs_neg]
  rcases Int.lt_trichotomy V 0 with c | c | c
  · rw [if_neg (by omega), if_pos c]; omega
  · have e : rnv V.natAbs = 0 := by
      have := rz_exact Fz_zero
      rw [c]
      unfold rz at this
      rw [if_neg (by omega)] at this
      have h2 : (Int.natAbs 0) = 0 := rfl
      omega
    rw [e]
    split <;> split <;> rfl
  · rw [if_pos (by omega), if_neg (by omega)]
theorem up_dn_flip {n : Nat} {V : Int} (h : UpR n (-V)) (h0 : n ≠ 0) : DnR (flipOf n) V := by
  obtain ⟨a1, a2, a3, a4⟩ := h
  have hs := flip6_sv a1.1
  refine ⟨flip_cn a1 h0, ?_, ?_, fun z hz hf hv => ?_⟩
  · intro k
    apply a2
    unfold flipOf at k
    split at k <;> omega
  · rcases a3 with k | k
    · left
      rw [k]
      decide
    · right
      rw [hs]; omega
  · rw [hs]
    by_cases k : z = 0
    · have e : sv 0 = 0 := by decide +kernel
      have := a4 z hz hf (by rw [k, e]; rw [k, e] at hv; omega)
      rw [k, e] at this ⊢
      omega
    · have := a4 (flipOf z) (flip_cn hz k) (by rw [(flip6_md hz.1).1]; exact hf) (by rw [flip6_sv hz.1]; omega)
      rw [flip6_sv hz.1] at this
      omega
theorem prev_is {s : Nat} (ns : s % 9223372036854775808 ≤ 9218868437227405312) : prevOf s = flipOf (nextOf (flipOf s)) := by
  have hc : canonOf s = s := by unfold canonOf; rw [if_neg (by omega)]
  unfold prevOf
  rw [hc, if_neg (by omega)]
theorem dn_prev {s : Nat} {V : Int} (hs : Fin64 s (rz V)) (h : V < rz V) : DnR (prevOf s) V := by
  obtain ⟨s1, s2, s3⟩ := hs
  rw [prev_is (by omega)]
  have hf : Fin64 (flipOf s) (rz (-V)) := ⟨flip6_lt s1, by rw [(flip6_md s1).1]; exact s2, by rw [flip6_sv s1, s3, rz_neg]⟩
  refine up_dn_flip (up_next hf (by rw [rz_neg]; omega)) ?_
  have hc : canonOf (flipOf s) = flipOf s := by unfold canonOf; rw [if_neg (by have := hf.2.1; omega)]
  rw [next_eq _ _ hc]
  have := hf.1
  split
  · rename_i k; omega
  · split
    · decide
    · split <;> omega
/-- What interval's sum of two finite ends comes to, either way. -/
theorem sum_core (x y : Nat) (hx : x < 18446744073709551616) (hy : y < 18446744073709551616) (hz : ¬ (x = 9223372036854775808 ∧ y = 9223372036854775808)) (fx : x % 9223372036854775808 < 9218868437227405312) (fy : y % 9223372036854775808 < 9218868437227405312) (h : (sv y).natAbs ≤ (sv x).natAbs) :
    ∃ s r, FloatKind.f64.format.add x y = some s ∧ FloatKind.f64.format.sub s x = some r ∧ s < 18446744073709551616 ∧
      UpR (if (FloatKind.f64.format.order r y == some .lt) = true then nextOf s else s) (sv x + sv y) ∧ DnR (if (FloatKind.f64.format.order r y == some .gt) = true then prevOf s else s) (sv x + sv y) := by
  obtain ⟨g, e, hg⟩ := add_val x y hx hy fx fy
  obtain ⟨V, hV⟩ : ∃ V, sv x + sv y = V := ⟨_, rfl⟩
  rw [hV] at e hg ⊢
  by_cases hr : rnR V.natAbs < 9218868437227405312
  · obtain ⟨a1, a2, a3⟩ := signN_mod g (rnR V.natAbs) (by omega)
    obtain ⟨s, hs⟩ : ∃ s, signN g (rnR V.natAbs) = s ∧ (V = 0 → s = 0) := by
      by_cases c : V = 0
      · have := add_null hx hy hz fx fy (by rw [hV]; exact c)
        rw [e] at this
        exact ⟨_, rfl, fun _ => Option.some.inj this⟩
      · exact ⟨_, rfl, fun k => absurd k c⟩
    have hF : Fin64 s (rz V) := by
      rw [← hs.1]
      exact ⟨a3, by rw [a1]; exact hr, sv_rz g V hr hg⟩
    rw [hs.1] at e
    have hcn : Cn s := by
      refine ⟨hF.1, by have := hF.2.1; omega, fun k => ?_⟩
      have e0 : sv s = 0 := by rw [k]; decide +kernel
      rw [hF.2.2] at e0
      have h1 := rz_near V 1 Fz_one
      have h2 := rz_near V (-1) (Fz_neg Fz_one)
      have : V = 0 := by omega
      have := hs.2 this
      rw [k] at this
      exact absurd this (by decide)
    obtain ⟨r, er, fr⟩ := back_fin s x (sv x) (sv y) (by rw [hV]; exact hF) ⟨hx, fx, rfl⟩ (Fz_sv y) h
    rw [hV] at fr
    obtain ⟨o1, o2⟩ := ord_lt (x := r) (y := y) ⟨fr.1, by have := fr.2.1; omega⟩ ⟨hy, by omega⟩
    rw [fr.2.2] at o1 o2
    refine ⟨s, r, e, er, hF.1, ?_, ?_⟩
    · rw [o1]
      by_cases c : rz V - sv x < sv y
      · rw [if_pos (decide_eq_true c)]
        exact up_next hF (by omega)
      · rw [if_neg (by rw [decide_eq_false c]; decide)]
        exact up_near hcn hF (by omega)
    · rw [o2]
      by_cases c : sv y < rz V - sv x
      · rw [if_pos (decide_eq_true c)]
        exact dn_prev hF (by omega)
      · rw [if_neg (by rw [decide_eq_false c]; decide)]
        exact dn_near hcn hF (by omega)
  · obtain ⟨b1, b2, b3⟩ := rz_beyond V hr
    have hinf : rnR V.natAbs = 9218868437227405312 := by
      have := (near_rnd false V.natAbs (-1074)).2
      unfold rnR at hr ⊢
      omega
    have hg := hg b3
    have nmx : Cn 9218868437227405311 := ⟨by decide, by decide, by decide⟩
    have nmn : Cn 18442240474082181119 := ⟨by decide, by decide, by decide⟩
    rcases Int.lt_trichotomy V 0 with c | c | c
    · rw [hg, decide_eq_true c, hinf] at e
      have es : signN true 9218868437227405312 = 18442240474082181120 := by decide
      rw [es] at e
      have ho := ord_lt (x := 18442240474082181120) (y := y) ⟨by decide, by decide⟩ ⟨hy, by omega⟩
      have ky := fin_lt fy
      rw [pi_neg] at ho
      have hb := b2 c
      refine ⟨_, _, e, (inf_sub hx fx).2, by decide, ?_, ?_⟩
      · rw [ho.1, if_pos (decide_eq_true ky.1)]
        have en : nextOf 18442240474082181120 = 18442240474082181119 := by decide
        rw [en]
        refine ⟨nmn, by decide, Or.inr (by rw [svmin]; omega), fun z _ hf _ => ?_⟩
        rw [svmin]
        exact (max_fin hf).1
      · rw [ho.2, if_neg (by rw [decide_eq_false (by omega)]; decide)]
        refine ⟨cn_ni, by decide, Or.inl rfl, fun z _ hf hv => ?_⟩
        have := (max_fin hf).1
        omega
    · exact absurd c b3
    · rw [hg, decide_eq_false (by omega), hinf] at e
      have es : signN false 9218868437227405312 = 9218868437227405312 := by decide
      rw [es] at e
      have ho := ord_lt (x := 9218868437227405312) (y := y) ⟨by decide, by decide⟩ ⟨hy, by omega⟩
      have ky := fin_lt fy
      have ep : sv 9218868437227405312 = PI := rfl
      rw [ep] at ho
      have hb := b1 c
      refine ⟨_, _, e, (inf_sub hx fx).1, by decide, ?_, ?_⟩
      · rw [ho.1, if_neg (by rw [decide_eq_false (by omega)]; decide)]
        refine ⟨cn_pi, by decide, Or.inl rfl, fun z _ hf hv => ?_⟩
        have := (max_fin hf).2
        omega
      · rw [ho.2, if_pos (decide_eq_true ky.2)]
        have en : prevOf 9218868437227405312 = 9218868437227405311 := by decide
        rw [en]
        refine ⟨nmx, by decide, Or.inr (by omega), fun z _ hf _ => ?_⟩
        exact (max_fin hf).2
end Go.Proofs.YtilffgmekeeohaaDoor
