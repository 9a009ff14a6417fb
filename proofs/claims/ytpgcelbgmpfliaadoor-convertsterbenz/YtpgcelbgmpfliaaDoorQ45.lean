
/- A number that is cut off and made odd behind 53 digits is rounded to 24 as the whole one is. No program is spoken of. -/
import Derived.Test.YtpgcelbgmpfliaaDoorQ42
import Derived.Test.YtpgcelbgmpfliaaDoorQ44
import Derived.Test.YtpgcelbgmpfliaaDoorQ27
namespace Go.Proofs.YtpgcelbgmpfliaaDoor
open Go Go.RowKit Go.IntWalk

theorem nv_word (e S : Nat) (hS : S ≤ 9007199254740992) (hfull : e ≠ 0 → 4503599627370496 ≤ S) : nv (e * 4503599627370496 + S) = S * 2 ^ e := by
  unfold nv
  by_cases c : e * 4503599627370496 + S < 4503599627370496
  · have e0 : e = 0 := by
      apply Classical.byContradiction
      intro hne
      have := hfull hne
      omega
    rw [if_pos c, e0, Nat.zero_mul, Nat.zero_add, Nat.pow_zero, Nat.mul_one]
  · rw [if_neg c]
    have hS1 : 4503599627370496 ≤ S := by
      by_cases hne : e = 0
      · rw [hne] at c; omega
      · exact hfull hne
    by_cases c2 : S = 9007199254740992
    · have d1 : (e * 4503599627370496 + S) / 4503599627370496 = e + 2 := by omega
      have d2 : (e * 4503599627370496 + S) % 4503599627370496 = 0 := by omega
      rw [d1, d2, c2, Nat.add_zero, show e + 2 - 1 = e + 1 by omega, Nat.pow_succ, Nat.mul_comm (2 ^ e) 2, ← Nat.mul_assoc]
    · have d1 : (e * 4503599627370496 + S) / 4503599627370496 = e + 1 := by omega
      have d2 : (e * 4503599627370496 + S) % 4503599627370496 = S - 4503599627370496 := by omega
      rw [d1, d2, Nat.add_sub_cancel, Nat.add_sub_cancel' hS1]
theorem rn_min (V : Nat) (h0 : V ≠ 0) : rnR V = min (dN V * 4503599627370496 + stepN V (dN V) 0 false) 9218868437227405312 := by
  unfold rnR Ieee.Format.nearest
  rw [if_neg h0, fmt_fb, fmt_lp, fmt_bin, fmt_inf]
  obtain ⟨e, he⟩ : ∃ e, V.log2 - 52 = e := ⟨_, rfl⟩
  have l2 : max ((-1074 : Int) + (V.log2 : Int) - ((52 : Nat) : Int)) (-1074) = (e : Int) - 1074 := by omega
  simp only [l2]
  have t3 : ((-1074 : Int) - ((e : Int) - 1074)).toNat = 0 := by omega
  have t4 : ((e : Int) - 1074 - -1074).toNat = e := by omega
  rw [t3, t4, Nat.shiftLeft_zero, cut_is false V e (by omega), word_false]
  have hd : dN V = e := by unfold dN bitLen; rw [if_neg h0]; omega
  rw [hd]
/-- Below the steps of a number the digits are filled. -/
theorem quo_full (V : Nat) : (dN V ≠ 0 → 4503599627370496 ≤ V / 2 ^ dN V) ∧ V / 2 ^ dN V < 9007199254740992 := by
  refine ⟨fun h => ?_, ?_⟩
  · exact (Nat.le_div_iff_mul_le (Nat.two_pow_pos _)).2 (dN_lo V (by omega))
  · exact (Nat.div_lt_iff_lt_mul (Nat.two_pow_pos _)).2 (dN_hi V)
theorem step_full (V : Nat) : dN V ≠ 0 → 4503599627370496 ≤ stepN V (dN V) 0 false := by
  intro h
  have h1 := (quo_full V).1 h
  obtain ⟨_, _, _, h4⟩ := step_near V (dN V)
  rcases h4 with h4 | ⟨h4, _⟩ <;> omega
theorem rn_word (V : Nat) (hf : rnR V < 9218868437227405312) : rnR V = dN V * 4503599627370496 + stepN V (dN V) 0 false ∧ nv (rnR V) = rnv V := by
  have hw := nv_word (dN V) (stepN V (dN V) 0 false) (step_top V) (step_full V)
  by_cases h0 : V = 0
  · have e0 : rnR V = 0 := by unfold rnR; rw [h0, nearest_zero, word_false]
    have e1 : dN V = 0 := by rw [h0]; unfold dN; rw [bitLen_zero]
    have e2 : stepN V 0 0 false = 0 := by
      have := (step_near V 0).2.2.1 (by rw [Nat.pow_zero]; exact Nat.mod_one _)
      rw [Nat.pow_zero, Nat.mul_one, h0] at this
      rw [h0]; exact this
    unfold rnv
    rw [e0, e1, e2, nv_zero]
    exact ⟨rfl, by simp⟩
  · have h := rn_min V h0
    have e : rnR V = dN V * 4503599627370496 + stepN V (dN V) 0 false := by
      rw [h] at hf ⊢
      omega
    exact ⟨e, by rw [e]; exact hw⟩
theorem sv_rz (s : Bool) (V : Int) (hf : rnR V.natAbs < 9218868437227405312) (hs : V ≠ 0 → s = decide (V < 0)) : sv (signN s (rnR V.natAbs)) = rz V := by
  rw [sv_rn s V hf hs, (rn_word _ hf).2]
  rfl
/-- A finite number of a value. -/
def Fin64 (x : Nat) (v : Int) : Prop := x < 18446744073709551616 ∧ x % 9223372036854775808 < 9218868437227405312 ∧ sv x = v
theorem fin_rz (s : Bool) (V : Int) (k : Nat) (hk : k ≤ 2000) (hV : V.natAbs ≤ 2 ^ k) (hs : V ≠ 0 → s = decide (V < 0)) : Fin64 (signN s (rnR V.natAbs)) (rz V) ∧ (rz V).natAbs ≤ 2 ^ k := by
  obtain ⟨h1, h2⟩ := rn_bound V.natAbs k hV hk
  obtain ⟨a1, _, a3⟩ := signN_mod s (rnR V.natAbs) (by omega)
  refine ⟨⟨a3, by rw [a1]; exact h1, sv_rz s V h1 hs⟩, ?_⟩
  rw [rz_abs, ← (rn_word _ h1).2]
  exact h2
theorem add_fin (x y k : Nat) (a b : Int) (hk : k + 1 ≤ 2000) (hx : Fin64 x a) (hy : Fin64 y b) (ha : a.natAbs ≤ 2 ^ k) (hb : b.natAbs ≤ 2 ^ k) : ∃ r, FloatKind.f64.format.add x y = some r ∧ Fin64 r (rz (a + b)) ∧ (rz (a + b)).natAbs ≤ 2 ^ (k + 1) := by
  obtain ⟨x1, x2, rfl⟩ := hx
  obtain ⟨y1, y2, rfl⟩ := hy
  obtain ⟨s, e, hs⟩ := add_val x y x1 y1 x2 y2
  obtain ⟨f1, f2⟩ := fin_rz s _ (k + 1) hk (pow_two_add _ _ k ha hb).1 hs
  exact ⟨_, e, f1, f2⟩
theorem sub_fin (x y k : Nat) (a b : Int) (hk : k + 1 ≤ 2000) (hx : Fin64 x a) (hy : Fin64 y b) (ha : a.natAbs ≤ 2 ^ k) (hb : b.natAbs ≤ 2 ^ k) : ∃ r, FloatKind.f64.format.sub x y = some r ∧ Fin64 r (rz (a - b)) ∧ (rz (a - b)).natAbs ≤ 2 ^ (k + 1) := by
  obtain ⟨x1, x2, rfl⟩ := hx
  obtain ⟨y1, y2, rfl⟩ := hy
  obtain ⟨s, e, hs⟩ := sub_val x y x1 y1 x2 y2
  obtain ⟨f1, f2⟩ := fin_rz s _ (k + 1) hk (pow_two_add _ _ k ha hb).2 hs
  exact ⟨_, e, f1, f2⟩
/-- A number's value has 53 digits. -/
theorem Fz_nv (r : Nat) : Fz (nv r : Int) := by
  unfold nv
  split
  · exact Fz_of _ 0 (by rw [Nat.pow_zero]; exact Int.one_dvd _) (by omega)
  · refine Fz_of _ (r / 4503599627370496 - 1) (Int.ofNat_dvd_left.2 ?_) ?_
    · exact Nat.dvd_mul_left _ _
    · show (4503599627370496 + r % 4503599627370496) * 2 ^ (r / 4503599627370496 - 1) ≤ _
      exact Nat.mul_le_mul_right _ (by omega)
theorem Fz_sv (x : Nat) : Fz (sv x) := by
  unfold sv
  split
  · exact Fz_neg (Fz_nv _)
  · exact Fz_nv _
/-- Made odd in its last digit, where something is cut off. -/
def oddQ (V : Nat) : Nat := if V % 2 ^ dN V = 0 then V / 2 ^ dN V else if V / 2 ^ dN V % 2 = 1 then V / 2 ^ dN V else V / 2 ^ dN V + 1
def oddW (V : Nat) : Nat := dN V * 4503599627370496 + oddQ V
theorem oddQ_bound (V : Nat) : (dN V ≠ 0 → 4503599627370496 ≤ oddQ V) ∧ oddQ V < 9007199254740992 := by
  obtain ⟨h1, h2⟩ := quo_full V
  unfold oddQ
  refine ⟨fun h => ?_, ?_⟩
  · have := h1 h
    split
    · omega
    · split <;> omega
  · split
    · omega
    · split <;> omega
theorem oddW_val (V : Nat) : nv (oddW V) = oddQ V * 2 ^ dN V := nv_word _ _ (Nat.le_of_lt (oddQ_bound V).2) (oddQ_bound V).1
/-- The number behind the test of what was lost. -/
theorem odd_word (V : Nat) (h0 : V ≠ 0) (hf : rnR V < 9218868437227405312) (hb : dN V < 2040) :
    (rnv V = V → oddW V = rnR V) ∧ (rnv V ≠ V → rnR V % 2 = 1 → oddW V = rnR V) ∧ (rnR V % 2 ≠ 1 → rnv V < V → oddW V = rnR V + 1) ∧ (rnR V % 2 ≠ 1 → V < rnv V → oddW V + 1 = rnR V) ∧ oddW V < 9218868437227405312 ∧ oddW V ≠ 0 := by
  obtain ⟨w1, w2⟩ := rn_word V hf
  obtain ⟨q1, q2⟩ := quo_full V
  obtain ⟨b1, b2⟩ := oddQ_bound V
  obtain ⟨s1, s2, s3, s4⟩ := step_near V (dN V)
  have hA := Nat.div_add_mod V (2 ^ dN V)
  have hr := Nat.mod_lt V (Nat.two_pow_pos (dN V))
  have hv : rnv V = stepN V (dN V) 0 false * 2 ^ dN V := rfl
  rw [hv]
  have hne : oddW V ≠ 0 := by
    unfold oddW oddQ
    by_cases hd : dN V = 0
    · rw [hd, Nat.pow_zero, Nat.mod_one, if_pos rfl, Nat.div_one]
      omega
    · omega
  unfold oddW at hne ⊢
  unfold oddQ at b1 b2 hne ⊢
  have m0 : V / 2 ^ dN V * 2 ^ dN V = 2 ^ dN V * (V / 2 ^ dN V) := Nat.mul_comm _ _
  have m1 : (V / 2 ^ dN V + 1) * 2 ^ dN V = 2 ^ dN V * (V / 2 ^ dN V) + 2 ^ dN V := by rw [Nat.add_mul, Nat.one_mul, Nat.mul_comm]
  have hV : V = 2 ^ dN V * (V / 2 ^ dN V) + V % 2 ^ dN V := hA.symm
  generalize stepN V (dN V) 0 false = T at *
  generalize V / 2 ^ dN V = q at *
  generalize V % 2 ^ dN V = r at *
  generalize dN V = d at *
  generalize rnR V = W at *
  rcases s4 with s4 | ⟨s4, s5⟩
  · subst s4
    rw [m0]
    generalize 2 ^ d * T = M at *
    by_cases c : r = 0
    · rw [if_pos c] at b2 hne ⊢
      refine ⟨fun _ => by omega, fun _ _ => by omega, fun _ h => by omega, fun _ h => by omega, by omega, by omega⟩
    · rw [if_neg c] at b2 hne ⊢
      by_cases o : T % 2 = 1
      · rw [if_pos o] at b2 hne ⊢
        refine ⟨fun _ => by omega, fun _ _ => by omega, fun _ h => by omega, fun _ h => by omega, by omega, by omega⟩
      · rw [if_neg o] at b2 hne ⊢
        refine ⟨fun _ => by omega, fun _ _ => by omega, fun _ h => by omega, fun _ h => by omega, by omega, by omega⟩
  · subst s4
    rw [m1]
    rw [if_neg s5] at b2 hne ⊢
    generalize 2 ^ d * q = M at *
    generalize 2 ^ d = P at *
    by_cases o : q % 2 = 1
    · rw [if_pos o] at b2 hne ⊢
      refine ⟨fun _ => by omega, fun _ _ => by omega, fun _ h => by omega, fun _ h => by omega, by omega, by omega⟩
    · rw [if_neg o] at b2 hne ⊢
      refine ⟨fun _ => by omega, fun _ _ => by omega, fun _ h => by omega, fun _ h => by omega, by omega, by omega⟩
end Go.Proofs.YtpgcelbgmpfliaaDoor

namespace Go.Proofs.YtpgcelbgmpfliaaDoor
open Go Go.RowKit Go.IntWalk

def oddV (V : Nat) : Nat := oddQ V * 2 ^ dN V
theorem odd_half (q k : Nat) (hk : 1 ≤ k) (q' : Nat) (h : q' = q ∨ q % 2 = 0 ∧ q' = q + 1) : q' / 2 ^ k = q / 2 ^ k := by
  obtain ⟨j, rfl⟩ : ∃ j, k = j + 1 := ⟨k - 1, by omega⟩
  rw [Nat.pow_succ, Nat.mul_comm, ← Nat.div_div_eq_div_mul, ← Nat.div_div_eq_div_mul]
  have : q' / 2 = q / 2 := by omega
  rw [this]
theorem odd_rest (P q q' r k : Nat) (hP : 0 < P) (hr : r < P) (hk : 2 ≤ k) (h : r = 0 ∧ q' = q ∨ r ≠ 0 ∧ q % 2 = 1 ∧ q' = q ∨ r ≠ 0 ∧ q % 2 = 0 ∧ q' = q + 1) :
    let A := (q % 2 ^ k) * P + r
    let B := (q' % 2 ^ k) * P
    (A = 0 ↔ B = 0) ∧ (2 * A < 2 ^ k * P ↔ 2 * B < 2 ^ k * P) ∧ (2 * A = 2 ^ k * P ↔ 2 * B = 2 ^ k * P) := by
  obtain ⟨j, rfl⟩ : ∃ j, k = j + 2 := ⟨k - 2, by omega⟩
  have e2 : (2 : Nat) ^ (j + 2) = 2 ^ j * 4 := by rw [Nat.pow_add]
  rw [e2]
  have hH := Nat.two_pow_pos j
  obtain ⟨H, hHd⟩ : ∃ H, 2 ^ j = H := ⟨_, rfl⟩
  rw [hHd] at hH ⊢
  have m1 : q % (H * 4) < H * 4 := Nat.mod_lt _ (by omega)
  have m2 : q' % (H * 4) < H * 4 := Nat.mod_lt _ (by omega)
  -- the last digit of what is left is that of the number
  have p1 : q % (H * 4) % 2 = q % 2 := Nat.mod_mod_of_dvd _ ⟨H * 2, by omega⟩
  have p2 : q' % (H * 4) % 2 = q' % 2 := Nat.mod_mod_of_dvd _ ⟨H * 2, by omega⟩
  have hq' : q % 2 = 0 → (q + 1) % (H * 4) = q % (H * 4) + 1 := by
    intro h0
    have : q % (H * 4) + 1 < H * 4 := by omega
    rw [Nat.add_mod, Nat.mod_eq_of_lt (show 1 < H * 4 by omega), Nat.mod_eq_of_lt this]
  generalize ha : q % (H * 4) = a at *
  have hb : q' % (H * 4) = a ∧ (r = 0 ∨ a % 2 = 1) ∨ r ≠ 0 ∧ a % 2 = 0 ∧ q' % (H * 4) = a + 1 := by
    rcases h with ⟨h1, h2⟩ | ⟨h1, h2, h3⟩ | ⟨h1, h2, h3⟩
    · left; rw [h2]; exact ⟨ha, Or.inl h1⟩
    · left; rw [h3]; exact ⟨ha, Or.inr (by omega)⟩
    · right; rw [h3]; exact ⟨h1, by omega, hq' h2⟩
  have L : ∀ x y : Nat, x < y → x * P + P ≤ y * P := by
    intro x y hxy
    have := Nat.mul_le_mul_right P (show x + 1 ≤ y by omega)
    rw [Nat.add_mul, Nat.one_mul] at this
    exact this
  have e4 : H * 4 * P = 2 * (2 * H * P) := by rw [show H * 4 = 2 * (2 * H) by omega, Nat.mul_assoc]
  rw [e4]
  show (a * P + r = 0 ↔ q' % (H * 4) * P = 0) ∧ (2 * (a * P + r) < 2 * (2 * H * P) ↔ 2 * (q' % (H * 4) * P) < 2 * (2 * H * P)) ∧ (2 * (a * P + r) = 2 * (2 * H * P) ↔ 2 * (q' % (H * 4) * P) = 2 * (2 * H * P))
  rcases hb with ⟨hb, hc⟩ | ⟨h1, h2, hb⟩
  · rw [hb]
    rcases hc with hc | hc
    · subst hc
      exact ⟨Iff.rfl, Iff.rfl, Iff.rfl⟩
    · have a0 : P ≤ a * P := by have := Nat.mul_le_mul_right P (show 1 ≤ a by omega); omega
      rcases Nat.lt_or_ge a (2 * H) with c | c
      · have := L a (2 * H) c
        exact ⟨by omega, by omega, by omega⟩
      · have c2 : 2 * H < a := by omega
        have := L (2 * H) a c2
        exact ⟨by omega, by omega, by omega⟩
  · rw [hb, Nat.add_mul, Nat.one_mul]
    rcases Nat.lt_or_ge a (2 * H) with c | c
    · have := L (a + 1) (2 * H) (by omega)
      rw [Nat.add_mul, Nat.one_mul] at this
      exact ⟨by omega, by omega, by omega⟩
    · have := Nat.mul_le_mul_right P c
      exact ⟨by omega, by omega, by omega⟩
theorem odd_cut (V U : Nat) (hU : dN V + 2 ≤ U) : oddV V / 2 ^ U = V / 2 ^ U ∧ restN (oddV V) U = restN V U := by
  obtain ⟨k, rfl⟩ : ∃ k, U = dN V + k := ⟨U - dN V, by omega⟩
  have hA := Nat.div_add_mod V (2 ^ dN V)
  have hr := Nat.mod_lt V (Nat.two_pow_pos (dN V))
  have hp := Nat.two_pow_pos (dN V)
  unfold oddV
  have hq : oddQ V = V / 2 ^ dN V ∨ V / 2 ^ dN V % 2 = 0 ∧ oddQ V = V / 2 ^ dN V + 1 := by
    unfold oddQ
    split
    · exact Or.inl rfl
    · split
      · exact Or.inl rfl
      · exact Or.inr ⟨by omega, rfl⟩
  have hc : V % 2 ^ dN V = 0 ∧ oddQ V = V / 2 ^ dN V ∨ V % 2 ^ dN V ≠ 0 ∧ V / 2 ^ dN V % 2 = 1 ∧ oddQ V = V / 2 ^ dN V ∨ V % 2 ^ dN V ≠ 0 ∧ V / 2 ^ dN V % 2 = 0 ∧ oddQ V = V / 2 ^ dN V + 1 := by
    unfold oddQ
    by_cases c : V % 2 ^ dN V = 0
    · exact Or.inl ⟨c, by rw [if_pos c]⟩
    · by_cases o : V / 2 ^ dN V % 2 = 1
      · exact Or.inr (Or.inl ⟨c, o, by rw [if_neg c, if_pos o]⟩)
      · exact Or.inr (Or.inr ⟨c, by omega, by rw [if_neg c, if_neg o]⟩)
  have hd1 : oddQ V * 2 ^ dN V / 2 ^ (dN V + k) = oddQ V / 2 ^ k := by
    rw [Nat.pow_add, ← Nat.div_div_eq_div_mul, Nat.mul_div_cancel _ hp]
  have hd2 : V / 2 ^ (dN V + k) = V / 2 ^ dN V / 2 ^ k := by rw [Nat.pow_add, Nat.div_div_eq_div_mul]
  refine ⟨by rw [hd1, hd2]; exact odd_half _ k (by omega) _ hq, ?_⟩
  have hm1 : oddQ V * 2 ^ dN V % 2 ^ (dN V + k) = oddQ V % 2 ^ k * 2 ^ dN V := by
    rw [Nat.pow_add, Nat.mul_comm (2 ^ dN V), Nat.mul_mod_mul_right]
  have hm2 : V % 2 ^ (dN V + k) = V / 2 ^ dN V % 2 ^ k * 2 ^ dN V + V % 2 ^ dN V := by
    rw [Nat.pow_add, Nat.mod_mul, Nat.mul_comm (2 ^ dN V), Nat.add_comm]
  obtain ⟨r1, r2, r3⟩ := odd_rest (2 ^ dN V) (V / 2 ^ dN V) (oddQ V) (V % 2 ^ dN V) k hp hr (by omega) hc
  unfold restN
  have hpk : (2 : Nat) ^ (dN V + k) = 2 ^ k * 2 ^ dN V := by rw [Nat.pow_add, Nat.mul_comm]
  rw [hm1, hm2]
  have e1 : (oddQ V % 2 ^ k * 2 ^ dN V = 0) ↔ (V / 2 ^ dN V % 2 ^ k * 2 ^ dN V + V % 2 ^ dN V = 0) := r1.symm
  have e2 : (2 * (oddQ V % 2 ^ k * 2 ^ dN V) < 2 ^ (dN V + k)) ↔ (2 * (V / 2 ^ dN V % 2 ^ k * 2 ^ dN V + V % 2 ^ dN V) < 2 ^ (dN V + k)) := by rw [hpk]; exact r2.symm
  have e3 : (2 * (oddQ V % 2 ^ k * 2 ^ dN V) = 2 ^ (dN V + k)) ↔ (2 * (V / 2 ^ dN V % 2 ^ k * 2 ^ dN V + V % 2 ^ dN V) = 2 ^ (dN V + k)) := by rw [hpk]; exact r3.symm
  generalize oddQ V % 2 ^ k * 2 ^ dN V = B at *
  generalize V / 2 ^ dN V % 2 ^ k * 2 ^ dN V + V % 2 ^ dN V = C at *
  by_cases c1 : C = 0
  · rw [if_pos c1, if_pos (e1.2 c1)]
  · rw [if_neg c1, if_neg (fun h => c1 (e1.1 h))]
    by_cases c2 : 2 * C < 2 ^ (dN V + k)
    · rw [if_pos c2, if_pos (e2.2 c2)]
    · rw [if_neg c2, if_neg (fun h => c2 (e2.1 h))]
      by_cases c3 : 2 * C = 2 ^ (dN V + k)
      · rw [if_pos c3, if_pos (e3.2 c3)]
      · rw [if_neg c3, if_neg (fun h => c3 (e3.1 h))]
theorem oddV_len (V : Nat) (h0 : V ≠ 0) : bitLen (oddV V) = bitLen V ∧ oddV V ≠ 0 := by
  obtain ⟨b1, b2⟩ := oddQ_bound V
  unfold oddV
  by_cases hd : dN V = 0
  · have : oddQ V = V := by unfold oddQ; rw [hd, Nat.pow_zero, Nat.mod_one, if_pos rfl, Nat.div_one]
    rw [hd, this, Nat.pow_zero, Nat.mul_one]
    exact ⟨rfl, h0⟩
  · have b3 := b1 hd
    have hq0 : oddQ V ≠ 0 := by omega
    rw [bitLen_mul_pow _ _ hq0]
    have l1 := bitLen_le (oddQ V) 53 (by simp only [Nat.reducePow]; exact b2)
    have l2 := lt_bitLen (m := oddQ V) (k := 52) (by simp only [Nat.reducePow]; exact b3)
    have hp := Nat.two_pow_pos (dN V)
    refine ⟨by unfold dN at hd ⊢; omega, ?_⟩
    exact Nat.mul_ne_zero hq0 (by omega)
theorem odd_round (V : Nat) (mode : Int) (neg : Bool) (h0 : V ≠ 0) : nMag (oddV V) (-1074) mode neg = nMag V (-1074) mode neg ∧ rFlag 24 (-126) 127 (oddV V) (-1074) mode neg = rFlag 24 (-126) 127 V (-1074) mode neg := by
  obtain ⟨hl, hn⟩ := oddV_len V h0
  have hT : rTop (oddV V) (-1074) = rTop V (-1074) := by unfold rTop; rw [hl]
  have hU : rUnit 24 (-126) (oddV V) (-1074) = rUnit 24 (-126) V (-1074) := by unfold rUnit; rw [hT]
  obtain ⟨u, hu⟩ : ∃ u : Nat, rUnit 24 (-126) V (-1074) - -1074 = (u : Int) + 1 := ⟨(rUnit 24 (-126) V (-1074) + 1073).toNat, by unfold rUnit; omega⟩
  have hu2 : dN V + 2 ≤ u + 1 := by
    have : rUnit 24 (-126) V (-1074) = max (rTop V (-1074)) (-126) - 24 + 1 := rfl
    unfold rTop at this
    unfold dN
    omega
  obtain ⟨c1, c2⟩ := odd_cut V (u + 1) hu2
  have e1 : ((u : Int) + 1).toNat = u + 1 := by omega
  have hq : cutQ (oddV V) (rUnit 24 (-126) V (-1074) - -1074) = cutQ V (rUnit 24 (-126) V (-1074) - -1074) := by
    unfold cutQ
    rw [hu, if_neg (by omega), if_neg (by omega), e1, c1]
  have hR : cutR (oddV V) (rUnit 24 (-126) V (-1074) - -1074) = cutR V (rUnit 24 (-126) V (-1074) - -1074) := by
    unfold cutR
    rw [hu, if_neg (by omega), if_neg (by omega), e1, c2]
  have hS : rSteps 24 (-126) (oddV V) (-1074) mode neg = rSteps 24 (-126) V (-1074) mode neg := by
    unfold rSteps stepQ
    rw [hU, hq, hR]
  have hO : rOver 24 (-126) 127 (oddV V) (-1074) mode neg ↔ rOver 24 (-126) 127 V (-1074) mode neg := by unfold rOver; rw [hS, hU]
  unfold nMag rFlag
  rw [hS, hU, hR, hT]
  by_cases c : rOver 24 (-126) 127 V (-1074) mode neg
  · rw [if_pos c, if_pos (hO.2 c), if_pos c, if_pos (hO.2 c)]
    exact ⟨rfl, rfl⟩
  · rw [if_neg c, if_neg (fun d => c (hO.1 d)), if_neg c, if_neg (fun d => c (hO.1 d))]
    exact ⟨rfl, rfl⟩
/-- The narrowing of a finite number, by its value alone. -/
theorem narrow_val (s : Bool) (R : Nat) (mode : Int) (h1 : R < 9218868437227405312) (h0 : R ≠ 0) : narrowOf (signN s R) mode = signN32 s (nMag (nv R) (-1074) mode s) ∧ narrowFl (signN s R) mode = rFlag 24 (-126) 127 (nv R) (-1074) mode s := by
  obtain ⟨a1, a2, a3⟩ := signN_mod s R (by omega)
  have hf : signN s R % 9223372036854775808 < 9218868437227405312 := by rw [a1]; exact h1
  obtain ⟨v1, v2, v3, v4, v5⟩ := parts_val (signN s R) hf
  have hm : mantOf (signN s R) ≠ 0 := fun c => h0 (by rw [← a1]; exact v4.1 c)
  obtain ⟨w1, w2, w3, _⟩ := v5 hm
  rw [a1] at w3
  obtain ⟨g1, g2, g3, g4⟩ := rnd_scale 24 (-126) 127 (pMant (signN s R)) (pExp (signN s R) + 1074).toNat (pExp (signN s R)) mode s w1
  have e : pExp (signN s R) - (((pExp (signN s R) + 1074).toNat : Nat) : Int) = -1074 := by omega
  rw [e, ← w3] at g1 g2 g3 g4
  unfold narrowOf narrowFl
  rw [a1, a2, if_neg (by omega), if_neg (by omega), if_neg h0, if_neg (by omega), g3]
  refine ⟨?_, rfl⟩
  congr 1
  unfold nMag
  rw [g1, g2]
  by_cases c : rOver 24 (-126) 127 (pMant (signN s R)) (pExp (signN s R)) mode s
  · rw [if_pos c, if_pos (g4.2 c)]
  · rw [if_neg c, if_neg (fun d => c (g4.1 d))]
/-- Made odd and narrowed: the sum rounded once. -/
theorem narrow_odd (V : Nat) (s : Bool) (mode : Int) (h0 : V ≠ 0) (h1 : oddW V < 9218868437227405312) (h2 : oddW V ≠ 0) : narrowOf (signN s (oddW V)) mode = signN32 s (nMag V (-1074) mode s) ∧ narrowFl (signN s (oddW V)) mode = rFlag 24 (-126) 127 V (-1074) mode s := by
  obtain ⟨e1, e2⟩ := narrow_val s (oddW V) mode h1 h2
  have ev : nv (oddW V) = oddV V := oddW_val V
  obtain ⟨o1, o2⟩ := odd_round V mode s h0
  rw [ev] at e1 e2
  rw [e1, e2, o1, o2]
  exact ⟨rfl, rfl⟩
end Go.Proofs.YtpgcelbgmpfliaaDoor
