
/- Knuth's sum of two in whole numbers, and the machine's sums and differences of finite numbers by their values. No program is spoken of. (Written by mkrzp.py.) -/
import Derived.Test.YthakhmnlpmfdgaaP12
namespace Go.Proofs.Ythakhmnlpmfdgaa
open Go Go.RowKit Go.IntWalk

/-- The steps of 2^S in A, rounded. -/
def stepN (A S : Nat) (mode : Int) (neg : Bool) : Nat := A / 2 ^ S + if restN A S ≠ 0 ∧ growsOf mode neg (decide (A / 2 ^ S % 2 = 1)) (restN A S) = true then 1 else 0
theorem stepQ_nat (A S : Nat) : stepQ A (S : Int) 0 false = stepN A S 0 false := by unfold stepQ stepN; rw [cutQ_nat, cutR_nat]
/-- By how many digits a number is too long for 53. -/
def dN (V : Nat) : Nat := bitLen V - 53
def rnv (V : Nat) : Nat := stepN V (dN V) 0 false * 2 ^ dN V
theorem dN_hi (V : Nat) : V < 9007199254740992 * 2 ^ dN V := by
  have h := bitLen_hi V
  have h2 : (2 : Nat) ^ bitLen V ≤ 2 ^ (53 + dN V) := Nat.pow_le_pow_right (by decide) (by unfold dN; omega)
  rw [Nat.pow_add, show (2 : Nat) ^ 53 = 9007199254740992 by decide] at h2
  omega
theorem dN_lo (V : Nat) (h : 0 < dN V) : 4503599627370496 * 2 ^ dN V ≤ V := by
  have h0 : V ≠ 0 := by
    rintro rfl
    unfold dN at h
    rw [bitLen_zero] at h
    omega
  have h1 := bitLen_lo h0
  have e : bitLen V - 1 = 52 + dN V := by unfold dN at h ⊢; omega
  rw [e, Nat.pow_add, show (2 : Nat) ^ 52 = 4503599627370496 by decide] at h1
  exact h1
theorem dN_le (V g : Nat) (h : V < 9007199254740992 * 2 ^ g) : dN V ≤ g := by
  have := bitLen_le V (53 + g) (by rw [Nat.pow_add, show (2 : Nat) ^ 53 = 9007199254740992 by decide]; exact h)
  unfold dN
  omega
theorem dN_ge (V g : Nat) (h : 4503599627370496 * 2 ^ g ≤ V) : g ≤ dN V := by
  have := lt_bitLen (m := V) (k := 52 + g) (by rw [Nat.pow_add, show (2 : Nat) ^ 52 = 4503599627370496 by decide]; exact h)
  unfold dN
  omega
theorem step_near (A S : Nat) : 2 * (stepN A S 0 false * 2 ^ S) ≤ 2 * A + 2 ^ S ∧ 2 * A ≤ 2 * (stepN A S 0 false * 2 ^ S) + 2 ^ S ∧ (A % 2 ^ S = 0 → stepN A S 0 false * 2 ^ S = A) ∧ (stepN A S 0 false = A / 2 ^ S ∨ stepN A S 0 false = A / 2 ^ S + 1 ∧ A % 2 ^ S ≠ 0) := by
  have hA := Nat.div_add_mod A (2 ^ S)
  have hr := Nat.mod_lt A (Nat.two_pow_pos S)
  unfold stepN restN
  obtain ⟨P, hP⟩ : ∃ P, 2 ^ S = P := ⟨_, rfl⟩
  rw [hP] at hA hr ⊢
  obtain ⟨q, hq⟩ : ∃ q, A / P = q := ⟨_, rfl⟩
  obtain ⟨r, hr'⟩ : ∃ r, A % P = r := ⟨_, rfl⟩
  rw [hq, hr'] at hA ⊢
  rw [hr'] at hr
  have m1 : (q + 1) * P = P * q + P := by rw [Nat.add_mul, Nat.one_mul, Nat.mul_comm]
  have m0 : (q + 0) * P = P * q := by rw [Nat.add_zero, Nat.mul_comm]
  by_cases c0 : r = 0
  · rw [if_pos c0, if_neg (by simp), m0]
    refine ⟨by omega, by omega, fun _ => by omega, Or.inl rfl⟩
  · rw [if_neg c0]
    by_cases c1 : 2 * r < P
    · rw [if_pos c1, if_neg (by unfold growsOf; simp), m0]
      exact ⟨by omega, by omega, fun c => absurd c c0, Or.inl rfl⟩
    · rw [if_neg c1]
      by_cases c2 : 2 * r = P
      · rw [if_pos c2]
        split
        · rw [m1]; exact ⟨by omega, by omega, fun c => absurd c c0, Or.inr ⟨rfl, c0⟩⟩
        · rw [m0]; exact ⟨by omega, by omega, fun c => absurd c c0, Or.inl rfl⟩
      · rw [if_neg c2, if_pos (by unfold growsOf; simp), m1]
        exact ⟨by omega, by omega, fun c => absurd c c0, Or.inr ⟨rfl, c0⟩⟩
theorem step_top (V : Nat) : stepN V (dN V) 0 false ≤ 9007199254740992 := by
  have h1 := (step_near V (dN V)).1
  have h2 := dN_hi V
  have hp := Nat.two_pow_pos (dN V)
  obtain ⟨P, hP⟩ : ∃ P, 2 ^ dN V = P := ⟨_, rfl⟩
  obtain ⟨T, hT⟩ : ∃ T, stepN V (dN V) 0 false = T := ⟨_, rfl⟩
  rw [hP] at h1 h2 hp
  rw [hT] at h1 ⊢
  apply Classical.byContradiction
  intro c
  have : 9007199254740993 * P ≤ T * P := Nat.mul_le_mul_right _ (by omega)
  omega

def rz (v : Int) : Int := if v < 0 then -((rnv v.natAbs : Nat) : Int) else ((rnv v.natAbs : Nat) : Int)
def Dz (v : Int) : Nat := dN v.natAbs
/-- A number of 53 digits. -/
def Fz (v : Int) : Prop := ((2 ^ Dz v : Nat) : Int) ∣ v
theorem pow_dvd {a b : Nat} (h : a ≤ b) : ((2 ^ a : Nat) : Int) ∣ ((2 ^ b : Nat) : Int) := Int.natCast_dvd_natCast.2 (Nat.pow_dvd_pow 2 h)
theorem Fz_of (v : Int) (g : Nat) (hd : ((2 ^ g : Nat) : Int) ∣ v) (hb : v.natAbs ≤ 9007199254740992 * 2 ^ g) : Fz v := by
  unfold Fz Dz
  by_cases c : v.natAbs < 9007199254740992 * 2 ^ g
  · exact Int.dvd_trans (pow_dvd (dN_le _ g c)) hd
  · have e : v.natAbs = 2 ^ (g + 1) * 4503599627370496 := by rw [Nat.pow_succ]; omega
    have hp := Nat.two_pow_pos g
    have h1 : dN v.natAbs ≤ g + 1 := dN_le _ _ (by rw [Nat.pow_succ]; omega)
    refine Int.dvd_trans (pow_dvd h1) (Int.ofNat_dvd_left.2 ?_)
    rw [e]
    exact Nat.dvd_mul_right _ _
theorem Fz_zero : Fz 0 := by unfold Fz; exact Int.dvd_zero _
theorem Fz_neg {v : Int} (h : Fz v) : Fz (-v) := by
  unfold Fz Dz at h ⊢
  rw [Int.natAbs_neg]
  exact (Int.dvd_neg).2 h
theorem Dz_neg (v : Int) : Dz (-v) = Dz v := by unfold Dz; rw [Int.natAbs_neg]
theorem rz_abs (v : Int) : (rz v).natAbs = rnv v.natAbs := by unfold rz; split <;> omega
theorem rz_dvd (v : Int) : ((2 ^ Dz v : Nat) : Int) ∣ rz v := by
  refine Int.ofNat_dvd_left.2 ?_
  rw [rz_abs]
  unfold rnv Dz
  exact Nat.dvd_mul_left _ _
theorem rz_F (v : Int) : Fz (rz v) := by
  refine Fz_of _ (Dz v) (rz_dvd v) ?_
  rw [rz_abs]
  unfold rnv Dz
  exact Nat.mul_le_mul_right _ (step_top _)
theorem rz_err (v : Int) : 2 * (rz v - v).natAbs ≤ 2 ^ Dz v := by
  obtain ⟨h1, h2, _, _⟩ := step_near v.natAbs (dN v.natAbs)
  unfold rz Dz rnv
  generalize stepN v.natAbs (dN v.natAbs) 0 false * 2 ^ dN v.natAbs = T at *
  generalize 2 ^ dN v.natAbs = P at *
  split <;> omega
theorem rz_exact {v : Int} (h : Fz v) : rz v = v := by
  have hd : 2 ^ dN v.natAbs ∣ v.natAbs := Int.ofNat_dvd_left.1 h
  obtain ⟨_, _, h3, _⟩ := step_near v.natAbs (dN v.natAbs)
  have := h3 (Nat.mod_eq_zero_of_dvd hd)
  unfold rz rnv
  rw [this]
  split <;> omega
theorem rz_near_grid (v f : Int) (hf : ((2 ^ Dz v : Nat) : Int) ∣ f) : (rz v - v).natAbs ≤ (f - v).natAbs := by
  have h1 := rz_err v
  obtain ⟨a, ha⟩ := rz_dvd v
  obtain ⟨b, hb⟩ := hf
  have hp : 0 < 2 ^ Dz v := Nat.two_pow_pos _
  generalize 2 ^ Dz v = P at *
  by_cases c : a = b
  · rw [hb, ha, c]
    exact Nat.le_refl _
  · have hd : f - rz v = (P : Int) * (b - a) := by rw [hb, ha, Int.mul_sub]
    have hn : (f - rz v).natAbs = P * (b - a).natAbs := by rw [hd, Int.natAbs_mul]; rfl
    have h2 : P * 1 ≤ P * (b - a).natAbs := Nat.mul_le_mul_left _ (by omega)
    omega
theorem rz_near (v f : Int) (hf : Fz f) : (rz v - v).natAbs ≤ (f - v).natAbs := by
  by_cases c : Dz v ≤ Dz f
  · exact rz_near_grid v f (Int.dvd_trans (pow_dvd c) hf)
  · have h1 := dN_hi f.natAbs
    have h2 := dN_lo v.natAbs (show 0 < dN v.natAbs by unfold Dz at c; omega)
    have h3 : 2 ^ (Dz f + 1) ≤ 2 ^ Dz v := Nat.pow_le_pow_right (by decide) (by omega)
    rw [Nat.pow_succ] at h3
    have h4 := rz_near_grid v (if v < 0 then -(((4503599627370496 : Nat) : Int) * ((2 ^ Dz v : Nat) : Int)) else ((4503599627370496 : Nat) : Int) * ((2 ^ Dz v : Nat) : Int)) (by
      split
      · exact (Int.dvd_neg).2 (Int.dvd_mul_left _ _)
      · exact Int.dvd_mul_left _ _)
    unfold Dz at h3 h4
    generalize 2 ^ dN v.natAbs = P at *
    generalize 2 ^ dN f.natAbs = Q at *
    refine Nat.le_trans h4 ?_
    split <;> omega
theorem err_half (a b : Int) (ha : Fz a) (hb : Fz b) (h : Dz a ≤ Dz b) : Fz (a + b - rz (a + b)) := by
  have hs : ((2 ^ Dz a : Nat) : Int) ∣ a + b := Int.dvd_add ha (Int.dvd_trans (pow_dvd h) hb)
  by_cases c : Dz (a + b) ≤ Dz a
  · have : Fz (a + b) := Int.dvd_trans (pow_dvd c) hs
    rw [rz_exact this, Int.sub_self]
    exact Fz_zero
  · refine Fz_of _ (Dz a) (Int.dvd_sub hs (Int.dvd_trans (pow_dvd (by omega)) (rz_dvd (a + b)))) ?_
    have h1 := rz_near (a + b) b hb
    have h2 := dN_hi a.natAbs
    unfold Dz
    generalize 2 ^ dN a.natAbs = P at *
    omega
theorem err_F (a b : Int) (ha : Fz a) (hb : Fz b) : Fz (a + b - rz (a + b)) := by
  by_cases c : Dz a ≤ Dz b
  · exact err_half a b ha hb c
  · rw [Int.add_comm a b]
    exact err_half b a hb ha (by omega)
theorem fast_F (a b : Int) (ha : Fz a) (hb : Fz b) (h : Dz b ≤ Dz a) : Fz (rz (a + b) - a) := by
  have hs : ((2 ^ Dz b : Nat) : Int) ∣ a + b := Int.dvd_add (Int.dvd_trans (pow_dvd h) ha) hb
  by_cases c : Dz (a + b) ≤ Dz b
  · have : Fz (a + b) := Int.dvd_trans (pow_dvd c) hs
    rw [rz_exact this, show a + b - a = b by omega]
    exact hb
  · have he := rz_err (a + b)
    have hbh := dN_hi b.natAbs
    by_cases c2 : Dz (a + b) < Dz a
    · refine Fz_of _ (Dz (a + b)) (Int.dvd_sub (rz_dvd _) (Int.dvd_trans (pow_dvd (by omega)) ha)) ?_
      have h3 : 2 ^ (Dz b + 1) ≤ 2 ^ Dz (a + b) := Nat.pow_le_pow_right (by decide) (by omega)
      rw [Nat.pow_succ] at h3
      have e : Dz b = dN b.natAbs := rfl
      rw [← e] at hbh
      generalize 2 ^ Dz b = Q at *
      generalize 2 ^ Dz (a + b) = P at *
      omega
    · refine Fz_of _ (Dz a) (Int.dvd_sub (Int.dvd_trans (pow_dvd (by omega)) (rz_dvd _)) ha) ?_
      have hah := dN_hi a.natAbs
      have hg : Dz (a + b) ≤ Dz a + 1 := by
        refine dN_le _ _ ?_
        have h3 : 2 ^ dN b.natAbs ≤ 2 ^ dN a.natAbs := Nat.pow_le_pow_right (by decide) h
        show (a + b).natAbs < 9007199254740992 * 2 ^ (dN a.natAbs + 1)
        rw [Nat.pow_succ]
        generalize 2 ^ dN b.natAbs = Q at *
        generalize 2 ^ dN a.natAbs = P at *
        omega
      have h4 : 2 ^ Dz (a + b) ≤ 2 ^ (Dz a + 1) := Nat.pow_le_pow_right (by decide) hg
      rw [Nat.pow_succ] at h4
      have hb2 : b.natAbs + 2 ^ Dz a ≤ 9007199254740992 * 2 ^ Dz a := by
        by_cases c3 : Dz b = Dz a
        · have hd : 2 ^ Dz b ∣ b.natAbs := Int.ofNat_dvd_left.1 hb
          rw [c3] at hd
          obtain ⟨k, hk⟩ := hd
          have e : dN b.natAbs = Dz a := c3
          rw [e, hk, Nat.mul_comm] at hbh
          have hk2 : k < 9007199254740992 := Nat.lt_of_mul_lt_mul_right hbh
          rw [hk]
          have : 2 ^ Dz a * k + 2 ^ Dz a = 2 ^ Dz a * (k + 1) := by rw [Nat.mul_add, Nat.mul_one]
          rw [this, Nat.mul_comm]
          exact Nat.mul_le_mul_right _ (by omega)
        · have h3 : 2 ^ (Dz b + 1) ≤ 2 ^ Dz a := Nat.pow_le_pow_right (by decide) (by omega)
          rw [Nat.pow_succ] at h3
          have e : Dz b = dN b.natAbs := rfl
          rw [← e] at hbh
          generalize 2 ^ Dz b = Q at *
          generalize 2 ^ Dz a = P at *
          omega
      generalize 2 ^ Dz (a + b) = Q at *
      generalize 2 ^ Dz a = P at *
      omega
/-- What is lost in a sum, by five more steps. -/
theorem two_sum (x y : Int) (hx : Fz x) (hy : Fz y) : rz (rz (x - rz (rz (x + y) - rz (rz (x + y) - x))) + rz (y - rz (rz (x + y) - x))) = x + y - rz (x + y) ∧ Fz (x + y - rz (x + y)) := by
  have hE := err_F x y hx hy
  refine ⟨?_, hE⟩
  obtain ⟨s, hs⟩ : ∃ s, rz (x + y) = s := ⟨_, rfl⟩
  have hsF : Fz s := hs ▸ rz_F _
  by_cases hA : Fz (s - x)
  · rw [hs] at hE ⊢
    rw [rz_exact hA, show s - (s - x) = x by omega, rz_exact hx, Int.sub_self, rz_exact Fz_zero, show y - (s - x) = x + y - s by omega, rz_exact hE, Int.zero_add, rz_exact hE]
  · have hlt : Dz x < Dz y := by
      apply Classical.byContradiction
      intro c
      have := fast_F x y hx hy (by omega)
      rw [hs] at this
      exact hA this
    have hbx := dN_hi x.natAbs
    have hby := dN_hi y.natAbs
    have hly := dN_lo y.natAbs (show 0 < dN y.natAbs by have : Dz y = dN y.natAbs := rfl; omega)
    have he := rz_err (x + y)
    have hxy : ((2 ^ Dz x : Nat) : Int) ∣ x + y := Int.dvd_add hx (Int.dvd_trans (pow_dvd (by omega)) hy)
    have hnE : ¬ Dz (x + y) ≤ Dz x := by
      intro c
      have : Fz (x + y) := Int.dvd_trans (pow_dvd c) hxy
      have e := rz_exact this
      rw [hs] at e
      apply hA
      rw [e, show x + y - x = y by omega]
      exact hy
    have hxs : Dz x ≤ Dz s := by
      apply Classical.byContradiction
      intro c
      have h1 := dN_hi s.natAbs
      have h2 := dN_lo (x + y).natAbs (show 0 < dN (x + y).natAbs by have : Dz (x + y) = dN (x + y).natAbs := rfl; omega)
      have h3 : 2 ^ (Dz s + 1) ≤ 2 ^ Dz x := Nat.pow_le_pow_right (by decide) (by omega)
      have h4 : 2 ^ (Dz x + 1) ≤ 2 ^ Dz (x + y) := Nat.pow_le_pow_right (by decide) (by omega)
      have hp : 0 < 2 ^ Dz x := Nat.two_pow_pos _
      rw [Nat.pow_succ] at h3 h4
      rw [hs] at he
      have e1 : Dz s = dN s.natAbs := rfl
      have e2 : Dz (x + y) = dN (x + y).natAbs := rfl
      rw [← e1] at h1
      rw [← e2] at h2
      generalize 2 ^ Dz s = Q at *
      generalize 2 ^ Dz x = P at *
      generalize 2 ^ Dz (x + y) = R at *
      omega
    obtain ⟨t, ht⟩ : ∃ t, rz (s - x) = t := ⟨_, rfl⟩
    have ht2 : rz (s + -x) = t := by rw [← ht]; rfl
    have f1 := fast_F s (-x) hsF (Fz_neg hx) (by rw [Dz_neg]; exact hxs)
    rw [ht2] at f1
    have f2 : Fz (s - t) := by have := Fz_neg f1; rw [show -(t - s) = s - t by omega] at this; exact this
    have f3 := err_F s (-x) hsF (Fz_neg hx)
    rw [ht2] at f3
    have f4 : Fz (x - (s - t)) := by have := Fz_neg f3; rw [show -(s + -x - t) = x - (s - t) by omega] at this; exact this
    have f5 : Fz (y - t) := by
      obtain ⟨g, hg⟩ : ∃ g, Dz y = g + 1 := ⟨Dz y - 1, by omega⟩
      have n1 := rz_near (s - x) y hy
      rw [ht] at n1
      have hE1 : Dz (x + y) ≤ Dz y + 1 := by
        refine dN_le _ _ ?_
        have h3 : 2 ^ dN x.natAbs ≤ 2 ^ dN y.natAbs := Nat.pow_le_pow_right (by decide) (Nat.le_of_lt hlt)
        show (x + y).natAbs < 9007199254740992 * 2 ^ (dN y.natAbs + 1)
        rw [Nat.pow_succ]
        generalize 2 ^ dN x.natAbs = Q at *
        generalize 2 ^ dN y.natAbs = P at *
        omega
      have h4 : 2 ^ Dz (x + y) ≤ 2 ^ (Dz y + 1) := Nat.pow_le_pow_right (by decide) hE1
      rw [Nat.pow_succ] at h4
      have e1 : Dz y = dN y.natAbs := rfl
      rw [← e1, hg, Nat.pow_succ] at hly
      rw [hg, Nat.pow_succ] at h4
      rw [hs] at he
      have hge : g ≤ Dz (s - x) := by
        refine dN_ge _ _ ?_
        have hp : 0 < 2 ^ g := Nat.two_pow_pos _
        generalize 2 ^ Dz (x + y) = R at *
        generalize 2 ^ g = P at *
        omega
      have hdt : ((2 ^ g : Nat) : Int) ∣ t := ht ▸ Int.dvd_trans (pow_dvd hge) (rz_dvd (s - x))
      refine Fz_of _ g (Int.dvd_sub (Int.dvd_trans (pow_dvd (by omega)) hy) hdt) ?_
      generalize 2 ^ Dz (x + y) = R at *
      generalize 2 ^ g = P at *
      omega
    rw [hs] at hE ⊢
    rw [ht, rz_exact f2, rz_exact f4, rz_exact f5, show x - (s - t) + (y - t) = x + y - s by omega, rz_exact hE]
theorem nv_word (e S : Nat) (hS : S ≤ 9007199254740992) (hfull : e ≠ 0 → 4503599627370496 ≤ S) : nv (e * 4503599627370496 + S) = S * 2 ^ e := by
  unfold nv
  by_cases c : e * 4503599627370496 + S < 4503599627370496
  · have e0 : e = 0 := by
      apply Classical.byContradiction
      intro hne
      have := hfull hne
      omega
    rw [if_pos c, e0, Nat.zero_mul, Nat.zero_add, Nat.pow_zero, Nat.mul_one]
  · rw [if_neg c]
    have hS1 : 4503599627370496 ≤ S := by
      by_cases hne : e = 0
      · rw [hne] at c; omega
      · exact hfull hne
    by_cases c2 : S = 9007199254740992
    · have d1 : (e * 4503599627370496 + S) / 4503599627370496 = e + 2 := by omega
      have d2 : (e * 4503599627370496 + S) % 4503599627370496 = 0 := by omega
      rw [d1, d2, c2, Nat.add_zero, show e + 2 - 1 = e + 1 by omega, Nat.pow_succ, Nat.mul_comm (2 ^ e) 2, ← Nat.mul_assoc]
    · have d1 : (e * 4503599627370496 + S) / 4503599627370496 = e + 1 := by omega
      have d2 : (e * 4503599627370496 + S) % 4503599627370496 = S - 4503599627370496 := by omega
      rw [d1, d2, Nat.add_sub_cancel, Nat.add_sub_cancel' hS1]
/-- What a sum of value V becomes. -/
def rnR (V : Nat) : Nat := rndM V (-1074)
theorem rn_min (V : Nat) (h0 : V ≠ 0) : rnR V = min (dN V * 4503599627370496 + stepN V (dN V) 0 false) 9218868437227405312 := by
  have hr : rnR V = FloatKind.f64.format.nearest false V (-1074) := (near_rnd false V (-1074)).1.symm
  rw [hr]
  unfold Ieee.Format.nearest
  rw [if_neg h0, fmt_fb, fmt_lp, fmt_bin, fmt_inf]
  obtain ⟨e, he⟩ : ∃ e, V.log2 - 52 = e := ⟨_, rfl⟩
  have l2 : max ((-1074 : Int) + (V.log2 : Int) - ((52 : Nat) : Int)) (-1074) = (e : Int) - 1074 := by omega
  simp only [l2]
  have t3 : ((-1074 : Int) - ((e : Int) - 1074)).toNat = 0 := by omega
  have t4 : ((e : Int) - 1074 - -1074).toNat = e := by omega
  rw [t3, t4, Nat.shiftLeft_zero, cut_near, stepQ_nat, word_false]
  have hd : dN V = e := by unfold dN bitLen; rw [if_neg h0]; omega
  rw [hd]
/-- Below the steps of a number the digits are filled. -/
theorem quo_full (V : Nat) : (dN V ≠ 0 → 4503599627370496 ≤ V / 2 ^ dN V) ∧ V / 2 ^ dN V < 9007199254740992 := by
  refine ⟨fun h => ?_, ?_⟩
  · exact (Nat.le_div_iff_mul_le (Nat.two_pow_pos _)).2 (dN_lo V (by omega))
  · exact (Nat.div_lt_iff_lt_mul (Nat.two_pow_pos _)).2 (dN_hi V)
theorem step_full (V : Nat) : dN V ≠ 0 → 4503599627370496 ≤ stepN V (dN V) 0 false := by
  intro h
  have h1 := (quo_full V).1 h
  obtain ⟨_, _, _, h4⟩ := step_near V (dN V)
  rcases h4 with h4 | ⟨h4, _⟩ <;> omega
theorem rn_word (V : Nat) (hf : rnR V < 9218868437227405312) : rnR V = dN V * 4503599627370496 + stepN V (dN V) 0 false ∧ nv (rnR V) = rnv V := by
  have hw := nv_word (dN V) (stepN V (dN V) 0 false) (step_top V) (step_full V)
  by_cases h0 : V = 0
  · have e0 : rnR V = 0 := by unfold rnR rndM; rw [h0, if_pos rfl]
    have e1 : dN V = 0 := by rw [h0]; unfold dN; rw [bitLen_zero]
    have e2 : stepN V 0 0 false = 0 := by
      have := (step_near V 0).2.2.1 (by rw [Nat.pow_zero]; exact Nat.mod_one _)
      rw [Nat.pow_zero, Nat.mul_one, h0] at this
      rw [h0]; exact this
    unfold rnv
    rw [e0, e1, e2, nv_zero]
    exact ⟨rfl, by simp⟩
  · have h := rn_min V h0
    have e : rnR V = dN V * 4503599627370496 + stepN V (dN V) 0 false := by
      rw [h] at hf ⊢
      omega
    exact ⟨e, by rw [e]; exact hw⟩
theorem rnv_le (V k : Nat) (hV : V ≤ 2 ^ k) : rnv V ≤ 2 ^ k := by
  have hd : dN V ≤ k := by
    have := bitLen_le V (k + 1) (by rw [Nat.pow_succ]; have := Nat.two_pow_pos k; omega)
    unfold dN
    omega
  obtain ⟨n1, _, _, _⟩ := step_near V (dN V)
  have e : 2 ^ k = 2 ^ (k - dN V) * 2 ^ dN V := by rw [← Nat.pow_add, Nat.sub_add_cancel hd]
  unfold rnv
  rw [e] at hV ⊢
  obtain ⟨P, hP⟩ : ∃ P, 2 ^ dN V = P := ⟨_, rfl⟩
  obtain ⟨T, hT⟩ : ∃ T, stepN V (dN V) 0 false = T := ⟨_, rfl⟩
  obtain ⟨G, hG⟩ : ∃ G, 2 ^ (k - dN V) = G := ⟨_, rfl⟩
  have hpos : 0 < P := by rw [← hP]; exact Nat.two_pow_pos _
  rw [hT, hP] at n1
  rw [hT, hP, hG]
  rw [hP, hG] at hV
  apply Nat.mul_le_mul_right
  apply Classical.byContradiction
  intro c
  have : (G + 1) * P ≤ T * P := Nat.mul_le_mul_right _ (by omega)
  rw [Nat.add_mul, Nat.one_mul] at this
  omega
def kI : Nat := 2046
theorem kI_is : kI = 2046 := rfl
theorem nv_inf : nv 9218868437227405312 = 4503599627370496 * 2 ^ kI := by
  have e1 : 9218868437227405312 % 4503599627370496 = 0 := by decide
  have e2 : 9218868437227405312 / 4503599627370496 - 1 = kI := by decide
  unfold nv
  rw [if_neg (by decide), e1, e2, Nat.add_zero]
theorem rn_bound (V k : Nat) (hV : V ≤ 2 ^ k) (hk : k ≤ 2097) : rnR V < 9218868437227405312 ∧ nv (rnR V) ≤ 2 ^ k := by
  have hl := rnv_le V k hV
  have hw := nv_word (dN V) (stepN V (dN V) 0 false) (step_top V) (step_full V)
  have hlt : dN V * 4503599627370496 + stepN V (dN V) 0 false < 9218868437227405312 := by
    apply Classical.byContradiction
    intro c
    have h1 := nv_le (r := 9218868437227405312) (s := dN V * 4503599627370496 + stepN V (dN V) 0 false) (by omega)
    rw [hw, nv_inf] at h1
    have h2 : (2 : Nat) ^ k ≤ 2 ^ (51 + kI) := Nat.pow_le_pow_right (by decide) (by have := kI_is; omega)
    rw [Nat.pow_add, show (2 : Nat) ^ 51 = 2251799813685248 by decide] at h2
    have hp := Nat.two_pow_pos kI
    have e : rnv V = stepN V (dN V) 0 false * 2 ^ dN V := rfl
    rw [e] at hl
    omega
  by_cases h0 : V = 0
  · have : rnR V = 0 := by unfold rnR rndM; rw [h0, if_pos rfl]
    rw [this, nv_zero]
    exact ⟨by decide, Nat.zero_le _⟩
  · have h := rn_min V h0
    have hr : rnR V < 9218868437227405312 := by rw [h]; omega
    exact ⟨hr, by rw [(rn_word V hr).2]; exact hl⟩
theorem sv_rz (s : Bool) (V : Int) (hf : rnR V.natAbs < 9218868437227405312) (hs : V ≠ 0 → s = decide (V < 0)) : sv (signN s (rnR V.natAbs)) = rz V := by
  obtain ⟨m1, m2, m3⟩ := signN_mod s (rnR V.natAbs) (by omega)
  have hv := (rn_word _ hf).2
  unfold sv rz
  rw [m1, hv]
  by_cases h0 : V = 0
  · have e0 : rnv V.natAbs = 0 := by
      have := rnv_le 0 0 (by decide)
      rw [h0, Int.natAbs_zero]
      have h1 := rn_word 0 (by unfold rnR rndM; rw [if_pos rfl]; decide)
      have h2 : rnR 0 = 0 := by unfold rnR rndM; rw [if_pos rfl]
      rw [h2, nv_zero] at h1
      exact h1.2.symm
    rw [e0]
    split <;> split <;> rfl
  · have hs := hs h0
    by_cases c : V < 0
    · rw [if_pos c, if_pos]
      rw [hs, decide_eq_true c] at m2
      rw [hs, decide_eq_true c]
      exact of_decide_eq_true m2
    · rw [if_neg c, if_neg]
      rw [hs, decide_eq_false c] at m2
      rw [hs, decide_eq_false c]
      exact of_decide_eq_false m2
/-- A finite number of a value. -/
def Fin64 (x : Nat) (v : Int) : Prop := x < 18446744073709551616 ∧ x % 9223372036854775808 < 9218868437227405312 ∧ sv x = v
theorem fin_rz (s : Bool) (V : Int) (k : Nat) (hk : k ≤ 2097) (hV : V.natAbs ≤ 2 ^ k) (hs : V ≠ 0 → s = decide (V < 0)) : Fin64 (signN s (rnR V.natAbs)) (rz V) ∧ (rz V).natAbs ≤ 2 ^ k := by
  obtain ⟨h1, h2⟩ := rn_bound V.natAbs k hV hk
  obtain ⟨a1, _, a3⟩ := signN_mod s (rnR V.natAbs) (by omega)
  refine ⟨⟨a3, by rw [a1]; exact h1, sv_rz s V h1 hs⟩, ?_⟩
  rw [rz_abs, ← (rn_word _ h1).2]
  exact h2
theorem add_val (x y : Nat) (hx : x < 18446744073709551616) (hy : y < 18446744073709551616) (fx : x % 9223372036854775808 < 9218868437227405312) (fy : y % 9223372036854775808 < 9218868437227405312) :
    ∃ s, FloatKind.f64.format.add x y = some (signN s (rnR (sv x + sv y).natAbs)) ∧ (sv x + sv y ≠ 0 → s = decide (sv x + sv y < 0)) := add_rnd x y hx hy fx fy
theorem sub_val (x y : Nat) (hx : x < 18446744073709551616) (hy : y < 18446744073709551616) (fx : x % 9223372036854775808 < 9218868437227405312) (fy : y % 9223372036854775808 < 9218868437227405312) :
    ∃ s, FloatKind.f64.format.sub x y = some (signN s (rnR (sv x - sv y).natAbs)) ∧ (sv x - sv y ≠ 0 → s = decide (sv x - sv y < 0)) := by
  obtain ⟨m, p, ex, vx⟩ := read_fin x hx fx
  obtain ⟨n, q, ey, vy⟩ := read_fin y hy fy
  unfold Ieee.Format.sub
  rw [ex, ey]
  have hB : -sv y = if (!decide (9223372036854775808 ≤ y)) then -((n * 2 ^ q : Nat) : Int) else ((n * 2 ^ q : Nat) : Int) := by
    rw [sv_form y n q vy]
    by_cases c : 9223372036854775808 ≤ y <;> simp [c]
  obtain ⟨mag, b, e, hv⟩ := sum_val _ _ m n p q (sv x) (-sv y) (sv_form x m p vx) hB
  show ∃ s, ((Ieee.Datum.number _ m _).sum (.number (!decide (9223372036854775808 ≤ y)) n _)).map _ = _ ∧ _
  rw [e]
  have eq : sv x + -sv y = sv x - sv y := by omega
  rw [eq] at hv
  refine ⟨if sv x + -sv y = 0 then (decide (9223372036854775808 ≤ x) && !decide (9223372036854775808 ≤ y)) else decide (sv x + -sv y < 0), ?_, fun h => ?_⟩
  · show some (FloatKind.f64.format.nearest _ mag ((b : Int) - 1074)) = _
    have := rndM_sc mag b ((b : Int) - 1074)
    rw [hv, show (b : Int) - 1074 - (b : Int) = -1074 by omega] at this
    rw [(near_rnd _ mag _).1, ← this]
    rfl
  · rw [if_neg (by omega), eq]
/-- A number's value has 53 digits. -/
theorem Fz_nv (r : Nat) : Fz (nv r : Int) := by
  unfold nv
  split
  · exact Fz_of _ 0 (by rw [Nat.pow_zero]; exact Int.one_dvd _) (by omega)
  · refine Fz_of _ (r / 4503599627370496 - 1) (Int.ofNat_dvd_left.2 ?_) ?_
    · exact Nat.dvd_mul_left _ _
    · show (4503599627370496 + r % 4503599627370496) * 2 ^ (r / 4503599627370496 - 1) ≤ _
      exact Nat.mul_le_mul_right _ (by omega)
theorem Fz_sv (x : Nat) : Fz (sv x) := by
  unfold sv
  split
  · exact Fz_neg (Fz_nv _)
  · exact Fz_nv _
end Go.Proofs.Ythakhmnlpmfdgaa

namespace Go.Proofs.Ythakhmnlpmfdgaa
open Go Go.RowKit Go.IntWalk

theorem read_fin2 (x : Nat) (hx : x < 18446744073709551616) (h : x % 9223372036854775808 < 9218868437227405312) :
    ∃ m : Nat, ∃ p : Nat, FloatKind.f64.format.read x = .number (decide (9223372036854775808 ≤ x)) m ((p : Int) - 1074) ∧ m < 9007199254740992 ∧ (p = 0 ∧ m = x % 9223372036854775808 ∨ 1 ≤ p ∧ 4503599627370496 ≤ m ∧ x % 9223372036854775808 = p * 4503599627370496 + m) := by
  unfold Ieee.Format.read
  rw [fmt_sw, fmt_bin, fmt_inf, fmt_lp, sign_read x hx]
  by_cases h1 : x % 9223372036854775808 < 4503599627370496
  · exact ⟨x % 9223372036854775808, 0, by simp only [if_pos h1]; rfl, by omega, Or.inl ⟨rfl, rfl⟩⟩
  · refine ⟨4503599627370496 + x % 9223372036854775808 % 4503599627370496, x % 9223372036854775808 / 4503599627370496 - 1, ?_, by omega, ?_⟩
    · simp only [if_neg h1, if_pos h]
      congr 1
    · by_cases c : x % 9223372036854775808 / 4503599627370496 = 1
      · left; omega
      · right; omega
theorem nv_small (r : Nat) (h : r ≤ 9007199254740992) : nv r = r := by
  unfold nv
  split
  · rfl
  · by_cases c : r = 9007199254740992
    · rw [c]
    · have e1 : r / 4503599627370496 - 1 = 0 := by omega
      have e2 : r % 4503599627370496 = r - 4503599627370496 := by omega
      rw [e1, e2, Nat.pow_zero, Nat.mul_one]
      omega
theorem rnd_odd (m : Nat) (h0 : m ≠ 0) (hm : m < 9007199254740992) : rndM m (-1075) = stepN m 1 0 false := by
  have hr : rndM m (-1075) = FloatKind.f64.format.nearest false m (-1075) := (near_rnd false m (-1075)).1.symm
  rw [hr]
  have hl : m.log2 ≤ 52 := by
    have := (Nat.log2_lt h0).2 (show m < 2 ^ 53 by omega)
    omega
  unfold Ieee.Format.nearest
  rw [if_neg h0, fmt_fb, fmt_lp, fmt_bin, fmt_inf]
  have l2 : max ((-1075 : Int) + (m.log2 : Int) - ((52 : Nat) : Int)) (-1074) = -1074 := by omega
  simp only [l2]
  have t3 : ((-1075 : Int) - -1074).toNat = 0 := by omega
  have t4 : ((-1074 : Int) - -1075).toNat = 1 := by omega
  rw [t3, t4, Nat.shiftLeft_zero, cut_near, word_false]
  have e1 : stepQ m ((1 : Nat) : Int) 0 false = stepN m 1 0 false := stepQ_nat m 1
  rw [e1]
  obtain ⟨_, _, _, h4⟩ := step_near m 1
  have hs : stepN m 1 0 false ≤ 4503599627370496 := by
    rcases h4 with h4 | ⟨h4, _⟩ <;> omega
  have e2 : ((-1074 : Int) - -1074).toNat = 0 := by omega
  simp only [e2]
  omega
/-- A number divided by 2. -/
theorem div_two (x : Nat) (hx : x < 18446744073709551616) (fx : x % 9223372036854775808 < 9218868437227405312) :
    ∃ q, FloatKind.f64.format.div x 4611686018427387904 = some q ∧ q < 18446744073709551616 ∧ q % 9223372036854775808 < 9218868437227405312 ∧ (2 * sv q = sv x ∨ 2 * sv q = sv x + 1 ∨ 2 * sv q = sv x - 1) := by
  obtain ⟨m, p, ex, hm, hp⟩ := read_fin2 x hx fx
  have e2 : FloatKind.f64.format.read 4611686018427387904 = .number false 4503599627370496 (-51) := by decide +kernel
  have key : FloatKind.f64.format.div x 4611686018427387904 = some (signN (decide (9223372036854775808 ≤ x)) (rndM m ((p : Int) - 1075))) := by
    unfold Ieee.Format.div
    rw [ex, e2]
    simp only [Ieee.Datum.quotient]
    rw [if_neg (by decide : ¬ (4503599627370496 : Nat) = 0)]
    have hl2 : Nat.log2 4503599627370496 = 52 := by decide +kernel
    have hlm : m.log2 ≤ 52 := by
      by_cases c : m = 0
      · rw [c]; decide
      · have := (Nat.log2_lt c).2 (show m < 2 ^ 53 by omega)
        omega
    rw [fmt_fb, hl2]
    obtain ⟨k, hk⟩ : ∃ k, 52 + 2 + 52 - m.log2 = k + 52 := ⟨54 - m.log2, by omega⟩
    simp only [hk]
    have d1 : m <<< (k + 52) = m * 2 ^ k * 4503599627370496 := by
      rw [Nat.shiftLeft_eq, Nat.pow_add, ← Nat.mul_assoc]
    rw [d1, Nat.mul_div_cancel _ (by decide), Nat.mul_mod_left]
    show some (FloatKind.f64.format.nearest _ (2 * (m * 2 ^ k) + 0) _) = _
    rw [(near_rnd _ _ _).1]
    have e3 : 2 * (m * 2 ^ k) + 0 = m * 2 ^ (k + 1) := by rw [Nat.pow_succ, Nat.add_zero, ← Nat.mul_assoc m, Nat.mul_comm 2]
    have e4 : ((p : Int) - 1074 - -51 - ((k + 52 : Nat) : Int) - 1) = ((p : Int) - 1075) - ((k + 1 : Nat) : Int) := by omega
    rw [e3, e4, rndM_sc]
    congr 2
    cases decide (9223372036854775808 ≤ x) <;> rfl
  have fin : ∀ r, r < 9218868437227405312 → (2 * nv r = nv (x % 9223372036854775808) ∨ 2 * nv r = nv (x % 9223372036854775808) + 1 ∨ 2 * nv r + 1 = nv (x % 9223372036854775808)) → ∀ q, q = signN (decide (9223372036854775808 ≤ x)) r → q < 18446744073709551616 ∧ q % 9223372036854775808 < 9218868437227405312 ∧ (2 * sv q = sv x ∨ 2 * sv q = sv x + 1 ∨ 2 * sv q = sv x - 1) := by
    intro r hr hv q hq
    obtain ⟨a1, a2, a3⟩ := signN_mod (decide (9223372036854775808 ≤ x)) r (by omega)
    rw [← hq] at a1 a2 a3
    refine ⟨a3, by rw [a1]; exact hr, ?_⟩
    have hsg : 9223372036854775808 ≤ q ↔ 9223372036854775808 ≤ x := by
      rw [decide_eq_decide] at a2; exact a2
    unfold sv
    rw [a1]
    by_cases c : 9223372036854775808 ≤ x
    · rw [if_pos (hsg.2 c), if_pos c]; omega
    · rw [if_neg (fun h => c (hsg.1 h)), if_neg c]; omega
  refine ⟨_, key, ?_⟩
  rcases hp with ⟨rfl, hm2⟩ | ⟨hp1, hm1, hxm⟩
  · have hnx : nv (x % 9223372036854775808) = m := by rw [← hm2, nv_small m (by omega)]
    by_cases h0 : m = 0
    · refine fin 0 (by decide) (Or.inl ?_) _ (by rw [h0]; unfold rndM; rw [if_pos rfl])
      rw [hnx, h0, nv_zero]
    · obtain ⟨_, _, _, h4⟩ := step_near m 1
      rw [Nat.pow_one] at h4
      have hs : stepN m 1 0 false ≤ 4503599627370496 := by
        rcases h4 with h4 | ⟨h4, _⟩ <;> omega
      refine fin (stepN m 1 0 false) (by omega) ?_ _ (by rw [← rnd_odd m h0 hm]; rfl)
      rw [hnx, nv_small _ (by omega)]
      rcases h4 with h4 | ⟨h4, h5⟩ <;> omega
  · obtain ⟨P, rfl⟩ : ∃ P, p = P + 1 := ⟨p - 1, by omega⟩
    have hr1 : P * 4503599627370496 + m < 9218868437227405312 := by omega
    have hw := nv_word P m (by omega) (fun _ => hm1)
    have hwx := nv_word (P + 1) m (by omega) (fun _ => hm1)
    have hn := nearest_nv false m P (P * 4503599627370496 + m) (by omega) hr1 (by rw [hw])
    have hr : rndM m (((P + 1 : Nat) : Int) - 1075) = P * 4503599627370496 + m := by
      have := (near_rnd false m ((P : Int) - 1074)).1
      rw [hn, word_false] at this
      have e : ((P + 1 : Nat) : Int) - 1075 = (P : Int) - 1074 := by omega
      rw [e, this]
      rfl
    refine fin (P * 4503599627370496 + m) hr1 (Or.inl ?_) _ (by rw [hr])
    rw [hw, hxm, hwx, Nat.pow_succ, ← Nat.mul_assoc m, Nat.mul_comm 2]
end Go.Proofs.Ythakhmnlpmfdgaa
