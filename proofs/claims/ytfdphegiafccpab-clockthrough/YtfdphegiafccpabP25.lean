
/- Plain: what Fit's clock tells of its first and its last pair; the pairs that a clock makes give its rate back. -/
import Derived.Test.YtfdphegiafccpabP24
namespace Go.Proofs.Ytfdphegiafccpab
open Go.RowKit Go.IntWalk

theorem four_mul (s q g p : Int) : s * (q * g) * p = s * (p * g) * q := by
  rw [Int.mul_assoc s (q * g) p, Int.mul_assoc s (p * g) q, Int.mul_assoc q g p, Int.mul_assoc p g q, Int.mul_left_comm q g p, Int.mul_left_comm p g q, Int.mul_comm q p]
theorem flo_near (a : Int) (b c : Nat) (hc : 0 < c) (h : (-4611686018427387904 ≤ floV a b c ∧ floV a b c ≤ 4611686018427387904) ∨ (-4611686018427387904 ≤ a * b / c ∧ a * b / c ≤ 4611686018427387904)) : floV a b c = a * b / c := by
  rcases floV_is a b c hc with h1 | ⟨h1, h2⟩ | ⟨h1, h2⟩
  · exact h1
  · omega
  · omega
theorem ft_through {C T : Nat → Int} {l L : Nat} (h : FtGood C T l) (hL : l - 1 = L) : (tmE (ftO C T l) (ftN C T l) (ftD C T l) (C 0) = 0 ∧ tmV (ftO C T l) (ftN C T l) (ftD C T l) (C 0) = T 0) ∧ tmE (ftO C T l) (ftN C T l) (ftD C T l) (C L) = 0 ∧ tmV (ftO C T l) (ftN C T l) (ftD C T l) (C L) = T L := by
  obtain ⟨hg, _, hc⟩ := h
  obtain ⟨⟨c0, t0⟩, cL, tL, _, _⟩ := ft_facts hg hL
  obtain ⟨X, Y, hX, hY, ⟨x1, _⟩, _, e1, e2⟩ := ft_pre hg hL
  obtain ⟨_, d0, _⟩ := ft_small hg
  obtain ⟨⟨o1, o2⟩, _⟩ := ckB_yes hc
  have hO : ftO C T l = T 0 - floV (C 0) (ftN C T l) (ftD C T l) := by rw [ftO]
  have hF := flo_near (C 0) (ftN C T l) (ftD C T l) d0 (.inl (by omega))
  have v0 : ftO C T l + C 0 * (ftN C T l : Int) / (ftD C T l : Int) = T 0 := by rw [← hF]; omega
  have hgx : X / Nat.gcd X Y * Nat.gcd X Y = X := Nat.div_mul_cancel (Nat.gcd_dvd_left _ _)
  have hgy : Y / Nat.gcd X Y * Nat.gcd X Y = Y := Nat.div_mul_cancel (Nat.gcd_dvd_right _ _)
  rw [← e1] at hgx
  rw [← e2] at hgy
  have vL : C L * (ftN C T l : Int) / (ftD C T l : Int) = C 0 * (ftN C T l : Int) / (ftD C T l : Int) + (T L - T 0) := by
    generalize Nat.gcd X Y = G at *
    generalize ftN C T l = P at *
    generalize ftD C T l = Q at *
    have e : C L * (P : Int) = C 0 * (P : Int) + (T L - T 0) * (Q : Int) := by
      have hc : C L = C 0 + (Y : Int) := by omega
      rw [hc, hX, ← hgx, ← hgy, Int.add_mul, Int.natCast_mul, Int.natCast_mul, Int.mul_right_comm, Int.mul_comm (Q : Int) (P : Int), Int.mul_assoc (P : Int), Int.mul_comm (Q : Int) (G : Int), ← Int.mul_assoc]
    rw [e, Int.add_mul_ediv_right _ _ (by omega)]
  have vL2 : ftO C T l + C L * (ftN C T l : Int) / (ftD C T l : Int) = T L := by rw [vL]; omega
  have z0 : tmE (ftO C T l) (ftN C T l) (ftD C T l) (C 0) = 0 := (tmE_zero _ _ _ _).2 ⟨hc, (inB_iff _).2 c0, by rw [v0]; exact (inB_iff _).2 t0⟩
  have zL : tmE (ftO C T l) (ftN C T l) (ftD C T l) (C L) = 0 := (tmE_zero _ _ _ _).2 ⟨hc, (inB_iff _).2 cL, by rw [vL2]; exact (inB_iff _).2 tL⟩
  refine ⟨⟨z0, ?_⟩, zL, ?_⟩
  · rw [tmV, if_pos z0]
    exact v0
  · rw [tmV, if_pos zL]
    exact vL2
/-- The pairs that a clock makes at counts that it divides. -/
theorem made_good (o : Int) (N D l : Nat) (S : Nat → Int) (hc : ckB o N D = true) (hl : 2 ≤ l ∧ l ≤ 1024) (hS : ∀ i, i + 1 < l → S i < S (i + 1)) (hin : ∀ i, i < l → inB (S i * D) = true ∧ inB (o + S i * N) = true) :
    FtGood (fun i => S i * D) (fun i => o + S i * N) l ∧ (∀ i, i < l → ftO (fun i => S i * D) (fun i => o + S i * N) l + floV (S i * D) (ftN (fun i => S i * D) (fun i => o + S i * N) l) (ftD (fun i => S i * D) (fun i => o + S i * N) l) = o + S i * N) ∧ ((ftN (fun i => S i * D) (fun i => o + S i * N) l : Int) * D = (N : Int) * (ftD (fun i => S i * D) (fun i => o + S i * N) l : Int)) := by
  obtain ⟨⟨o1, o2⟩, ⟨n1, n2⟩, d1, d2⟩ := ckB_yes hc
  have hris : Ris (fun i => S i * (D : Int)) (fun i => o + S i * (N : Int)) l := fun i hi => by
    have h := hS i hi
    have h1 : S i * (D : Int) < S (i + 1) * (D : Int) := Int.mul_lt_mul_of_pos_right h (by omega)
    have h2 : S i * (N : Int) < S (i + 1) * (N : Int) := Int.mul_lt_mul_of_pos_right h (by omega)
    exact ⟨h1, by show o + S i * (N : Int) < o + S (i + 1) * (N : Int); omega⟩
  have hpg : PGood (fun i => S i * (D : Int)) (fun i => o + S i * (N : Int)) l := ⟨hl, hin, hris⟩
  have hSL : S 0 < S (l - 1) := by
    have : ∀ j, 0 < j → j < l → S 0 < S j := by
      intro j
      induction j with
      | zero => intro h; exact absurd h (Nat.lt_irrefl _)
      | succ j ih =>
        intro _ h2
        have hs := hS j h2
        by_cases hj : j = 0
        · rw [hj] at hs ⊢
          exact hs
        · have := ih (by omega) (by omega)
          omega
    exact this (l - 1) (by omega) (by omega)
  obtain ⟨K, hK⟩ := Int.eq_ofNat_of_zero_le (show 0 ≤ S (l - 1) - S 0 by omega)
  have hK0 : 0 < K := by omega
  have g0 : 0 < Nat.gcd N D := Nat.gcd_pos_of_pos_left _ (by omega)
  have hx : (o + S (l - 1) * (N : Int) - (o + S 0 * (N : Int))).toNat = K * N := by
    have e : o + S (l - 1) * (N : Int) - (o + S 0 * (N : Int)) = ((K * N : Nat) : Int) := by
      rw [Int.natCast_mul, ← hK, Int.sub_mul]
      omega
    rw [e, Int.toNat_natCast]
  have hy : (S (l - 1) * (D : Int) - S 0 * (D : Int)).toNat = K * D := by
    have e : S (l - 1) * (D : Int) - S 0 * (D : Int) = ((K * D : Nat) : Int) := by rw [Int.natCast_mul, ← hK, Int.sub_mul]
    rw [e, Int.toNat_natCast]
  have eN : ftN (fun i => S i * (D : Int)) (fun i => o + S i * (N : Int)) l = N / Nat.gcd N D := by
    unfold ftN lowN
    show (o + S (l - 1) * (N : Int) - (o + S 0 * (N : Int))).toNat / Nat.gcd (o + S (l - 1) * (N : Int) - (o + S 0 * (N : Int))).toNat (S (l - 1) * (D : Int) - S 0 * (D : Int)).toNat = _
    rw [hx, hy, Nat.gcd_mul_left, Nat.mul_div_mul_left _ _ hK0]
  have eD : ftD (fun i => S i * (D : Int)) (fun i => o + S i * (N : Int)) l = D / Nat.gcd N D := by
    unfold ftD lowD
    show (S (l - 1) * (D : Int) - S 0 * (D : Int)).toNat / Nat.gcd (o + S (l - 1) * (N : Int) - (o + S 0 * (N : Int))).toNat (S (l - 1) * (D : Int) - S 0 * (D : Int)).toNat = _
    rw [hx, hy, Nat.gcd_mul_left, Nat.mul_div_mul_left _ _ hK0]
  have hO : ftO (fun i => S i * (D : Int)) (fun i => o + S i * (N : Int)) l = o + S 0 * (N : Int) - floV (S 0 * (D : Int)) (N / Nat.gcd N D) (D / Nat.gcd N D) := by
    unfold ftO
    rw [eN, eD]
  rw [eN, eD, hO]
  have q1 : N / Nat.gcd N D * Nat.gcd N D = N := Nat.div_mul_cancel (Nat.gcd_dvd_left _ _)
  have q2 : D / Nat.gcd N D * Nat.gcd N D = D := Nat.div_mul_cancel (Nat.gcd_dvd_right _ _)
  have p1 : 0 < N / Nat.gcd N D := Nat.div_pos (Nat.gcd_le_left _ (by omega)) g0
  have p2 : 0 < D / Nat.gcd N D := Nat.div_pos (Nat.gcd_le_right _ (by omega)) g0
  have p3 := Nat.div_le_self N (Nat.gcd N D)
  have p4 := Nat.div_le_self D (Nat.gcd N D)
  have hgood : FtGood (fun i => S i * (D : Int)) (fun i => o + S i * (N : Int)) l ↔ (ckB 0 (N / Nat.gcd N D : Nat) (D / Nat.gcd N D : Nat) = true ∧ ckB (o + S 0 * (N : Int) - floV (S 0 * (D : Int)) (N / Nat.gcd N D) (D / Nat.gcd N D)) (N / Nat.gcd N D : Nat) (D / Nat.gcd N D : Nat) = true) := by
    have := ft_iff hpg
    rw [eN, eD, hO] at this
    exact this
  rw [hgood]
  generalize Nat.gcd N D = G at *
  generalize N / G = P at *
  generalize D / G = Q at *
  have hf : ∀ i, i < l → floV (S i * (D : Int)) P Q = S i * (N : Int) := fun i hi => by
    have hb := (inB_iff _).1 (hin i hi).2
    have e : S i * (D : Int) * (P : Int) / (Q : Int) = S i * (N : Int) := by
      rw [← q1, ← q2, Int.natCast_mul, Int.natCast_mul]
      have e2 : S i * ((Q : Int) * (G : Int)) * (P : Int) = S i * ((P : Int) * (G : Int)) * (Q : Int) := by
        exact four_mul _ _ _ _
      rw [e2, Int.mul_ediv_cancel _ (by omega)]
    rw [flo_near (S i * (D : Int)) P Q p2 (.inr (by rw [e]; omega)), e]
  rw [hf 0 (by omega)]
  have ho : o + S 0 * (N : Int) - S 0 * (N : Int) = o := by omega
  rw [ho]
  refine ⟨⟨?_, ?_⟩, fun i hi => ?_, ?_⟩
  · unfold ckB
    exact decide_eq_true (by omega)
  · unfold ckB
    exact decide_eq_true (by omega)
  · rw [hf i hi]
  · rw [← q1, ← q2, Int.natCast_mul, Int.natCast_mul, Int.mul_assoc, Int.mul_comm (G : Int)]
end Go.Proofs.Ytfdphegiafccpab
