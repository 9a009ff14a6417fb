
/- Numbers that aren't below 0: their sums, squares and roots are no NaN; root's sums. -/
import Derived.Test.YthakhmnlpmfdgaaP34
namespace Go.Proofs.Ythakhmnlpmfdgaa
open Go.RowKit Go.IntWalk

theorem nn_read {x : Nat} (h : x ≤ 9218868437227405312) : (∃ m p, FloatKind.f64.format.read x = .number false m p) ∨ FloatKind.f64.format.read x = .infinity false := by
  have e : x % 9223372036854775808 = x := Nat.mod_eq_of_lt (by omega)
  have hd : decide (9223372036854775808 ≤ x) = false := decide_eq_false (by omega)
  rcases Nat.lt_or_ge x 9218868437227405312 with c | c
  · obtain ⟨m, p, h1, _⟩ := read_fin x (by omega) (by omega)
    rw [hd] at h1
    exact Or.inl ⟨m, _, h1⟩
  · have h1 := read_inf x (by omega) (by omega)
    rw [hd] at h1
    exact Or.inr h1
theorem nn_number (m : Nat) (p : Int) : FloatKind.f64.format.write (.number false m p) ≤ 9218868437227405312 := by
  show FloatKind.f64.format.nearest false m p ≤ _
  rw [(near_rnd false m p).1]
  unfold signN
  have := (near_rnd false m p).2
  simpa using this
theorem nn_infinity : FloatKind.f64.format.write (.infinity false) ≤ 9218868437227405312 := by decide +kernel
theorem nn_sum {x y : Nat} (hx : x ≤ 9218868437227405312) (hy : y ≤ 9218868437227405312) : ∃ z, floatBits .add .f64 x y = some z ∧ z ≤ 9218868437227405312 := by
  show ∃ z, FloatKind.f64.format.add x y = some z ∧ _
  unfold Ieee.Format.add
  rcases nn_read hx with ⟨m, p, e1⟩ | e1
  · rcases nn_read hy with ⟨n, q, e2⟩ | e2
    · rw [e1, e2]
      simp only [Ieee.Datum.sum, Option.map_some]
      refine ⟨_, rfl, ?_⟩
      have h : (if Ieee.signed false m (p - min p q).toNat + Ieee.signed false n (q - min p q).toNat = 0 then (false && false) else decide (Ieee.signed false m (p - min p q).toNat + Ieee.signed false n (q - min p q).toNat < 0)) = false := by
        have a : ∀ (m k : Nat), 0 ≤ Ieee.signed false m k := fun m k => by
          unfold Ieee.signed
          first
            | exact Int.natCast_nonneg _
            | (simp only [Bool.false_eq_true, if_false]; exact Int.natCast_nonneg _)
            | (simp only [Bool.false_eq_true, if_false]; rw [Int.shiftLeft_eq]; exact Int.mul_nonneg (Int.natCast_nonneg _) (by exact_mod_cast Nat.zero_le _))
        have a1 := a m (p - min p q).toNat
        have a2 := a n (q - min p q).toNat
        by_cases h0 : Ieee.signed false m (p - min p q).toNat + Ieee.signed false n (q - min p q).toNat = 0
        · rw [if_pos h0]; rfl
        · rw [if_neg h0]; exact decide_eq_false (by omega)
      rw [h]
      exact nn_number _ _
    · rw [e1, e2]
      exact ⟨_, rfl, nn_infinity⟩
  · rcases nn_read hy with ⟨n, q, e2⟩ | e2
    · rw [e1, e2]
      exact ⟨_, rfl, nn_infinity⟩
    · rw [e1, e2]
      exact ⟨_, rfl, nn_infinity⟩
theorem nn_sqr {x : Nat} (hx : x < 18446744073709551616) (fx : x % 9223372036854775808 < 9218868437227405312) : ∃ z, floatBits .mul .f64 x x = some z ∧ z ≤ 9218868437227405312 := by
  show ∃ z, FloatKind.f64.format.mul x x = some z ∧ _
  unfold Ieee.Format.mul
  obtain ⟨m, p, e1, _⟩ := read_fin x hx fx
  rw [e1]
  simp only [Ieee.Datum.product, Option.map_some, Bool.xor_self]
  exact ⟨_, rfl, nn_number _ _⟩
theorem nn_root {x : Nat} (hx : x ≤ 9218868437227405312) : ∃ r, FloatKind.f64.format.sqrt x = some r ∧ r ≤ 9218868437227405312 := by
  unfold Ieee.Format.sqrt
  rcases nn_read hx with ⟨m, p, e1⟩ | e1
  · rw [e1]
    simp only [Ieee.Datum.root]
    by_cases h : m = 0
    · rw [if_pos h]
      exact ⟨_, rfl, nn_number _ _⟩
    · rw [if_neg h]
      exact ⟨_, rfl, nn_number _ _⟩
  · rw [e1]
    exact ⟨_, rfl, nn_infinity⟩
theorem canon_nn {x : Nat} (h : x ≤ 9218868437227405312) : canonOf x = x := by
  unfold canonOf
  rw [if_neg (by rw [Nat.mod_eq_of_lt (by omega)]; omega)]
theorem nn_canon {x : Nat} (hx : x < 18446744073709551616) (h : canonOf x ≤ 9218868437227405312) : canonOf x = x := by
  rcases canon_is x hx with ⟨_, e⟩ | ⟨_, e⟩
  · rw [e] at h; exact absurd h (by decide)
  · exact e
theorem sumA_nn {v : Nat → Nat} {x n : Nat} (hx : x ≤ 9218868437227405312) (hv : ∀ i, i < n → v i < 18446744073709551616 ∧ v i % 9223372036854775808 < 9218868437227405312) : ∀ d, d ≤ n → sumA v x n d ≤ 9218868437227405312
  | 0, _ => by
    show canonOf x ≤ _
    rw [canon_nn hx]; exact hx
  | d + 1, hd => by
    show caf .add (sumA v x n d) (caf .mul (v (n - 1 - d)) (v (n - 1 - d))) ≤ _
    have hd1 := hv (n - 1 - d) (by omega)
    obtain ⟨z, e1, l1⟩ := nn_sqr hd1.1 hd1.2
    obtain ⟨y, e2, l2⟩ := nn_sum (sumA_nn hx hv d (by omega)) l1
    unfold caf
    rw [e1]
    simp only [Option.map_some, Option.getD_some]
    rw [canon_nn l1, e2]
    simp only [Option.map_some, Option.getD_some]
    rw [canon_nn l2]
    exact l2
/-- What is foreseen, where nothing is refused: the sums are their own canonical numbers, and have roots. -/
theorem sums_raw {n x : Nat} {v a : Nat → Nat} (hx : x ≤ 9218868437227405312) (hv : ∀ i, i < n → v i < 18446744073709551616 ∧ v i % 9223372036854775808 < 9218868437227405312) (ha : ∀ j, j ≤ n → a j < 18446744073709551616) (hc : ∀ j, j ≤ n → canonOf (a j) = sumA v x n (n - j)) : ∀ j, j ≤ n → a j = sumA v x n (n - j) ∧ ∃ r, FloatKind.f64.format.sqrt (a j) = some r ∧ r < 18446744073709551616 := fun j hj => by
  have h1 := sumA_nn hx hv (n - j) (by omega)
  have h2 := hc j hj
  have h3 := nn_canon (ha j hj) (by rw [h2]; exact h1)
  have e : a j = sumA v x n (n - j) := by rw [← h2, h3]
  obtain ⟨r, e1, e2⟩ := nn_root h1
  exact ⟨e, r, by rw [e]; exact e1, by omega⟩
theorem wC_congr {f v0 v1 : Nat → Nat} {n : Nat} (h : ∀ i, i < n → canonOf (v0 i) = canonOf (v1 i)) : ∀ d i, d ≤ n → wC f v0 n d i = wC f v1 n d i
  | 0, _, _ => rfl
  | d + 1, i, hd => by
    show (if n - 1 - d ≤ i then caf .add (wC f v0 n d i) (caf .mul (canonOf (v0 (n - 1 - d))) _) else wC f v0 n d i) = (if n - 1 - d ≤ i then caf .add (wC f v1 n d i) (caf .mul (canonOf (v1 (n - 1 - d))) _) else wC f v1 n d i)
    rw [wC_congr h d i (by omega), h (n - 1 - d) (by omega)]
theorem cC_congr {s0 s1 : Nat → Nat} {n j : Nat} (h : ∀ i, i ≤ n → s0 i = s1 i) (hj : j < n) : cC s0 j = cC s1 j := by unfold cC; rw [h j (by omega), h (j + 1) (by omega)]
theorem tC_congr {v0 v1 s0 s1 : Nat → Nat} {n j : Nat} (hv : ∀ i, i < n → canonOf (v0 i) = canonOf (v1 i)) (h : ∀ i, i ≤ n → s0 i = s1 i) (hj : j < n) : tC v0 s0 j = tC v1 s1 j := by unfold tC; rw [h j (by omega), h (j + 1) (by omega), hv j hj]
theorem oC_congr {f v0 v1 s0 s1 : Nat → Nat} {n i j : Nat} (hv : ∀ i, i < n → canonOf (v0 i) = canonOf (v1 i)) (h : ∀ i, i ≤ n → s0 i = s1 i) (hj : j < n) : oC f v0 s0 n i j = oC f v1 s1 n i j := by
  unfold oC
  rw [cC_congr h hj, tC_congr hv h hj, wC_congr hv _ _ (by omega)]
end Go.Proofs.Ythakhmnlpmfdgaa
