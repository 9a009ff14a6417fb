
/- How many numbers a motion has; what is wrong with one: of plain functions, no program is spoken of. -/
import Derived.Test.YtfngjoaghbofgaaDoorP32
namespace Go.Proofs.YtfngjoaghbofgaaDoor
open Go.RowKit Go.IntWalk

/-- The first error of the first k. -/
def scE (E : Nat → Int) : Nat → Int
  | 0 => 0
  | k + 1 => if scE E k = 0 then E k else scE E k
theorem scE_stop {E : Nat → Int} {k n : Nat} (h0 : scE E k = 0) (h1 : E k ≠ 0) (hk : k < n) : scE E n = E k := by
  induction n with
  | zero => omega
  | succ n ih =>
    show (if scE E n = 0 then E n else scE E n) = E k
    by_cases h : k = n
    · subst h
      rw [if_pos h0]
    · have := ih (by omega)
      rw [if_neg (by rw [this]; exact h1), this]
theorem scE_all {E : Nat → Int} {n : Nat} (h : scE E n = 0) : ∀ i, i < n → E i = 0 := by
  induction n with
  | zero => intro i hi; omega
  | succ n ih =>
    have h' : (if scE E n = 0 then E n else scE E n) = 0 := h
    by_cases h0 : scE E n = 0
    · rw [if_pos h0] at h'
      intro i hi
      by_cases hin : i = n
      · subst hin; exact h'
      · exact ih h0 i (by omega)
    · rw [if_neg h0] at h'
      exact absurd h' h0
theorem scE_step {E : Nat → Int} {k : Nat} (h0 : scE E k = 0) (h1 : E k = 0) : scE E (k + 1) = 0 := by
  show (if scE E k = 0 then E k else scE E k) = 0
  rw [if_pos h0, h1]
/-- The sum, held at 13; the sum. -/
def cS (S : Nat → Int) : Nat → Int
  | 0 => 0
  | k + 1 => min (cS S k + S k) 13
def uS (S : Nat → Int) : Nat → Int
  | 0 => 0
  | k + 1 => uS S k + S k
theorem cS_in (S : Nat → Int) (n : Nat) (h : ∀ i, i < n → 1 ≤ S i) : 0 ≤ cS S n ∧ cS S n ≤ 13 := by
  induction n with
  | zero => exact ⟨Int.le_refl _, (by decide : (0 : Int) ≤ 13)⟩
  | succ n ih =>
    have a := ih (fun i hi => h i (by omega))
    have b := h n (by omega)
    show 0 ≤ min (cS S n + S n) 13 ∧ min (cS S n + S n) 13 ≤ 13
    omega
theorem uS_is (S : Nat → Int) (n : Nat) (h : ∀ i, i < n → 1 ≤ S i) (hc : cS S n ≤ 12) : ∀ k, k ≤ n → uS S k = cS S k ∧ 0 ≤ cS S k ∧ cS S k ≤ 12 := by
  induction n with
  | zero =>
    intro k hk
    have : k = 0 := by omega
    subst this
    exact ⟨rfl, Int.le_refl _, (by decide : (0 : Int) ≤ 12)⟩
  | succ n ih =>
    have a := cS_in S n (fun i hi => h i (by omega))
    have b := h n (by omega)
    have hc' : min (cS S n + S n) 13 ≤ 12 := hc
    have d := ih (fun i hi => h i (by omega)) (by omega)
    intro k hk
    by_cases hkn : k = n + 1
    · subst hkn
      have e := (d n (Nat.le_refl _)).1
      show uS S n + S n = min (cS S n + S n) 13 ∧ 0 ≤ min (cS S n + S n) 13 ∧ min (cS S n + S n) 13 ≤ 12
      omega
    · exact d k (by omega)
/-- The numbers of a part. -/
def ptS (K A : Nat → Int) (i : Nat) : Int := A i * szK (K i)
def ptEs (K A : Nat → Int) (N F : Nat → Nat) (i : Nat) : Int := ptE (K i) (A i) (N i) (F i)
theorem szK_in (k : Int) : 0 ≤ szK k ∧ szK k ≤ 3 := by
  unfold szK
  split
  · omega
  · split
    · omega
    · split <;> omega
theorem ptS_in {K A : Nat → Int} {N F : Nat → Nat} {i : Nat} (h : ptEs K A N F i = 0) : 1 ≤ ptS K A i ∧ ptS K A i ≤ 36 ∧ (1 ≤ A i ∧ A i ≤ 12) ∧ 1 ≤ szK (K i) ∧ szK (K i) ≤ 3 := by
  unfold ptEs ptE at h
  have hz := szK_in (K i)
  by_cases h0 : szK (K i) = 0
  · rw [if_pos h0] at h; omega
  rw [if_neg h0] at h
  by_cases h1 : A i < 1 ∨ 12 < A i
  · rw [if_pos h1] at h; omega
  have a1 : 1 ≤ A i ∧ A i ≤ 12 := by omega
  have p1 : A i * szK (K i) ≤ 12 * 3 := Int.mul_le_mul a1.2 hz.2 (by omega) (by omega)
  have p2 : 0 < A i * szK (K i) := Int.mul_pos (by omega) (by omega)
  refine ⟨?_, ?_, a1, by omega, by omega⟩
  · show 1 ≤ A i * szK (K i); omega
  · show A i * szK (K i) ≤ 36; omega
/-- What Check tells; how many numbers Dim tells. -/
def dmE (n : Nat) (K A : Nat → Int) (N F : Nat → Nat) : Int := if n = 0 then 1 else if scE (ptEs K A N F) n ≠ 0 then scE (ptEs K A N F) n else if 12 < cS (ptS K A) n then 2 else 0
def dmV (n : Nat) (K A : Nat → Int) (N F : Nat → Nat) : Int := if dmE n K A N F = 0 then cS (ptS K A) n else 0
theorem dm_zero {n : Nat} {K A : Nat → Int} {N F : Nat → Nat} (h : dmE n K A N F = 0) : n ≠ 0 ∧ scE (ptEs K A N F) n = 0 ∧ cS (ptS K A) n ≤ 12 ∧ dmV n K A N F = cS (ptS K A) n ∧ (∀ k, k ≤ n → uS (ptS K A) k = cS (ptS K A) k ∧ 0 ≤ cS (ptS K A) k ∧ cS (ptS K A) k ≤ 12) ∧ 1 ≤ cS (ptS K A) n := by
  have hv : dmV n K A N F = cS (ptS K A) n := by unfold dmV; rw [if_pos h]
  unfold dmE at h
  by_cases h0 : n = 0
  · rw [if_pos h0] at h; omega
  rw [if_neg h0] at h
  by_cases h1 : scE (ptEs K A N F) n = 0
  · rw [if_neg (fun h => h h1)] at h
    by_cases h2 : 12 < cS (ptS K A) n
    · rw [if_pos h2] at h; omega
    have hall : ∀ i, i < n → 1 ≤ ptS K A i := fun i hi => (ptS_in (scE_all h1 i hi)).1
    refine ⟨h0, h1, by omega, hv, uS_is _ _ hall (by omega), ?_⟩
    obtain ⟨m, rfl⟩ : ∃ m, n = m + 1 := ⟨n - 1, by omega⟩
    have a := cS_in (ptS K A) m (fun i hi => hall i (by omega))
    have b := hall m (by omega)
    show 1 ≤ min (cS (ptS K A) m + ptS K A m) 13
    omega
  · rw [if_pos h1] at h
    exact absurd h h1
end Go.Proofs.YtfngjoaghbofgaaDoor
