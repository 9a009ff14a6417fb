
/- The document's Mean; Mean of any matrix. (Written by mknce.py.) -/
import Derived.Test.YthakhmnlpmfdgaaP31
namespace Go.Proofs.Ythakhmnlpmfdgaa
open Go.RowKit Go.IntWalk

theorem canon_qu (x y : Nat) (w : World) : canonOf (quF x y w) = caf .quo x y := by
  unfold quF caf
  cases h : floatBits .quo .f64 x y with
  | none => exact canon_nan (nanF_nan x y w)
  | some z => rfl
/-- The sum of two finite numbers. -/
def zadd (a b : Nat) : Nat := (floatBits .add .f64 a b).getD 0
/-- The numbers of the mean, from the diagonal down. -/
def meaL (f : Nat → Nat) (c i j : Nat) : Nat := if i = j then canonOf (f (i * c + i)) else caf .quo (zadd (f (i * c + j)) (f (j * c + i))) 4611686018427387904
def meaV (f : Nat → Nat) (c i j : Nat) : Nat := if j ≤ i then meaL f c i j else meaL f c j i
theorem mean_can {f : Nat → Nat} {c i j x : Nat} (w : World) (hf : ∀ k, k < c * c → f k < 18446744073709551616 ∧ f k % 9223372036854775808 < 9218868437227405312) (hi : i < c) (hj : j < c) (h : MeanP f c i j x) : canonOf x = meaL f c i j := by
  unfold meaL
  rcases h with ⟨h1, h2⟩ | ⟨h1, W, W', h2⟩
  · rw [if_pos h1, h2]
  · rw [if_neg h1, h2, canon_qu]
    have a1 := hf _ (place_lt hi hj)
    have a2 := hf _ (place_lt hj hi)
    obtain ⟨z, hz, _, _⟩ := fin_some ok_a w _ _ a1.1 a2.1 a1.2 a2.2
    unfold arF zadd
    rw [hz]
    rfl
end Go.Proofs.Ythakhmnlpmfdgaa
