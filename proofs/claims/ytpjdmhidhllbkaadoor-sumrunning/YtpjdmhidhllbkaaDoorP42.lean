
/- The document's minus. -/
import Derived.Test.YtpjdmhidhllbkaaDoorP39
import Derived.Test.YtpjdmhidhllbkaaDoorP33
import Derived.Test.YtpjdmhidhllbkaaDoorP41
namespace Go.Proofs.YtpjdmhidhllbkaaDoor
open Go.RowKit Go.IntWalk

end Go.Proofs.YtpjdmhidhllbkaaDoor

namespace Go.Proofs.YtpjdmhidhllbkaaDoor
open Go.RowKit Go.IntWalk

theorem sum_le (zs : List Nat) (hf : FinL zs) : ∀ k, k ≤ zs.length → (sumSv zs k).natAbs ≤ k * 2 ^ kN
  | 0, _ => by show (0 : Int).natAbs ≤ _; simp
  | k + 1, hk => by
    have ih := sum_le zs hf k (by omega)
    obtain ⟨_, _, _, j3, _⟩ := sv_parts (zs.getD k 0) (hf k (by omega)).2
    show (sumSv zs k + sv (zs.getD k 0)).natAbs ≤ (k + 1) * 2 ^ kN
    rw [Nat.add_mul, Nat.one_mul]
    omega
theorem pw32 (m : Nat) : (4294967296 : Nat) ^ m = 2 ^ (32 * m) := by rw [show (4294967296 : Nat) = 2 ^ 32 by decide, ← Nat.pow_mul]
theorem small_bd (n k m : Nat) (hn : n ≤ 17592186044416) (h : k + 44 < 32 * m) : n * 2 ^ k < 4294967296 ^ m := by
  rw [pw32]
  have h1 : n * 2 ^ k ≤ 2 ^ (44 + k) := by rw [Nat.pow_add]; exact Nat.mul_le_mul_right _ (by rw [show (2 : Nat) ^ 44 = 17592186044416 by decide]; exact hn)
  exact Nat.lt_of_le_of_lt h1 (Nat.pow_lt_pow_right (by decide) (by omega))
theorem box_keep {W : World} {a b : Nat} (hab : a ≠ b) (x y : Value) : ((W.setCell ⟨b, 0, none⟩ x).setCell ⟨b, 1, none⟩ y).heap[a]? = W.heap[a]? := by
  simp [World.setCell, Array.getElem?_modify, hab.symm]
end Go.Proofs.YtpjdmhidhllbkaaDoor

namespace Go.Proofs.YtpjdmhidhllbkaaDoor
open Go.RowKit Go.IntWalk

theorem dot_le (xs ys : List Nat) (hf : FinL xs) (hg : FinL ys) (hl : ys.length = xs.length) : ∀ k, k ≤ xs.length → (dotSv xs ys k).natAbs ≤ k * 2 ^ (kN + kN)
  | 0, _ => by show (0 : Int).natAbs ≤ _; simp
  | k + 1, hk => by
    have ih := dot_le xs ys hf hg hl k (by omega)
    obtain ⟨_, _, _, j3, _⟩ := sv_parts (xs.getD k 0) (hf k (by omega)).2
    obtain ⟨_, _, _, i3, _⟩ := sv_parts (ys.getD k 0) (hg k (by omega)).2
    have hp : (sv (xs.getD k 0) * sv (ys.getD k 0)).natAbs ≤ 2 ^ (kN + kN) := by
      rw [Int.natAbs_mul, Nat.pow_add]
      exact Nat.mul_le_mul (Nat.le_of_lt j3) (Nat.le_of_lt i3)
    show (dotSv xs ys k + sv (xs.getD k 0) * sv (ys.getD k 0)).natAbs ≤ (k + 1) * 2 ^ (kN + kN)
    rw [Nat.add_mul, Nat.one_mul]
    omega
/-- The sum's box, as it lies while a product is made. -/
def SBox (W : World) (sb p : Nat) (e : Int) : Prop := W.cell? ⟨sb, 0, none⟩ = some (.pointer (some ⟨p, 0, none⟩)) ∧ W.cell? ⟨sb, 1, none⟩ = some (.int .i64 e) ∧ (∀ o, W.frozen? ⟨sb, o, none⟩ = false)
end Go.Proofs.YtpjdmhidhllbkaaDoor
