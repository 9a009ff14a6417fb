
/- What a product of lists of words comes to, step by step; no program is spoken of. -/
import Derived.Test.YtfdphegiafccpaaP8
namespace Go.Proofs.Ytfdphegiafccpaa
open Go Go.RowKit Go.IntWalk

def setW (o : Nat → Nat) (p v : Nat) : Nat → Nat := fun j => if j = p then v else o j
/-- One step of the inner loop: a word of the product is laid, the rest is carried. -/
theorem times_step (o : Nat → Nat) (n p x y c : Nat) (hp : p < n) : natF (setW o p ((x * y + o p + c) % 4294967296)) n + 4294967296 ^ (p + 1) * ((x * y + o p + c) / 4294967296) = natF o n + 4294967296 ^ p * (x * y + c) := by
  have h1 := natF_set o n p ((x * y + o p + c) % 4294967296) hp
  obtain ⟨t, ht⟩ : ∃ t, x * y + o p + c = t := ⟨_, rfl⟩
  rw [ht] at h1 ⊢
  have e0 : natF (setW o p (t % 4294967296)) n = natF (fun j => if j = p then t % 4294967296 else o j) n := rfl
  rw [e0, Nat.pow_succ]
  have hd : t = 4294967296 * (t / 4294967296) + t % 4294967296 := (Nat.div_add_mod t 4294967296).symm
  have h3 : 4294967296 ^ p * t = 4294967296 ^ p * 4294967296 * (t / 4294967296) + 4294967296 ^ p * (t % 4294967296) := by
    conv => lhs; rw [hd]
    rw [Nat.mul_add, Nat.mul_assoc]
  have h4 : 4294967296 ^ p * t = 4294967296 ^ p * (x * y + c) + 4294967296 ^ p * o p := by
    rw [← ht, ← Nat.mul_add]
    congr 1
    omega
  omega
/-- The words stay words, and the carry too. -/
theorem times_lt (x y u c : Nat) (hx : x < 4294967296) (hy : y < 4294967296) (hu : u < 4294967296) (hc : c < 4294967296) : x * y + u + c < 18446744073709551616 ∧ (x * y + u + c) / 4294967296 < 4294967296 := by
  have h : x * y ≤ 4294967295 * 4294967295 := Nat.mul_le_mul (by omega) (by omega)
  omega
/-- Ahead of the k-th round of the inner loop, in the i-th of the outer one. -/
def XInv (b : List Nat) (x i n V : Nat) (o : Nat → Nat) (k c : Nat) : Prop := natF o n + 4294967296 ^ (i + k) * c = V + 4294967296 ^ i * (x * natL (b.take k)) ∧ c < 4294967296 ∧ (∀ j, o j < 4294967296) ∧ (∀ j, i + b.length ≤ j → o j = 0)
theorem XInv.zero (b : List Nat) (x i n : Nat) (o : Nat → Nat) (hlt : ∀ j, o j < 4294967296) (hz : ∀ j, i + b.length ≤ j → o j = 0) : XInv b x i n (natF o n) o 0 0 :=
  ⟨by show natF o n + _ * 0 = natF o n + _ * (x * 0); simp, by decide, hlt, hz⟩
theorem XInv.step {b : List Nat} {x i n V : Nat} {o : Nat → Nat} {k c : Nat} (h : XInv b x i n V o k c) (hk : k < b.length) (hn : i + b.length ≤ n) (hx : x < 4294967296) (hb : DigL b) : XInv b x i n V (setW o (i + k) ((x * b.getD k 0 + o (i + k) + c) % 4294967296)) (k + 1) ((x * b.getD k 0 + o (i + k) + c) / 4294967296) := by
  obtain ⟨h1, h2, h3, h4⟩ := h
  refine ⟨?_, (times_lt x _ _ c hx (hb.get k) (h3 _) h2).2, fun j => ?_, fun j hj => ?_⟩
  · have hs := times_step o n (i + k) x (b.getD k 0) c (by omega)
    have e : i + (k + 1) = i + k + 1 := by omega
    rw [e, hs, natL_take_succ b k hk]
    rw [Nat.mul_add (4294967296 ^ (i + k))]
    have e3 : 4294967296 ^ i * (x * (natL (b.take k) + 4294967296 ^ k * b.getD k 0)) = 4294967296 ^ i * (x * natL (b.take k)) + 4294967296 ^ (i + k) * (x * b.getD k 0) := by
      rw [Nat.mul_add x, Nat.mul_add (4294967296 ^ i), Nat.pow_add, ← Nat.mul_assoc x, Nat.mul_comm x (4294967296 ^ k), Nat.mul_assoc (4294967296 ^ k), ← Nat.mul_assoc (4294967296 ^ i) (4294967296 ^ k)]
    rw [e3]
    omega
  · unfold setW
    split
    · exact Nat.mod_lt _ (by decide)
    · exact h3 j
  · unfold setW
    rw [if_neg (by omega)]
    exact h4 j hj
/-- Behind the inner loop the carry is laid too: a row more. -/
theorem XInv.row {b : List Nat} {x i n V : Nat} {o : Nat → Nat} {c : Nat} (h : XInv b x i n V o b.length c) (hn : i + b.length < n) : natF (setW o (i + b.length) c) n = V + 4294967296 ^ i * (x * natL b) ∧ (∀ j, setW o (i + b.length) c j < 4294967296) ∧ (∀ j, i + 1 + b.length ≤ j → setW o (i + b.length) c j = 0) := by
  obtain ⟨h1, h2, h3, h4⟩ := h
  rw [List.take_length] at h1
  have hs := natF_set o n (i + b.length) c hn
  rw [h4 _ (Nat.le_refl _), Nat.mul_zero, Nat.add_zero] at hs
  refine ⟨?_, fun j => ?_, fun j hj => ?_⟩
  · have e0 : natF (setW o (i + b.length) c) n = natF (fun j => if j = i + b.length then c else o j) n := rfl
    rw [e0, hs]
    exact h1
  · unfold setW
    split
    · exact h2
    · exact h3 j
  · unfold setW
    rw [if_neg (by omega)]
    exact h4 j (by omega)
end Go.Proofs.Ytfdphegiafccpaa
