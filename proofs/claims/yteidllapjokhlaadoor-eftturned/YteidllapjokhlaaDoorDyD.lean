
/- What dyad's left does. -/
import Derived.Test.YteidllapjokhlaaDoorDyC
namespace Go.Proofs.YteidllapjokhlaaDoor
open Go.RowKit Go.IntWalk

/-- What holds ahead of the k-th round: the words told so far, and what is carried. -/
def DLInv (L : List Nat) (q s : Nat) (o : Nat → Nat) (c k : Nat) : Prop := natF o (q + k) + 4294967296 ^ (q + k) * c = natL (L.take k) * 2 ^ (32 * q + s) ∧ c < 2 ^ s ∧ ∀ j, o j < 4294967296
theorem DLInv.zero (L : List Nat) (q s : Nat) : DLInv L q s (fun _ => 0) 0 0 := ⟨by rw [natF_zero]; show 0 + _ * 0 = 0 * _; rw [Nat.mul_zero, Nat.zero_mul], Nat.two_pow_pos s, fun _ => (show 0 < 4294967296 by decide)⟩
theorem DLInv.step {L : List Nat} {q s : Nat} {o : Nat → Nat} {c k : Nat} (h : DLInv L q s o c k) (hk : k < L.length) (hs : s < 32) (hD : DigL L) : DLInv L q s (fun j => if j = q + k then (c + L.getD k 0 * 2 ^ s) % 4294967296 else o j) ((c + L.getD k 0 * 2 ^ s) / 4294967296) (k + 1) ∧ c + L.getD k 0 * 2 ^ s < 18446744073709551616 := by
  obtain ⟨h1, h2, h3⟩ := h
  obtain ⟨t1, t2, t3, t4⟩ := shl_lt (L.getD k 0) s (hD.get k) hs
  have hd := hD.get k
  have hp := Nat.two_pow_pos s
  have hb : c + L.getD k 0 * 2 ^ s < 4294967296 * 2 ^ s := by
    have : (L.getD k 0 + 1) * 2 ^ s ≤ 4294967296 * 2 ^ s := Nat.mul_le_mul_right _ hd
    rw [Nat.add_mul, Nat.one_mul] at this
    omega
  refine ⟨⟨?_, ?_, fun j => ?_⟩, ?_⟩
  · rw [natL_take_succ L k hk, Nat.add_mul, ← h1, ← Nat.add_assoc]
    show natF _ (q + k) + 4294967296 ^ (q + k) * (if q + k = q + k then _ else o (q + k)) + _ = _
    rw [if_pos rfl, natF_congr _ o (q + k) (fun j hj => if_neg (by omega)), Nat.pow_succ]
    obtain ⟨t, ht⟩ : ∃ t, L.getD k 0 * 2 ^ s = t := ⟨_, rfl⟩
    have e1 : 4294967296 ^ k * L.getD k 0 * 2 ^ (32 * q + s) = 4294967296 ^ (q + k) * t := by
      rw [← ht, pow32, pow32, Nat.mul_assoc, Nat.pow_add]
      rw [show L.getD k 0 * (2 ^ (32 * q) * 2 ^ s) = 2 ^ (32 * q) * (L.getD k 0 * 2 ^ s) by rw [Nat.mul_left_comm]]
      rw [← Nat.mul_assoc, ← Nat.pow_add]
      congr 2
      omega
    rw [e1, ht]
    have e := Nat.div_add_mod (c + t) 4294967296
    obtain ⟨Q, hQ⟩ : ∃ Q, (c + t) / 4294967296 = Q := ⟨_, rfl⟩
    obtain ⟨R, hR⟩ : ∃ R, (c + t) % 4294967296 = R := ⟨_, rfl⟩
    rw [hQ, hR] at e ⊢
    have e2 : 4294967296 ^ (q + k) * (4294967296 * Q + R) = 4294967296 ^ (q + k) * (c + t) := by rw [e]
    rw [Nat.mul_add, Nat.mul_add, ← Nat.mul_assoc] at e2
    omega
  · rw [Nat.div_lt_iff_lt_mul (by decide), Nat.mul_comm (2 ^ s)]
    exact hb
  · show (if j = q + k then _ else o j) < _
    split
    · exact Nat.mod_lt _ (by decide)
    · exact h3 j
  · have : 4294967296 * 2 ^ s ≤ 4294967296 * 4294967296 := Nat.mul_le_mul_left _ t4
    omega
theorem or_carry (c t s : Nat) (hs : s < 32) (hc : c < 2 ^ s) (ht : t < 18446744073709551616) (hm : t % 2 ^ s = 0) : bits .or .u64 (c : Int) (t : Int) = ((c + t : Nat) : Int) := by
  have h1 : (2 : Nat) ^ s ≤ 2 ^ 32 := Nat.pow_le_pow_right (by decide) (by omega)
  have h32 : (2 : Nat) ^ 32 = 4294967296 := by decide
  rw [u64_or_nat c t (by omega) ht]
  congr 1
  obtain ⟨d, hd⟩ : ∃ d, t = 2 ^ s * d := ⟨t / 2 ^ s, by have := Nat.div_add_mod t (2 ^ s); omega⟩
  rw [hd, Nat.or_comm, Nat.add_comm]
  exact (Nat.two_pow_add_eq_or_of_lt hc d).symm
end Go.Proofs.YteidllapjokhlaaDoor
