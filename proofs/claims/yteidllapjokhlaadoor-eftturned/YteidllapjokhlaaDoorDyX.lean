
/- What dyad's total does: adding in place. -/
import Derived.Test.YteidllapjokhlaaDoorDyI
namespace Go.Proofs.YteidllapjokhlaaDoor
open Go.RowKit Go.IntWalk

/-- The words from a place on. -/
def seg (b : Nat) (o : Nat → Nat) : Nat → Nat := fun j => o (b + j)
def digN (V t : Nat) : Nat := V / 4294967296 ^ t % 4294967296
/-- What holds ahead of the t-th round of put. -/
def PutI (o0 o : Nat → Nat) (b q s V c U t : Nat) : Prop :=
  natF (seg b o) 134 + 4294967296 ^ (q + t) * (c + U) = natF (seg b o0) 134 + 4294967296 ^ q * (V % 4294967296 ^ t * 2 ^ s) ∧ c ≤ 1 ∧ U < 2 ^ s ∧ (∀ j, o j < 4294967296) ∧ ∀ j, (j < b ∨ b + 134 ≤ j) → o j = o0 j
theorem PutI.zero (o : Nat → Nat) (b q s V : Nat) (ho : ∀ j, o j < 4294967296) : PutI o o b q s V 0 0 0 := by
  refine ⟨?_, by decide, Nat.two_pow_pos s, ho, fun _ _ => rfl⟩
  rw [Nat.pow_zero, Nat.mod_one, Nat.zero_mul, Nat.mul_zero, Nat.mul_zero]
theorem seg_set (b : Nat) (o : Nat → Nat) (i v : Nat) : seg b (fun j => if j = b + i then v else o j) = fun j => if j = i then v else seg b o j := by
  funext j
  show (if b + j = b + i then v else o (b + j)) = if j = i then v else o (b + j)
  by_cases h : j = i
  · rw [if_pos (by omega), if_pos h]
  · rw [if_neg (by omega), if_neg h]
theorem PutI.step {o0 o : Nat → Nat} {b q s V c U t : Nat} (h : PutI o0 o b q s V c U t) (hs : s < 32) (ht : q + t < 134) :
    PutI o0 (fun j => if j = b + (q + t) then (c + (o (b + (q + t)) + (U + digN V t * 2 ^ s) % 4294967296)) % 4294967296 else o j) b q s V ((c + (o (b + (q + t)) + (U + digN V t * 2 ^ s) % 4294967296)) / 4294967296) ((U + digN V t * 2 ^ s) / 4294967296) (t + 1) ∧ U + digN V t * 2 ^ s < 18446744073709551616 := by
  obtain ⟨h1, h2, h3, h4, h5⟩ := h
  have hd : digN V t < 4294967296 := Nat.mod_lt _ (by decide)
  have hx := h4 (b + (q + t))
  have hp := Nat.two_pow_pos s
  have h32 : (2 : Nat) ^ s ≤ 2 ^ 32 := Nat.pow_le_pow_right (by decide) (by omega)
  have e32 : (2 : Nat) ^ 32 = 4294967296 := by decide
  have hT : U + digN V t * 2 ^ s < 4294967296 * 2 ^ s := by
    have : (digN V t + 1) * 2 ^ s ≤ 4294967296 * 2 ^ s := Nat.mul_le_mul_right _ hd
    rw [Nat.add_mul, Nat.one_mul] at this
    omega
  have hT2 : U + digN V t * 2 ^ s < 18446744073709551616 := by
    have : 4294967296 * 2 ^ s ≤ 4294967296 * 4294967296 := Nat.mul_le_mul_left _ (by omega)
    omega
  have hmod : V % 4294967296 ^ (t + 1) = V % 4294967296 ^ t + 4294967296 ^ t * digN V t := by
    unfold digN
    rw [Nat.pow_succ, Nat.mod_mul]
  obtain ⟨T, hTT⟩ : ∃ T, U + digN V t * 2 ^ s = T := ⟨_, rfl⟩
  obtain ⟨x, hxx⟩ : ∃ x, o (b + (q + t)) = x := ⟨_, rfl⟩
  rw [hTT] at hT hT2 ⊢
  rw [hxx] at hx ⊢
  refine ⟨⟨?_, by omega, ?_, fun j => ?_, fun j hj => ?_⟩, hT2⟩
  · rw [seg_set]
    have e1 := natF_set (seg b o) 134 (q + t) ((c + (x + T % 4294967296)) % 4294967296) ht
    have e2 : seg b o (q + t) = x := hxx
    rw [e2] at e1
    have e3 : 4294967296 ^ q * (4294967296 ^ t * digN V t * 2 ^ s) = 4294967296 ^ (q + t) * (digN V t * 2 ^ s) := by
      rw [Nat.mul_assoc, ← Nat.mul_assoc, ← Nat.pow_add]
    have hr : 4294967296 ^ q * (V % 4294967296 ^ (t + 1) * 2 ^ s) = 4294967296 ^ q * (V % 4294967296 ^ t * 2 ^ s) + 4294967296 ^ (q + t) * (digN V t * 2 ^ s) := by rw [hmod, Nat.add_mul, Nat.mul_add, e3]
    have e4 : q + (t + 1) = q + t + 1 := by omega
    rw [hr, e4, Nat.pow_succ]
    have d1 := Nat.div_add_mod (c + (x + T % 4294967296)) 4294967296
    have d2 := Nat.div_add_mod T 4294967296
    obtain ⟨P, hP⟩ : ∃ P, 4294967296 ^ (q + t) = P := ⟨_, rfl⟩
    obtain ⟨F, hF⟩ : ∃ F, natF (seg b o) 134 = F := ⟨_, rfl⟩
    obtain ⟨F', hF'⟩ : ∃ F', natF (fun j => if j = q + t then (c + (x + T % 4294967296)) % 4294967296 else seg b o j) 134 = F' := ⟨_, rfl⟩
    obtain ⟨Z, hZ⟩ : ∃ Z, 4294967296 ^ q * (V % 4294967296 ^ t * 2 ^ s) = Z := ⟨_, rfl⟩
    obtain ⟨D, hD⟩ : ∃ D, digN V t * 2 ^ s = D := ⟨_, rfl⟩
    rw [hP, hF, hF'] at e1
    rw [hP, hF, hZ] at h1
    rw [hF', hP, hZ, hD]
    rw [hD] at hTT
    obtain ⟨R, hR⟩ : ∃ R, (c + (x + T % 4294967296)) % 4294967296 = R := ⟨_, rfl⟩
    obtain ⟨Q, hQ⟩ : ∃ Q, (c + (x + T % 4294967296)) / 4294967296 = Q := ⟨_, rfl⟩
    obtain ⟨l, hl⟩ : ∃ l, T % 4294967296 = l := ⟨_, rfl⟩
    obtain ⟨k, hk⟩ : ∃ k, T / 4294967296 = k := ⟨_, rfl⟩
    rw [hR, hQ, hl] at d1
    rw [hR] at e1
    rw [hl, hk] at d2
    rw [hQ, hk]
    have m1 : P * (4294967296 * Q + R) = P * (c + (x + l)) := by rw [d1]
    have m2 : P * (4294967296 * k + l) = P * T := by rw [d2]
    have m3 : P * T = P * U + P * D := by rw [← hTT, Nat.mul_add]
    rw [Nat.mul_add, Nat.mul_add, Nat.mul_add, ← Nat.mul_assoc] at m1
    rw [Nat.mul_add, ← Nat.mul_assoc] at m2
    rw [Nat.mul_add] at h1 ⊢
    omega
  · rw [Nat.div_lt_iff_lt_mul (by decide), Nat.mul_comm (2 ^ s)]
    exact hT
  · show (if j = b + (q + t) then _ else o j) < _
    split
    · exact Nat.mod_lt _ (by decide)
    · exact h4 j
  · show (if j = b + (q + t) then _ else o j) = _
    rw [if_neg (by omega)]
    exact h5 j hj
/-- What put has done, when nothing is carried any more. -/
theorem PutI.done {o0 o : Nat → Nat} {b q s V t : Nat} (h : PutI o0 o b q s V 0 0 t) (hV : V < 340282366920938463463374607431768211456) (ht : 4 ≤ t) : natF (seg b o) 134 = natF (seg b o0) 134 + V * 2 ^ (32 * q + s) ∧ (∀ j, o j < 4294967296) ∧ ∀ j, (j < b ∨ b + 134 ≤ j) → o j = o0 j := by
  obtain ⟨h1, _, _, h4, h5⟩ := h
  have hp : (340282366920938463463374607431768211456 : Nat) ≤ 4294967296 ^ t := by
    have : (4294967296 : Nat) ^ 4 ≤ 4294967296 ^ t := Nat.pow_le_pow_right (by decide) ht
    have e : (4294967296 : Nat) ^ 4 = 340282366920938463463374607431768211456 := by decide
    omega
  rw [Nat.mod_eq_of_lt (Nat.lt_of_lt_of_le hV hp), Nat.add_zero, Nat.mul_zero, Nat.add_zero, pow32, Nat.mul_left_comm, ← Nat.pow_add] at h1
  exact ⟨h1, h4, h5⟩
theorem PutI.last {o0 o : Nat → Nat} {b q s V c U t : Nat} (h : PutI o0 o b q s V c U t) (ht : q + t = 134) (hlt : natF (seg b o0) 134 + V * 2 ^ (32 * q + s) < 4294967296 ^ 134) : natF (seg b o) 134 = natF (seg b o0) 134 + V * 2 ^ (32 * q + s) ∧ (∀ j, o j < 4294967296) ∧ ∀ j, (j < b ∨ b + 134 ≤ j) → o j = o0 j := by
  obtain ⟨h1, _, _, h4, h5⟩ := h
  have e0 : V * 2 ^ (32 * q + s) = 4294967296 ^ q * (V * 2 ^ s) := by rw [pow32, Nat.mul_left_comm, ← Nat.pow_add]
  have hVt : V < 4294967296 ^ t := by
    apply Classical.byContradiction
    intro hc
    have a1 : 4294967296 ^ t ≤ V := by omega
    have a2 : 4294967296 ^ q * 4294967296 ^ t ≤ 4294967296 ^ q * (V * 2 ^ s) := Nat.mul_le_mul_left _ (Nat.le_trans a1 (Nat.le_mul_of_pos_right _ (Nat.two_pow_pos s)))
    rw [← Nat.pow_add, ht] at a2
    omega
  rw [Nat.mod_eq_of_lt hVt, ht, ← e0] at h1
  have hcu : c + U = 0 := by
    apply Classical.byContradiction
    intro hc
    have : 4294967296 ^ 134 * 1 ≤ 4294967296 ^ 134 * (c + U) := Nat.mul_le_mul_left _ (by omega)
    omega
  rw [hcu, Nat.mul_zero, Nat.add_zero] at h1
  exact ⟨h1, h4, h5⟩
end Go.Proofs.YteidllapjokhlaaDoor
