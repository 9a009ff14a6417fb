
/- What eft's signOf, Det and Turn do: the sign of the exact number, or ErrNumber. -/
import Derived.Test.YteidllapjokhlaaDoorP44
namespace Go.Proofs.YteidllapjokhlaaDoor
open Go.RowKit Go.IntWalk

def sgnZ (z : Int) : Int := if z = 0 then 0 else if z < 0 then -1 else 1
theorem sgnZ_neg (z : Int) : sgnZ (-z) = -sgnZ z := by
  unfold sgnZ
  split <;> split <;> (try split) <;> (try split) <;> omega
theorem sgnZ_le (z : Int) : -1 ≤ sgnZ z ∧ sgnZ z ≤ 1 := by
  unfold sgnZ
  split
  · omega
  · split <;> omega
theorem flip_md (x : Nat) (hx : x < 18446744073709551616) : flipOf x % 9223372036854775808 = x % 9223372036854775808 ∧ (9223372036854775808 ≤ flipOf x ↔ ¬ 9223372036854775808 ≤ x) := by
  unfold flipOf
  split <;> omega
theorem sv_flip (x : Nat) (hx : x < 18446744073709551616) : sv (flipOf x) = -sv x := by
  obtain ⟨h1, h2⟩ := flip_md x hx
  unfold sv
  rw [h1]
  by_cases c : 9223372036854775808 ≤ x
  · rw [if_pos c, if_neg (fun d => h2.1 d c), Int.neg_neg]
  · rw [if_neg c, if_pos (h2.2 c)]
theorem exp_flip (x : Nat) (hx : x < 18446744073709551616) : (expOf (flipOf x) == 2047) = (expOf x == 2047) := by
  obtain ⟨h1, h2⟩ := flip_md x hx
  have hf := flip_lt hx
  rw [Bool.eq_iff_iff, beq_iff_eq, beq_iff_eq]
  unfold expOf canonOf
  rw [h1]
  by_cases c : 9218868437227405312 < x % 9223372036854775808
  · rw [if_pos c, if_pos c]
  · rw [if_neg c, if_neg c]
    omega
theorem neg_flip (x : Nat) (hx : x < 18446744073709551616) : Op.unary .neg (.float .f64 x) = pure (.float .f64 (flipOf x)) := by
  have h := xor_sign x hx
  have h2 := u64_xor_nat x 9223372036854775808 hx (by omega)
  have e : x ^^^ 9223372036854775808 = flipOf x := by
    have h3 := h2.symm.trans h
    omega
  rw [← e]
  rfl
set_option maxHeartbeats 400000 in
theorem signOf_dy (neg : Bool) (a : Option Addr) (n cap : Nat) (e' z e : Int) (w : World) (h : DyAt w neg a n cap e' z e) :
    Calls Tryd.prog 28 #[.agg #[.bool neg, .slice a n cap, .int .i64 e'], .int .i64 0] w fun r w' => r = .returned (.tuple #[.int .i64 (sgnZ z), .int .i64 0]) ∧ Below w.heap.size w w' := by
  obtain ⟨L, rfl, hcap, hm, hv, hmay⟩ := h
  have key : (L.length = 0 ∧ sgnZ z = 0) ∨ ((1 : Int) ≤ (L.length : Int) ∧ sgnZ z = if neg then -1 else 1) := by
    rcases hv.val with ⟨z0, l0, m0, x0⟩ | ⟨l0, o0, z0, k, hk, hx⟩
    · left; rw [l0, z0]; exact ⟨rfl, rfl⟩
    · right
      refine ⟨?_, ?_⟩
      · have : L.length ≠ 0 := fun c => l0 (List.length_eq_zero_iff.1 c)
        omega
      · have hp : (0 : Int) < 2 ^ k := Int.pow_pos (by decide)
        have hn : (0 : Int) < (natL L : Int) := by omega
        have hq : (0 : Int) < (natL L : Int) * 2 ^ k := Int.mul_pos hn hp
        unfold intL at hk
        unfold sgnZ
        rw [if_neg z0]
        cases neg
        · rw [if_neg (by decide)] at hk
          rw [if_neg (show ¬ z < 0 by omega)]; rfl
        · rw [if_pos rfl, Int.neg_mul] at hk
          rw [if_pos (show z < 0 by omega)]; rfl
  obtain ⟨l, hl⟩ : ∃ l, Hid (L.length = l) := ⟨_, rfl⟩
  obtain ⟨s, hs⟩ : ∃ s, Hid (sgnZ z = s) := ⟨_, rfl⟩
  rw [hl.out, hs.out] at key
  rw [hl.out, hs.out]
  clear hcap hm hv hmay
  rcases key with ⟨rfl, rfl⟩ | ⟨h1, h2⟩
  · go_enter Tryd.func28, Tryd.ntmps28
    go_wp2
    go_ret2
    exact ⟨rfl, (Below.refl _ _).alloc (Nat.le_refl _) _⟩
  · subst h2
    cases neg
    · go_enter Tryd.func28, Tryd.ntmps28
      go_wp2
      go_ret2
      exact ⟨rfl, (Below.refl _ _).alloc (Nat.le_refl _) _⟩
    · go_enter Tryd.func28, Tryd.ntmps28
      go_wp2
      go_ret2
      exact ⟨rfl, (Below.refl _ _).alloc (Nat.le_refl _) _⟩
set_option maxHeartbeats 400000 in
theorem signOf_err (neg : Bool) (a : Option Addr) (n cap : Nat) (e' : Int) (w : World) :
    Calls Tryd.prog 28 #[.agg #[.bool neg, .slice a n cap, .int .i64 e'], .int .i64 4] w fun r w' => r = .returned (.tuple #[.int .i64 0, .int .i64 4]) ∧ Below w.heap.size w w' := by
  go_enter Tryd.func28, Tryd.ntmps28
  go_wp2
  go_ret2
  exact ⟨rfl, (Below.refl _ _).alloc (Nat.le_refl _) _⟩
end Go.Proofs.YteidllapjokhlaaDoor
