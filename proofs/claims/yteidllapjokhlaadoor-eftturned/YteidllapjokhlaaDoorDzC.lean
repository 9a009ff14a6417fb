
/- What math/bits' Mul64 does; one product more in dyad's total. -/
import Derived.Test.YteidllapjokhlaaDoorP41
import Derived.Lib.Mul64
import Derived.Laws.Bits64b
namespace Go.Proofs.YteidllapjokhlaaDoor
open Go.RowKit Go.IntWalk

theorem low32 (a : Nat) (ha : a < 18446744073709551616) : bits .and .u64 (a : Int) 4294967295 = ((a % 4294967296 : Nat) : Int) := by
  have h := bits_and_u64_nat a 4294967295 ha (by omega)
  rw [show a &&& 4294967295 = a % 4294967296 from Nat.and_two_pow_sub_one_eq_mod a 32] at h
  exact h
theorem nat_quo (a : Nat) : (a : Int) / 4294967296 = ((a / 4294967296 : Nat) : Int) := by omega
theorem nat_mul (a b : Nat) : (a : Int) * (b : Int) = ((a * b : Nat) : Int) := (Int.natCast_mul a b).symm
theorem nat_add (a b : Nat) : (a : Int) + (b : Int) = ((a + b : Nat) : Int) := (Int.natCast_add a b).symm
theorem nat_wrap (a : Nat) : IntKind.u64.wrap (a : Int) = ((a % 18446744073709551616 : Nat) : Int) := by rw [IntKind.wrap_u64]; omega
theorem nat_in (a : Nat) (ha : a < 18446744073709551616) : IntKind.u64.wrap (a : Int) = (a : Int) := by rw [nat_wrap, Nat.mod_eq_of_lt ha]
set_option maxHeartbeats 1000000 in
theorem Mul64_dy (x y : Nat) (w : World) (hx : x < 18446744073709551616) (hy : y < 18446744073709551616) :
    Calls Tryd.prog 53 #[.int .u64 x, .int .u64 y] w fun r w' => r = .returned (.tuple #[.int .u64 ((x * y / 18446744073709551616 : Nat) : Int), .int .u64 ((x * y % 18446744073709551616 : Nat) : Int)]) ∧ w' = w := by
  obtain ⟨k1, k2, k3, k4⟩ := Go.Lib.mul64_hi x y hx hy
  have m1 := Go.Lib.half_mul_le (a := x / 4294967296) (b := y / 4294967296) (by omega) (by omega)
  have m2 := Go.Lib.half_mul_le (a := x / 4294967296) (b := y % 4294967296) (by omega) (by omega)
  have m3 := Go.Lib.half_mul_le (a := x % 4294967296) (b := y / 4294967296) (by omega) (by omega)
  have n1 : x / 4294967296 * (y / 4294967296) < 18446744073709551616 := by omega
  have n2 : x / 4294967296 * (y % 4294967296) < 18446744073709551616 := by omega
  have n3 : x % 4294967296 * (y / 4294967296) < 18446744073709551616 := by omega
  have n4 : x / 4294967296 * (y / 4294967296) + (x / 4294967296 * (y % 4294967296) + x % 4294967296 * (y % 4294967296) / 4294967296) / 4294967296 < 18446744073709551616 := by omega
  have n5 : x / 4294967296 * (y / 4294967296) + (x / 4294967296 * (y % 4294967296) + x % 4294967296 * (y % 4294967296) / 4294967296) / 4294967296 + ((x / 4294967296 * (y % 4294967296) + x % 4294967296 * (y % 4294967296) / 4294967296) % 4294967296 + x % 4294967296 * (y / 4294967296)) / 4294967296 < 18446744073709551616 := by omega
  go_enter Tryd.func53, Tryd.ntmps53
  go_wp2
  simp only [low32 x hx, low32 y hy, nat_quo, nat_mul, nat_add, nat_in _ k1, nat_in _ n2, nat_in _ k2, low32 _ k2, nat_in _ n3, nat_in _ k3, nat_in _ n1, nat_in _ n4, nat_in _ n5, nat_wrap (x * y)]
  rw [k4]
  go_ret2
  exact ⟨rfl, rfl⟩
/-- The sum of products of two lists' numbers, in steps of 2^-2148. -/
def dotSv (xs ys : List Nat) : Nat → Int
  | 0 => 0
  | k + 1 => dotSv xs ys k + sv (xs.getD k 0) * sv (ys.getD k 0)
theorem sgn_abs (n : Bool) (m j : Nat) (s : Int) (h : sgnN n m * 2 ^ j = s) : m * 2 ^ j = s.natAbs := by
  rw [← h, Int.natAbs_mul, Int.natAbs_pow]
  congr 1
  unfold sgnN
  split <;> simp
theorem sgn_prod (n1 n2 : Bool) (m1 m2 : Nat) : sgnN (n1 != n2) (m1 * m2) = sgnN n1 m1 * sgnN n2 m2 := by
  unfold sgnN
  cases n1 <;> cases n2 <;> simp [Int.mul_neg, Int.neg_mul]
theorem sgn_pow (n : Bool) (m j : Nat) : sgnN n (m * 2 ^ j) = sgnN n m * 2 ^ j := by
  unfold sgnN
  split
  · rw [Int.natCast_mul, Int.natCast_pow, Int.neg_mul]; rfl
  · rw [Int.natCast_mul, Int.natCast_pow]; rfl
theorem pexp_small (x : Nat) (hf : x % 9223372036854775808 < 9218868437227405312) : pExp x ≤ 1023 := by
  obtain ⟨v1, v2, v3, v4, v5⟩ := parts_val x hf
  by_cases h0 : mantOf x = 0
  · have hp : pExp x = 0 := by unfold pExp; rw [if_pos (Or.inr h0)]
    omega
  · obtain ⟨p1, p2, p3, p4, p5, p6⟩ := v5 h0
    have hbp := bitLen_pos p1
    omega
/-- One product more. -/
theorem dot_put (x y b k : Nat) (S : Int) (W0 w : World) (h : AccI W0 b S k w) (hx : x % 9223372036854775808 < 9218868437227405312) (hy : y % 9223372036854775808 < 9218868437227405312) (hk : k < 18446744073709551616) :
    Calls Tryd.prog 54 #[.pointer (some ⟨b, 0, none⟩), .bool (pNeg x != pNeg y), .int .u64 ((pMant x * pMant y / 18446744073709551616 : Nat) : Int), .int .u64 ((pMant x * pMant y % 18446744073709551616 : Nat) : Int), .int .i64 (pExp x + pExp y)] w fun r w' => r = .returned (.tuple #[]) ∧ AccI W0 b (S + sv x * sv y) (k + 1) w' := by
  obtain ⟨i, i1, i2, i3, i4, i5, i6, i7⟩ := sv_parts x hx
  obtain ⟨j, j1, j2, j3, j4, j5, j6, j7⟩ := sv_parts y hy
  have a1 := sgn_abs _ _ _ _ i1
  have a2 := sgn_abs _ _ _ _ j1
  have eV : pMant x * pMant y % 18446744073709551616 + 18446744073709551616 * (pMant x * pMant y / 18446744073709551616) = pMant x * pMant y := Nat.mod_add_div _ _
  have hlt : pMant x * pMant y < 18446744073709551616 * 18446744073709551616 := Nat.mul_lt_mul'' i7 j7
  have eP : pMant x * pMant y * 2 ^ (i + j) = pMant x * 2 ^ i * (pMant y * 2 ^ j) := by rw [Nat.pow_add, Nat.mul_mul_mul_comm]
  have hv : (pMant x * pMant y % 18446744073709551616 + 18446744073709551616 * (pMant x * pMant y / 18446744073709551616)) * 2 ^ (i + j) < 2 ^ kT := by
    rw [eV, eP, a1, a2]
    have h1 : (sv x).natAbs * (sv y).natAbs < 2 ^ kN * 2 ^ kN := Nat.mul_lt_mul'' i3 j3
    rw [← Nat.pow_add] at h1
    rw [show kT = kN + kN from rfl]
    exact h1
  have q1 := pexp_small x hx
  have q2 := pexp_small y hy
  have hp := acc_put (pNeg x != pNeg y) b (pMant x * pMant y % 18446744073709551616) (pMant x * pMant y / 18446744073709551616) (i + j) k (pExp x + pExp y) S W0 w h (Nat.mod_lt _ (by decide)) (Nat.div_lt_of_lt_mul hlt) (by omega) (by omega) hv hk
  refine hp.mono ?_
  rintro r w' ⟨rfl, ha⟩
  refine ⟨rfl, ?_⟩
  have e : sgnN (pNeg x != pNeg y) ((pMant x * pMant y % 18446744073709551616 + 18446744073709551616 * (pMant x * pMant y / 18446744073709551616)) * 2 ^ (i + j)) = sv x * sv y := by
    rw [eV, sgn_pow, sgn_prod, ← i1, ← j1, Int.pow_add]
    rw [Int.mul_assoc, Int.mul_assoc]
    congr 1
    rw [← Int.mul_assoc, ← Int.mul_assoc, Int.mul_comm (sgnN _ _) (2 ^ i)]
  rw [e] at ha
  exact ha
end Go.Proofs.YteidllapjokhlaaDoor
