
/- What the document's Bits, Split, Class and Finite do (as in Places, RefFields, FieldsWalk, without the laws' own functions). -/
import Derived.Test.YtglgjkhfoajflaaP6
import Derived.Test.YtglgjkhfoajflaaP2
import Derived.Test.YtglgjkhfoajflaaP16
namespace Go.Proofs.Ytglgjkhfoajflaa
open Go.RowKit Go.IntWalk

set_option maxHeartbeats 400000 in
theorem bits_any (x : Nat) (w : World) (hx : x < 18446744073709551616) :
    Calls Try.prog 32 #[.float .f64 x] w fun e w' => e = .returned (.int .u64 (canonOf x)) ∧ w' = w := by
  have h1 := f64bits
  have ho := order_self x hx
  by_cases h : 9218868437227405312 < x % 9223372036854775808
  · rw [decide_eq_true h] at ho
    have H : Hid (9218868437227405312 < x % 9223372036854775808) := h
    clear h
    go_enter Try.func32, Try.ntmps32
    go_wp2
    go_ret
    exact ⟨ret_int (by unfold canonOf; rw [if_pos H.out]; rfl), rfl⟩
  · rw [decide_eq_false h] at ho
    have H : Hid (¬ 9218868437227405312 < x % 9223372036854775808) := h
    clear h
    go_enter Try.func32, Try.ntmps32
    go_wp2
    go_ret
    exact ⟨ret_int (by unfold canonOf; rw [if_neg H.out]), rfl⟩

theorem neg_r {x : Nat} (hx : x < 18446744073709551616) : ((canonOf x : Int) / 9223372036854775808 == 1) = negOf x := by
  have hl := canon_lt hx
  unfold negOf
  rw [Bool.eq_iff_iff, beq_iff_eq, decide_eq_true_eq]
  omega
theorem exp_r {x : Nat} (hx : x < 18446744073709551616) : (canonOf x : Int) / 4503599627370496 % 2048 = (expOf x : Int) := by
  have hl := canon_lt hx
  unfold expOf
  omega
theorem frac_r (x : Nat) : (canonOf x : Int) % 4503599627370496 = (fracOf x : Int) := by
  unfold fracOf
  omega

set_option maxHeartbeats 400000 in
theorem rsplit_any (x : Nat) (w : World) (hx : x < 18446744073709551616) :
    Calls Try.prog 74 #[.float .f64 x] w fun e w' => e = .returned (.tuple #[.bool (negOf x), .int .i64 (expOf x), .int .u64 (fracOf x)]) ∧ w' = w := by
  go_enter Try.func74, Try.ntmps74
  go_wp2_with fail
  refine (bits_any x _ hx).mono ?_
  rintro e w' ⟨rfl, rfl⟩
  go_wp2_with fail
  go_ret3
  exact ⟨ret_bii (neg_r hx) (exp_r hx) (frac_r x), rfl⟩

set_option maxHeartbeats 400000 in
theorem classify_any (x : Nat) (w : World) :
    Calls Try.prog 75 #[.int .i64 (expOf x), .int .u64 (fracOf x), .int .i64 2047] w fun e w' => e = .returned (.int .i64 (classN x)) ∧ w' = w := by
  go_enter Try.func75, Try.ntmps75
  go_wp2
  all_goals (go_ret; refine ⟨ret_int ?_, rfl⟩; unfold classN; simp_all; try (split <;> first | rfl | omega))
set_option maxHeartbeats 400000 in
theorem rclass_any (x : Nat) (w : World) (hx : x < 18446744073709551616) :
    Calls Try.prog 50 #[.float .f64 x] w fun e w' => e = .returned (.int .i64 (classN x)) ∧ w' = w := by
  go_enter Try.func50, Try.ntmps50
  go_wp2_with fail
  refine (rsplit_any x _ hx).mono ?_
  rintro e w' ⟨rfl, rfl⟩
  go_wp2_with fail
  refine (classify_any x _).mono ?_
  rintro e w' ⟨rfl, rfl⟩
  go_wp2_with fail
  go_ret
  exact ⟨rfl, rfl⟩
theorem class_fin (x : Nat) : decide ((2 : Int) < (classN x : Int)) = !(expOf x == 2047) := by
  unfold classN
  by_cases h : expOf x = 2047
  · rw [if_pos h, h]; split <;> rfl
  · rw [if_neg h]
    have : (expOf x == 2047) = false := by simpa using h
    rw [this]
    split
    · split <;> rfl
    · rfl
set_option maxHeartbeats 400000 in
theorem rfinite_any (x : Nat) (w : World) (hx : x < 18446744073709551616) :
    Calls Try.prog 19 #[.float .f64 x] w fun r w' => r = .returned (.bool (!(expOf x == 2047))) ∧ w' = w := by
  go_enter Try.func19, Try.ntmps19
  go_wp2_with fail
  refine (rclass_any x _ hx).mono ?_
  rintro r w' ⟨rfl, rfl⟩
  go_wp2_with fail
  go_ret
  exact ⟨ret_bool (class_fin x), rfl⟩
end Go.Proofs.Ytglgjkhfoajflaa
