
/- What Bits, same, Unkey and Steps do. -/
import Derived.Test.YtfeojdmffipinaaDoorBase
import Derived.Test.YtfeojdmffipinaaDoorFloats
namespace Go.Proofs.YtfeojdmffipinaaDoor
open Go.RowKit Go.IntWalk

theorem f64fromI (n : Int) (w : World) : (callFunc 64 #[.int .u64 n]).run Tryd.prog w = .ok (.value (.float .f64 n.toNat)) w := by
  rw [run_callFunc_extern Tryd.func64 (by kernel_rfl) (by kernel_rfl) (by kernel_rfl) (e := Extern.MathFloatBits.float64frombits) (by kernel_rfl)]; rfl

set_option maxHeartbeats 400000 in
theorem bits_any (x : Nat) (w : World) (hx : x < 18446744073709551616) :
    Calls Tryd.prog 68 #[.float .f64 x] w fun e w' => e = .returned (.int .u64 (canonOf x)) ∧ w' = w := by
  have h1 := f64bits
  have ho := order_self x hx
  by_cases h : 9218868437227405312 < x % 9223372036854775808
  · rw [decide_eq_true h] at ho
    have H : Hid (9218868437227405312 < x % 9223372036854775808) := h
    clear h
    go_enter Tryd.func68, Tryd.ntmps68
    go_wp2
    go_ret
    exact ⟨ret_int (by unfold canonOf; rw [if_pos H.out]; rfl), rfl⟩
  · rw [decide_eq_false h] at ho
    have H : Hid (¬ 9218868437227405312 < x % 9223372036854775808) := h
    clear h
    go_enter Tryd.func68, Tryd.ntmps68
    go_wp2
    go_ret
    exact ⟨ret_int (by unfold canonOf; rw [if_neg H.out]), rfl⟩

set_option maxHeartbeats 400000 in
theorem same_any (x y : Nat) (w : World) (hy : y < 18446744073709551616) :
    Calls Tryd.prog 14 #[.float .f64 x, .float .f64 y] w fun e w' => e = .returned (.bool (x == canonOf y)) ∧ w' = w := by
  have h1 := f64bits
  go_enter Tryd.func14, Tryd.ntmps14
  go_wp2_with fail
  refine (bits_any y _ hy).mono ?_
  rintro e w' ⟨rfl, rfl⟩
  go_wp2_with fail
  go_ret
  exact ⟨ret_bool (nat_beq _ _), rfl⟩

set_option maxHeartbeats 400000 in
theorem unkey_any (k : Int) (w : World) (hk1 : -9223372036854775808 ≤ k) (hk2 : k ≤ 9223372036854775807) :
    Calls Tryd.prog 12 #[.int .i64 k] w fun e w' => e = .returned (.tuple #[.float .f64 (unkeyOf k), .int .i64 (unkeyErr k)]) ∧ Below w.heap.size w w' := by
  have h1 := f64fromI
  by_cases hb : k < -9218868437227405313 ∨ 9218868437227405313 < k
  · have e1 : unkeyOf k = 0 := by unfold unkeyOf; rw [if_pos hb]
    have e2 : unkeyErr k = 1 := by unfold unkeyErr; rw [if_pos hb]
    rw [e1, e2]
    clear e1 e2
    rcases hb with hb | hb
    all_goals
      go_enter Tryd.func12, Tryd.ntmps12
      go_wp2
      go_ret2
      exact ⟨rfl, Below.refl _ _⟩
  · have hb1 : -9218868437227405313 ≤ k := by omega
    have hb2 : k ≤ 9218868437227405313 := by omega
    have e2 : unkeyErr k = 0 := by unfold unkeyErr; rw [if_neg hb]
    rw [e2]
    clear e2
    by_cases hn : k = 9218868437227405313
    · subst hn
      have e1 : unkeyOf 9218868437227405313 = 9221120237041090561 := by decide
      rw [e1]
      clear e1
      have hfl : ∀ w, (Instr.field 83 (.agg #[.int .i64 52, .int .u64 4503599627370495, .int .u64 2047, .int .u64 9223372036854775808, .int .u64 9218868437227405312, .int .u64 9221120237041090561, .int .i64 1075]) 5).run Tryd.prog w = .ok (.int .u64 9221120237041090561) w := fun _ => by kernel_rfl
      go_enter Tryd.func12, Tryd.ntmps12
      go_wp2_with fail
      refine (layout64_any _).mono ?_
      rintro e w1 ⟨rfl, hb⟩
      go_wp2_with fail
      go_ret2
      exact ⟨rfl, hb⟩
    · have hn' : (k == 9218868437227405313) = false := by simpa using hn
      by_cases h0 : k < 0
      · have e1 : Hid (unkeyOf k = (-1 - k).toNat + 9223372036854775808) := by show unkeyOf k = _; unfold unkeyOf; rw [if_neg hb, if_neg hn, if_pos h0]
        clear hb hn
        go_enter Tryd.func12, Tryd.ntmps12
        go_wp2
        go_ret2
        exact ⟨ret_fi (by rw [e1.out]; exact unkey_neg_w k hb1 h0) rfl, Below.refl _ _⟩
      · have e1 : Hid (unkeyOf k = k.toNat) := by show unkeyOf k = _; unfold unkeyOf; rw [if_neg hb, if_neg hn, if_neg h0]
        clear hb hn
        go_enter Tryd.func12, Tryd.ntmps12
        go_wp2
        go_ret2
        exact ⟨ret_fi e1.out.symm rfl, Below.refl _ _⟩

theorem steps_w (a b : Int) (h : b ≤ a) (h2 : a - b < 18446744073709551616) : IntKind.u64.wrap (IntKind.u64.wrap a - IntKind.u64.wrap b) = ((a - b).natAbs : Int) := by
  rw [IntKind.wrap_u64, IntKind.wrap_u64, IntKind.wrap_u64]; omega
end Go.Proofs.YtfeojdmffipinaaDoor
