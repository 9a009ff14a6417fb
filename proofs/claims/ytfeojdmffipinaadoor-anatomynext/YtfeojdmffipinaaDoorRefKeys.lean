
/- What the document's answers for places do. -/
import Derived.Test.YtfeojdmffipinaaDoorPlaces
namespace Go.Proofs.YtfeojdmffipinaaDoor
open Go.RowKit Go.IntWalk

theorem rkey_w1 {x : Nat} (hx : x < 18446744073709551616) (hn : ¬ 9218868437227405312 < x % 9223372036854775808) (h : ((x : Int) / 9223372036854775808 == 1) = true) : -1 - (x : Int) % 9223372036854775808 = keyOf x := by
  have h' : (x : Int) / 9223372036854775808 = 1 := by simpa using h
  unfold keyOf
  rw [if_neg hn, if_pos (by omega)]
  omega
theorem rkey_w2 {x : Nat} (hx : x < 18446744073709551616) (hn : ¬ 9218868437227405312 < x % 9223372036854775808) (h : ((x : Int) / 9223372036854775808 == 1) = false) : wrap64 (x : Int) = keyOf x := by
  have h' : (x : Int) / 9223372036854775808 ≠ 1 := by simpa using h
  unfold keyOf
  rw [if_neg hn, if_neg (by omega), wrap64_in _ (by omega)]
  omega
set_option maxHeartbeats 400000 in
theorem rkey_any (x : Nat) (w : World) (hx : x < 18446744073709551616) :
    Calls Tryd.prog 85 #[.float .f64 x] w fun e w' => e = .returned (.int .i64 (keyOf x)) ∧ w' = w := by
  have ho := order_self x hx
  by_cases h : 9218868437227405312 < x % 9223372036854775808
  · rw [decide_eq_true h] at ho
    have H : Hid (9218868437227405312 < x % 9223372036854775808) := h
    clear h
    go_enter Tryd.func85, Tryd.ntmps85
    go_wp2_with (first | (go_at_call 68; refine (bits_any _ _ hx).mono ?_; rintro e w' ⟨rfl, rfl⟩))
    go_ret
    exact ⟨ret_int (by unfold keyOf; rw [if_pos H.out]), rfl⟩
  · rw [decide_eq_false h] at ho
    have H : Hid (¬ 9218868437227405312 < x % 9223372036854775808) := h
    have HC : Hid (canonOf x = x) := by show canonOf x = x; unfold canonOf; rw [if_neg h]
    clear h
    go_enter Tryd.func85, Tryd.ntmps85
    go_wp2_with (first | (go_at_call 68; refine (bits_any _ _ hx).mono ?_; rintro e w' ⟨rfl, rfl⟩; rw [HC.out]))
    all_goals go_ret
    · exact ⟨ret_int (rkey_w1 hx H.out ‹_›), rfl⟩
    · exact ⟨ret_int (rkey_w2 hx H.out ‹_›), rfl⟩

set_option maxHeartbeats 400000 in
theorem nan_any (w : World) :
    Calls Tryd.prog 88 #[] w fun e w' => e = .returned (.float .f64 9221120237041090561) ∧ w' = w := by
  have h2 := f64fromI
  go_enter Tryd.func88, Tryd.ntmps88
  go_wp2
  go_ret
  exact ⟨rfl, rfl⟩

set_option maxHeartbeats 400000 in
theorem runkey_any (k : Int) (w : World) (hk1 : -9223372036854775808 ≤ k) (hk2 : k ≤ 9223372036854775807) :
    Calls Tryd.prog 86 #[.int .i64 k] w fun e w' => e = .returned (.tuple #[.float .f64 (unkeyOf k), .int .i64 (unkeyErr k)]) ∧ w' = w := by
  have h1 := f64fromI
  by_cases hn : k = 9218868437227405313
  · subst hn
    have e1 : unkeyOf 9218868437227405313 = 9221120237041090561 := by decide
    have e2 : unkeyErr 9218868437227405313 = 0 := by decide
    rw [e1, e2]
    clear e1 e2
    go_enter Tryd.func86, Tryd.ntmps86
    go_wp2_with fail
    refine (nan_any _).mono ?_
    rintro e w1 ⟨rfl, rfl⟩
    go_wp2_with fail
    go_ret2
    exact ⟨rfl, rfl⟩
  · have hn' : (k == 9218868437227405313) = false := by simpa using hn
    by_cases hb : k < -9218868437227405313 ∨ 9218868437227405313 < k
    · have e1 : unkeyOf k = 0 := by unfold unkeyOf; rw [if_pos hb]
      have e2 : unkeyErr k = 1 := by unfold unkeyErr; rw [if_pos hb]
      rw [e1, e2]
      clear e1 e2
      rcases hb with hb | hb
      all_goals
        go_enter Tryd.func86, Tryd.ntmps86
        go_wp2
        go_ret2
        exact ⟨rfl, rfl⟩
    · have hb1 : -9218868437227405313 ≤ k := by omega
      have hb2 : k ≤ 9218868437227405312 := by omega
      have e2 : unkeyErr k = 0 := by unfold unkeyErr; rw [if_neg hb]
      rw [e2]
      clear e2
      by_cases h0 : k < 0
      · have e1 : Hid (unkeyOf k = (-1 - k).toNat + 9223372036854775808) := by show unkeyOf k = _; unfold unkeyOf; rw [if_neg hb, if_neg hn, if_pos h0]
        clear hb hn
        go_enter Tryd.func86, Tryd.ntmps86
        go_wp2
        go_ret2
        refine ⟨ret_fi ?_ rfl, rfl⟩
        rw [e1.out]
        omega
      · have e1 : Hid (unkeyOf k = k.toNat) := by show unkeyOf k = _; unfold unkeyOf; rw [if_neg hb, if_neg hn, if_neg h0]
        clear hb hn
        go_enter Tryd.func86, Tryd.ntmps86
        go_wp2
        go_ret2
        exact ⟨ret_fi e1.out.symm rfl, rfl⟩

theorem key_nan_iff (x : Nat) : keyOf x = 9218868437227405313 ↔ 9218868437227405312 < x % 9223372036854775808 := by
  unfold keyOf
  split
  · constructor <;> intro <;> first | assumption | rfl
  · split <;> constructor <;> intro <;> omega

end Go.Proofs.YtfeojdmffipinaaDoor
