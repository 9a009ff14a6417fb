/- What the document's answers for places do. -/
import Derived.Test.YtcfbahaclmehaaaDoorPlaces
namespace Go.Proofs.YtcfbahaclmehaaaDoor
open Go.RowKit Go.IntWalk

theorem rkey_w1 {x : Nat} (hx : x < 18446744073709551616) (hn : ¬ 9218868437227405312 < x % 9223372036854775808) (h : ((x : Int) / 9223372036854775808 == 1) = true) : -1 - (x : Int) % 9223372036854775808 = keyOf x := by
  have h' : (x : Int) / 9223372036854775808 = 1 := by simpa using h
  unfold keyOf
  rw [if_neg hn, if_pos (by omega)]
  omega
theorem rkey_w2 {x : Nat} (hx : x < 18446744073709551616) (hn : ¬ 9218868437227405312 < x % 9223372036854775808) (h : ((x : Int) / 9223372036854775808 == 1) = false) : wrap64 (x : Int) = keyOf x := by
  have h' : (x : Int) / 9223372036854775808 ≠ 1 := by simpa using h
  unfold keyOf
  rw [if_neg hn, if_neg (by omega), wrap64_in _ (by omega)]
  omega
set_option maxHeartbeats 400000 in
theorem rkey_any (x : Nat) (w : World) (hx : x < 18446744073709551616) :
    Calls Tryd.prog 60 #[.float .f64 x] w fun e w' => e = .returned (.int .i64 (keyOf x)) ∧ w' = w := by
  have ho := order_self x hx
  by_cases h : 9218868437227405312 < x % 9223372036854775808
  · rw [decide_eq_true h] at ho
    have H : Hid (9218868437227405312 < x % 9223372036854775808) := h
    clear h
    go_enter Tryd.func60, Tryd.ntmps60
    go_wp2_with (first | (go_at_call 67; refine (bits_any _ _ hx).mono ?_; rintro e w' ⟨rfl, rfl⟩))
    go_ret
    exact ⟨ret_int (by unfold keyOf; rw [if_pos H.out]), rfl⟩
  · rw [decide_eq_false h] at ho
    have H : Hid (¬ 9218868437227405312 < x % 9223372036854775808) := h
    have HC : Hid (canonOf x = x) := by show canonOf x = x; unfold canonOf; rw [if_neg h]
    clear h
    go_enter Tryd.func60, Tryd.ntmps60
    go_wp2_with (first | (go_at_call 67; refine (bits_any _ _ hx).mono ?_; rintro e w' ⟨rfl, rfl⟩; rw [HC.out]))
    all_goals go_ret
    · exact ⟨ret_int (rkey_w1 hx H.out ‹_›), rfl⟩
    · exact ⟨ret_int (rkey_w2 hx H.out ‹_›), rfl⟩

set_option maxHeartbeats 400000 in
theorem nan_any (w : World) :
    Calls Tryd.prog 92 #[] w fun e w' => e = .returned (.float .f64 9221120237041090561) ∧ w' = w := by
  have h2 := f64fromI
  go_enter Tryd.func92, Tryd.ntmps92
  go_wp2
  go_ret
  exact ⟨rfl, rfl⟩

set_option maxHeartbeats 400000 in
theorem runkey_any (k : Int) (w : World) (hk1 : -9223372036854775808 ≤ k) (hk2 : k ≤ 9223372036854775807) :
    Calls Tryd.prog 56 #[.int .i64 k] w fun e w' => e = .returned (.tuple #[.float .f64 (unkeyOf k), .int .i64 (unkeyErr k)]) ∧ w' = w := by
  have h1 := f64fromI
  by_cases hn : k = 9218868437227405313
  · subst hn
    have e1 : unkeyOf 9218868437227405313 = 9221120237041090561 := by decide
    have e2 : unkeyErr 9218868437227405313 = 0 := by decide
    rw [e1, e2]
    clear e1 e2
    go_enter Tryd.func56, Tryd.ntmps56
    go_wp2_with fail
    refine (nan_any _).mono ?_
    rintro e w1 ⟨rfl, rfl⟩
    go_wp2_with fail
    go_ret2
    exact ⟨rfl, rfl⟩
  · have hn' : (k == 9218868437227405313) = false := by simpa using hn
    by_cases hb : k < -9218868437227405313 ∨ 9218868437227405313 < k
    · have e1 : unkeyOf k = 0 := by unfold unkeyOf; rw [if_pos hb]
      have e2 : unkeyErr k = 1 := by unfold unkeyErr; rw [if_pos hb]
      rw [e1, e2]
      clear e1 e2
      rcases hb with hb | hb
      all_goals
        go_enter Tryd.func56, Tryd.ntmps56
        go_wp2
        go_ret2
        exact ⟨rfl, rfl⟩
    · have hb1 : -9218868437227405313 ≤ k := by omega
      have hb2 : k ≤ 9218868437227405312 := by omega
      have e2 : unkeyErr k = 0 := by unfold unkeyErr; rw [if_neg hb]
      rw [e2]
      clear e2
      by_cases h0 : k < 0
      · have e1 : Hid (unkeyOf k = (-1 - k).toNat + 9223372036854775808) := by show unkeyOf k = _; unfold unkeyOf; rw [if_neg hb, if_neg hn, if_pos h0]
        clear hb hn
        go_enter Tryd.func56, Tryd.ntmps56
        go_wp2
        go_ret2
        refine ⟨ret_fi ?_ rfl, rfl⟩
        rw [e1.out]
        omega
      · have e1 : Hid (unkeyOf k = k.toNat) := by show unkeyOf k = _; unfold unkeyOf; rw [if_neg hb, if_neg hn, if_neg h0]
        clear hb hn
        go_enter Tryd.func56, Tryd.ntmps56
        go_wp2
        go_ret2
        exact ⟨ret_fi e1.out.symm rfl, rfl⟩

set_option maxHeartbeats 400000 in
theorem rcompare_any (x y : Nat) (w : World) (hx : x < 18446744073709551616) (hy : y < 18446744073709551616) :
    Calls Tryd.prog 62 #[.float .f64 x, .float .f64 y] w fun e w' => e = .returned (.int .i64 (cmpOf (keyOf x) (keyOf y))) ∧ w' = w := by
  go_enter Tryd.func62, Tryd.ntmps62
  go_wp2_with fail
  refine (rkey_any x _ hx).mono ?_
  rintro e w' ⟨rfl, rfl⟩
  go_wp2_with fail
  refine (rkey_any y _ hy).mono ?_
  rintro e w' ⟨rfl, rfl⟩
  go_wp2_with fail
  all_goals go_ret
  all_goals (refine ⟨ret_int ?_, rfl⟩; unfold cmpOf)
  · rw [if_pos ‹_›]
  · rw [if_neg (by omega), if_pos ‹_›]
  · rw [if_neg (by omega), if_neg (by omega)]

theorem key_nan_iff (x : Nat) : keyOf x = 9218868437227405313 ↔ 9218868437227405312 < x % 9223372036854775808 := by
  unfold keyOf
  split
  · constructor <;> intro <;> first | assumption | rfl
  · split <;> constructor <;> intro <;> omega

set_option maxHeartbeats 400000 in
theorem rsteps_nan (x y : Nat) (w : World) (hx : x < 18446744073709551616) (hy : y < 18446744073709551616) (h : keyOf x = 9218868437227405313 ∨ keyOf y = 9218868437227405313) :
    Calls Tryd.prog 58 #[.float .f64 x, .float .f64 y] w fun e w' => e = .returned (.tuple #[.int .u64 0, .int .i64 4]) ∧ w' = w := by
  have ho := order_self x hx
  have ho2 := order_self y hy
  rw [key_nan_iff, key_nan_iff] at h
  by_cases h1 : 9218868437227405312 < x % 9223372036854775808
  · rw [decide_eq_true h1] at ho
    clear h h1 ho2
    go_enter Tryd.func58, Tryd.ntmps58
    go_wp2
    go_ret2
    exact ⟨rfl, rfl⟩
  · rw [decide_eq_false h1] at ho
    rw [decide_eq_true (by rcases h with h | h; exact absurd h h1; exact h)] at ho2
    clear h h1
    go_enter Tryd.func58, Tryd.ntmps58
    go_wp2
    go_ret2
    exact ⟨rfl, rfl⟩
set_option maxHeartbeats 400000 in
theorem rsteps_num (x y : Nat) (w : World) (hx : x < 18446744073709551616) (hy : y < 18446744073709551616) (h1 : keyOf x ≠ 9218868437227405313) (h2 : keyOf y ≠ 9218868437227405313) :
    Calls Tryd.prog 58 #[.float .f64 x, .float .f64 y] w fun e w' => e = .returned (.tuple #[.int .u64 ((keyOf x - keyOf y).natAbs : Nat), .int .i64 0]) ∧ w' = w := by
  have b1 := key_bd x
  have b2 := key_bd y
  have ho := order_self x hx
  have ho2 := order_self y hy
  rw [decide_eq_false (fun h => h1 ((key_nan_iff x).2 h))] at ho
  rw [decide_eq_false (fun h => h2 ((key_nan_iff y).2 h))] at ho2
  clear h1 h2
  go_enter Tryd.func58, Tryd.ntmps58
  go_wp2_with fail
  refine (rkey_any x _ hx).mono ?_
  rintro e w' ⟨rfl, rfl⟩
  go_wp2_with fail
  refine (rkey_any y _ hy).mono ?_
  rintro e w' ⟨rfl, rfl⟩
  obtain ⟨a, ha⟩ : ∃ a, Hid (keyOf x = a) := ⟨_, rfl⟩
  obtain ⟨b, hb⟩ : ∃ b, Hid (keyOf y = b) := ⟨_, rfl⟩
  rw [ha.out, hb.out]
  rw [ha.out] at b1
  rw [hb.out] at b2
  go_wp2
  · go_ret2
    exact ⟨ret_ii (by rw [ha.out, hb.out]; exact steps_w a b (by omega) (by omega)) rfl, rfl⟩
  · go_ret2
    refine ⟨ret_ii ?_ rfl, rfl⟩
    rw [ha.out, hb.out, steps_w b a (by omega) (by omega)]
    omega
end Go.Proofs.YtcfbahaclmehaaaDoor
