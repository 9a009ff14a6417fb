
/- What the document's Ulp does. -/
import Derived.Test.YtfeojdmffipinaaDoorRefNext
namespace Go.Proofs.YtfeojdmffipinaaDoor
open Go.RowKit Go.IntWalk

theorem abs_pos (a b P : Nat) (h : b = a + P) : ((b : Int) - (a : Int)).natAbs = P := by omega
theorem step_eq (r : Nat) (h : r < 9223372036854775808) : stepOf r = max (r / 4503599627370496) 1 - 1 := by
  unfold stepOf
  rw [Nat.mod_eq_of_lt h]
theorem step_le (r : Nat) (h : r % 9223372036854775808 < 9218868437227405312) : stepOf r ≤ 2045 := by unfold stepOf; omega
/-- The difference of neighbours is the step. -/
theorem sub_next (a : Nat) (h : a + 1 < 9218868437227405312) : FloatKind.f64.format.sub (a + 1) a = some (powN (stepOf a)) := by
  have s1 := sv_pos a (by omega)
  have s2 := sv_pos (a + 1) (by omega)
  have hlt := nv_lt (Nat.lt_succ_self a)
  have hst := nv_step a
  refine sub_exact (a + 1) a _ (by omega) (by omega) (by omega) (by omega) (pow_lt_inf _ (step_le a (by omega))) (by rw [s1, s2]; exact Int.ofNat_lt.2 hlt) ?_
  rw [nv_pow, s1, s2, step_eq _ (by omega)]
  exact abs_pos _ _ _ hst
theorem max_test (a : Nat) (h : a < 9218868437227405312) : (FloatKind.f64.format.order a 9218868437227405311 == some .eq) = decide (a = 9218868437227405311) := by
  rw [order_eq' a _ (by omega) (by omega) (by omega) (by omega), sv_pos a (by omega), sv_pos 9218868437227405311 (by omega)]
  apply decide_eq_decide.2
  constructor
  · intro h2
    apply Classical.byContradiction
    intro h3
    have := nv_lt (r := a) (s := 9218868437227405311) (by omega)
    omega
  · intro h2; rw [h2]

set_option maxHeartbeats 400000 in
theorem rulp_any (x : Nat) (w : World) (hx : x < 18446744073709551616) :
    Calls Tryd.prog 43 #[.float .f64 x] w fun r w' => r = .returned (.float .f64 (ulpOf x)) ∧ w' = w := by
  obtain ⟨a, ha⟩ : ∃ a, Hid (x % 9223372036854775808 = a) := ⟨_, rfl⟩
  have HAL : Hid (a < 18446744073709551616) := by show a < _; rw [← ha.out]; omega
  by_cases he : expOf x = 2047
  · have HU : Hid (ulpOf x = canonOf a) := by
      show ulpOf x = canonOf a
      unfold ulpOf
      rw [if_pos he, ← ha.out]
      have := (exp_top x hx).1 he
      unfold canonOf
      by_cases hn : 9218868437227405312 < x % 9223372036854775808
      · rw [if_pos hn, if_pos (by omega)]
      · rw [if_neg hn, if_neg (by omega)]
    have HQ : Hid ((expOf x == 2047) = true) := by show (expOf x == 2047) = true; rw [he]; rfl
    clear he
    go_enter Tryd.func43, Tryd.ntmps43
    go_wp2_with fail
    refine (abs_any x _ hx).mono ?_
    rw [ha.out]
    rintro r w1 ⟨rfl, rfl⟩
    go_wp2_with fail
    refine (rfinite_any x _ hx).mono ?_
    rw [HQ.out]
    rintro r w1 ⟨rfl, rfl⟩
    go_wp2_with fail
    refine (rcanon_any a _ HAL.out).mono ?_
    rintro r w1 ⟨rfl, rfl⟩
    go_wp2_with fail
    go_ret
    exact ⟨ret_f HU.out.symm, rfl⟩
  · have HQ : Hid ((expOf x == 2047) = false) := by show (expOf x == 2047) = false; simpa using he
    have hfin : a < 9218868437227405312 := by
      apply Classical.byContradiction
      intro h3
      exact he ((exp_top x hx).2 (by rw [ha.out]; exact h3))
    have hm := max_test a hfin
    by_cases hmx : a = 9218868437227405311
    · rw [decide_eq_true hmx] at hm
      have HU : Hid (powN (stepOf (a - 1)) = ulpOf x) := by
        show powN (stepOf (a - 1)) = ulpOf x
        unfold ulpOf
        rw [if_neg he]
        congr 1
        unfold stepOf
        rw [ha.out, hmx]
      have HPV : Hid (prevOf a = a - 1) := by
        show prevOf a = a - 1
        have := prev_pos (a - 1) (by omega) (by omega)
        rwa [Nat.sub_add_cancel (by omega)] at this
      have hsb : ∀ t w, (binOp .sub t (.float .f64 a) (.float .f64 (a - 1))).run Tryd.prog w = .ok (.float .f64 (powN (stepOf (a - 1)))) w := by
        intro t w
        have e := sub_next (a - 1) (by omega)
        rw [Nat.sub_add_cancel (by omega)] at e
        exact run_float_arith w .sub t .f64 _ _ _ e
      obtain ⟨b, hb⟩ : ∃ b, Hid (a - 1 = b) := ⟨_, rfl⟩
      rw [hb.out] at hsb HPV HU
      obtain ⟨p, hp⟩ : ∃ p, Hid (powN (stepOf b) = p) := ⟨_, rfl⟩
      rw [hp.out] at hsb HU
      clear he hfin hmx
      go_enter Tryd.func43, Tryd.ntmps43
      go_wp2_with fail
      refine (abs_any x _ hx).mono ?_
      rw [ha.out]
      rintro r w1 ⟨rfl, rfl⟩
      go_wp2_with fail
      refine (rfinite_any x _ hx).mono ?_
      rw [HQ.out]
      rintro r w1 ⟨rfl, rfl⟩
      go_wp2_with fail
      refine (rprev_any a _ HAL.out).mono ?_
      rw [HPV.out]
      rintro r w1 ⟨rfl, rfl⟩
      go_wp2_with fail
      go_ret
      exact ⟨ret_f HU.out, rfl⟩
    · rw [decide_eq_false hmx] at hm
      have HU : Hid (powN (stepOf a) = ulpOf x) := by
        show powN (stepOf a) = ulpOf x
        unfold ulpOf
        rw [if_neg he]
        congr 1
        unfold stepOf
        rw [ha.out, Nat.mod_eq_of_lt (by omega)]
      have HNX : Hid (nextOf a = a + 1) := next_pos a hfin
      have hsb : ∀ t w, (binOp .sub t (.float .f64 (a + 1)) (.float .f64 a)).run Tryd.prog w = .ok (.float .f64 (powN (stepOf a))) w := fun t w =>
        run_float_arith w .sub t .f64 _ _ _ (sub_next a (by omega))
      obtain ⟨b, hb⟩ : ∃ b, Hid (a + 1 = b) := ⟨_, rfl⟩
      rw [hb.out] at hsb HNX
      obtain ⟨p, hp⟩ : ∃ p, Hid (powN (stepOf a) = p) := ⟨_, rfl⟩
      rw [hp.out] at hsb HU
      clear he hfin hmx
      go_enter Tryd.func43, Tryd.ntmps43
      go_wp2_with fail
      refine (abs_any x _ hx).mono ?_
      rw [ha.out]
      rintro r w1 ⟨rfl, rfl⟩
      go_wp2_with fail
      refine (rfinite_any x _ hx).mono ?_
      rw [HQ.out]
      rintro r w1 ⟨rfl, rfl⟩
      go_wp2_with fail
      refine (rnext_any a _ HAL.out).mono ?_
      rw [HNX.out]
      rintro r w1 ⟨rfl, rfl⟩
      go_wp2_with fail
      go_ret
      exact ⟨ret_f HU.out, rfl⟩
end Go.Proofs.YtfeojdmffipinaaDoor
