
/- What clock's magnitude, quotient, floor, beyond, isCount, isTime do. -/
import Derived.Test.YtfdphegiafccpabP11
import Derived.Lib.MinMax
namespace Go.Proofs.Ytfdphegiafccpab
open Go.RowKit Go.IntWalk

set_option maxHeartbeats 400000 in
theorem magn_any (a : Int) (w : World) (h1 : -9223372036854775808 ≤ a) (h2 : a ≤ 9223372036854775807) :
    Calls Try.prog 25 #[.int .i64 a] w fun r w' => r = .returned (.int .u64 (a.natAbs : Int)) ∧ w' = w := by
  go_enter Try.func25, Try.ntmps25
  go_wp2
  all_goals go_ret
  all_goals exact ⟨ret_int (by first | omega | (simp only [IntKind.wrap_u64]; omega)), rfl⟩
set_option maxHeartbeats 1000000 in
theorem quot_any (a b c : Nat) (w : World) (ha : a < 18446744073709551616) (hb : b < 18446744073709551616) (hc : c < 18446744073709551616) :
    Calls Try.prog 24 #[.int .u64 a, .int .u64 b, .int .u64 c] w fun r w' => r = .returned (.tuple #[.int .u64 (quV (a * b) c : Int), .int .u64 (quR (a * b) c : Int)]) ∧ ∃ m, w' = w.drewN m := by
  have HM := hid (Mul64_ck a b w ha hb)
  have hN : a * b / 18446744073709551616 * 18446744073709551616 + a * b % 18446744073709551616 = a * b := by omega
  have hlo : a * b % 18446744073709551616 < 18446744073709551616 := Nat.mod_lt _ (by decide)
  obtain ⟨V, hV⟩ : ∃ t, Hid (quV (a * b) c = t) := ⟨_, rfl⟩
  obtain ⟨R, hR⟩ : ∃ t, Hid (quR (a * b) c = t) := ⟨_, rfl⟩
  rw [hV.out, hR.out]
  have HV := hV
  have HR := hR
  generalize a * b = N at *
  obtain ⟨hi, hhi⟩ : ∃ t, Hid (N / 18446744073709551616 = t) := ⟨_, rfl⟩
  obtain ⟨lo, hlo'⟩ : ∃ t, Hid (N % 18446744073709551616 = t) := ⟨_, rfl⟩
  rw [hhi.out, hlo'.out] at HM hN
  rw [hlo'.out] at hlo
  by_cases hlt : hi < c
  · have HD : Hid (∀ W, Calls Try.prog 27 #[.int .u64 hi, .int .u64 lo, .int .u64 c] W fun r w' => r = .returned (.tuple #[.int .u64 ((N / c : Nat) : Int), .int .u64 ((N % c : Nat) : Int)]) ∧ ∃ m, w' = W.drewN m) := fun W => by
      have := Div64_any hi lo c W hlt hlo hc
      rw [hN] at this
      exact this
    have hle : ¬ ((c : Int) ≤ (hi : Int)) := by omega
    have e1 : quV N c = min (N / c) 4611686018427387905 := by unfold quV; rw [if_neg (by rw [hhi.out]; omega)]
    have e2 : quR N c = N % c := by unfold quR; rw [if_neg (by rw [hhi.out]; omega)]
    rw [hV.out] at e1
    rw [hR.out] at e2
    have hmin : min ((N / c : Nat) : Int) 4611686018427387905 = (V : Int) := by rw [e1]; omega
    rw [← e2] at HD
    obtain ⟨q, hq⟩ : ∃ t, Hid (N / c = t) := ⟨_, rfl⟩
    rw [hq.out] at HD hmin
    clear e1 e2 hN hlo ha hb
    go_enter Try.func24, Try.ntmps24
    go_wp2_with fail
    refine HM.out.mono ?_
    rintro r w1 ⟨rfl, hw⟩
    rw [hw]
    clear hw
    go_wp2_with fail
    refine (HD.out _).mono ?_
    rintro r w1 ⟨rfl, m, rfl⟩
    go_wp2
    go_ret2
    exact ⟨rfl, m, rfl⟩
  · have hle : (c : Int) ≤ (hi : Int) := by omega
    have e1 : (4611686018427387905 : Int) = (V : Int) := by rw [← hV.out]; unfold quV; rw [if_pos (by rw [hhi.out]; omega)]; rfl
    have e2 : (0 : Int) = (R : Int) := by rw [← hR.out]; unfold quR; rw [if_pos (by rw [hhi.out]; omega)]; rfl
    clear hN hlo ha hb
    rw [← e1, ← e2]
    clear e1 e2
    go_enter Try.func24, Try.ntmps24
    go_wp2_with fail
    refine HM.out.mono ?_
    rintro r w1 ⟨rfl, hw⟩
    rw [hw]
    clear hw
    go_wp2
    go_ret2
    exact ⟨rfl, 0, rfl⟩
set_option maxHeartbeats 1000000 in
theorem floor_any (a b c : Int) (B C : Nat) (w : World) (h1 : -9223372036854775808 ≤ a) (h2 : a ≤ 9223372036854775807) (hb : b = (B : Int)) (hc : c = (C : Int)) (hB : B ≤ 9223372036854775807) (hC : C ≤ 9223372036854775807) :
    Calls Try.prog 17 #[.int .i64 a, .int .i64 b, .int .i64 c] w fun r w' => r = .returned (.int .i64 (floV a B C)) ∧ ∃ m, w' = w.drewN m := by
  have HM : Hid (∀ W, Calls Try.prog 25 #[.int .i64 a] W fun r w' => r = .returned (.int .u64 (a.natAbs : Int)) ∧ w' = W) := fun W => magn_any a W h1 h2
  have HQ : Hid (∀ W, Calls Try.prog 24 #[.int .u64 (a.natAbs : Int), .int .u64 b, .int .u64 c] W fun r w' => r = .returned (.tuple #[.int .u64 (quV (a.natAbs * B) C : Int), .int .u64 (quR (a.natAbs * B) C : Int)]) ∧ ∃ m, w' = W.drewN m) := fun W => by
    rw [hb, hc]
    exact quot_any a.natAbs B C W (by omega) (by omega) (by omega)
  have wb : IntKind.u64.wrap b = b := by rw [IntKind.wrap_u64]; omega
  have wc : IntKind.u64.wrap c = c := by rw [IntKind.wrap_u64]; omega
  have hq := quV_le (a.natAbs * B) C
  have HE : Hid (floV a B C = if 0 ≤ a then (quV (a.natAbs * B) C : Int) else if quR (a.natAbs * B) C = 0 then -(quV (a.natAbs * B) C : Int) else -(quV (a.natAbs * B) C : Int) - 1) := hid (by rw [floV])
  obtain ⟨F, hF⟩ : ∃ t, floV a B C = t := ⟨_, rfl⟩
  rw [hF] at HE ⊢
  clear hF
  obtain ⟨q, hq'⟩ : ∃ t, quV (a.natAbs * B) C = t := ⟨_, rfl⟩
  obtain ⟨r, hr'⟩ : ∃ t, quR (a.natAbs * B) C = t := ⟨_, rfl⟩
  rw [hq'] at HE HQ hq
  rw [hr'] at HE HQ
  clear hq' hr'
  obtain ⟨n, hn'⟩ : ∃ t, a.natAbs = t := ⟨_, rfl⟩
  rw [hn'] at HM HQ
  clear hn' hb hc hB hC
  have wq : wrap64 (q : Int) = (q : Int) := wrap64_in _ (by omega)
  have wn : wrap64 (-(q : Int)) = -(q : Int) := wrap64_in _ (by omega)
  have wm : wrap64 (-(q : Int) - 1) = -(q : Int) - 1 := wrap64_in _ (by omega)
  by_cases ha : 0 ≤ a
  · go_enter Try.func17, Try.ntmps17
    go_wp2_with fail
    refine (HM.out _).mono ?_
    rintro e w1 ⟨rfl, hw⟩
    rw [hw]
    clear hw
    go_wp2_with fail
    refine (HQ.out _).mono ?_
    rintro e w1 ⟨rfl, m, rfl⟩
    go_wp2
    go_ret
    refine ⟨ret_int ?_, m, rfl⟩
    have := HE.out
    rw [if_pos ha] at this
    exact this.symm
  · by_cases hr : r = 0
    · subst hr
      go_enter Try.func17, Try.ntmps17
      go_wp2_with fail
      refine (HM.out _).mono ?_
      rintro e w1 ⟨rfl, hw⟩
      rw [hw]
      clear hw
      go_wp2_with fail
      refine (HQ.out _).mono ?_
      rintro e w1 ⟨rfl, m, rfl⟩
      go_wp2
      go_ret
      refine ⟨ret_int ?_, m, rfl⟩
      have := HE.out
      rw [if_neg (by omega), if_pos (by simp)] at this
      exact this.symm
    · have hr0 : ((r : Int) == 0) = false := by simp; omega
      go_enter Try.func17, Try.ntmps17
      go_wp2_with fail
      refine (HM.out _).mono ?_
      rintro e w1 ⟨rfl, hw⟩
      rw [hw]
      clear hw
      go_wp2_with fail
      refine (HQ.out _).mono ?_
      rintro e w1 ⟨rfl, m, rfl⟩
      go_wp2
      go_ret
      refine ⟨ret_int ?_, m, rfl⟩
      have := HE.out
      rw [if_neg (by omega), if_neg hr] at this
      exact this.symm
set_option maxHeartbeats 400000 in
theorem beyond_any (n l : Int) (w : World) (h1 : 0 ≤ l) (h2 : l ≤ 4611686018427387904) :
    Calls Try.prog 22 #[.int .i64 n, .int .i64 l] w fun r w' => r = .returned (.bool (decide (n < -l ∨ l < n))) ∧ w' = w := by
  have wl : wrap64 (-l) = -l := wrap64_in _ (by omega)
  by_cases h3 : n < -l
  · go_enter Try.func22, Try.ntmps22
    go_wp2
    go_ret
    exact ⟨by simp [h3], rfl⟩
  · by_cases h4 : l < n
    all_goals
      go_enter Try.func22, Try.ntmps22
      go_wp2
      go_ret
      exact ⟨by simp [h3, h4], rfl⟩
theorem inB_beyond (n : Int) : (!decide (n < -1125899906842624 ∨ 1125899906842624 < n)) = inB n := by
  unfold inB
  rw [← decide_not]
  congr 1
  simp only [eq_iff_iff]
  omega
set_option maxHeartbeats 400000 in
theorem isCount_any (n : Int) (w : World) :
    Calls Try.prog 13 #[.int .i64 n] w fun r w' => r = .returned (.bool (inB n)) ∧ w' = w := by
  have HB := hid (beyond_any n 1125899906842624 w (by omega) (by omega))
  rw [← inB_beyond]
  generalize decide (n < -1125899906842624 ∨ 1125899906842624 < n) = b at *
  go_enter Try.func13, Try.ntmps13
  go_wp2_with fail
  refine HB.out.mono ?_
  rintro e w1 ⟨rfl, hw⟩
  rw [hw]
  clear hw
  go_wp2
  go_ret
  exact ⟨rfl, rfl⟩
set_option maxHeartbeats 400000 in
theorem isTime_any (n : Int) (w : World) :
    Calls Try.prog 20 #[.int .i64 n] w fun r w' => r = .returned (.bool (inB n)) ∧ w' = w := by
  have HB := hid (beyond_any n 1125899906842624 w (by omega) (by omega))
  rw [← inB_beyond]
  generalize decide (n < -1125899906842624 ∨ 1125899906842624 < n) = b at *
  go_enter Try.func20, Try.ntmps20
  go_wp2_with fail
  refine HB.out.mono ?_
  rintro e w1 ⟨rfl, hw⟩
  rw [hw]
  clear hw
  go_wp2
  go_ret
  exact ⟨rfl, rfl⟩
end Go.Proofs.Ytfdphegiafccpab
