
/- What clock's Count, nearestStep, Unwrap do. -/
import Derived.Test.YtfdphegiafccpabP14
namespace Go.Proofs.Ytfdphegiafccpab
open Go.RowKit Go.IntWalk

set_option maxHeartbeats 2000000 in
theorem Count_any (o n d t : Int) (w : World) :
    Calls Try.prog 12 #[.agg #[.int .i64 o, .int .i64 n, .int .i64 d], .int .i64 t] w fun r w' => r = .returned (.tuple #[.int .i64 (cnV o n d t), .int .i64 (cnE o n d t)]) ∧ Below w.heap.size w w' := by
  have HK := hid (fun W => @ckbox w W o n d)
  have HC := hid (fun W => Check_any o n d W)
  obtain ⟨W0, hW0⟩ : ∃ V, Hid (w.alloc (CBox o n d) = V) := ⟨_, rfl⟩
  rw [hW0.out] at HK
  obtain ⟨⟨c0, c1, c2⟩, _⟩ := HK.out W0 (Below.refl _ _)
  unfold CBox at hW0
  have hW0' := hW0.out
  by_cases hok : ckB o n d = true
  · have hce : ckE o n d = 0 := by unfold ckE; rw [if_pos hok]
    rw [hce] at HC
    by_cases hin : inB t = true
    · obtain ⟨⟨b1, b2⟩, ⟨b3, b4⟩, b5, b6⟩ := ckB_yes hok
      obtain ⟨b7, b8⟩ := (inB_iff t).1 hin
      obtain ⟨N, hN⟩ := Int.eq_ofNat_of_zero_le (show 0 ≤ n by omega)
      obtain ⟨D, hD⟩ := Int.eq_ofNat_of_zero_le (show 0 ≤ d by omega)
      obtain ⟨f1, f2⟩ := flo_neg o t n d N D hN hD (by omega)
      have HT := hid (fun W => floor_any (o - t) d n D N W (by omega) (by omega) hD hN (by omega) (by omega))
      have fb := floV_bounds (o - t) D N
      have HI : Hid (∀ W, Calls Try.prog 20 #[.int .i64 t] W fun r w' => r = .returned (.bool true) ∧ w' = W) := fun W => by
        have := isTime_any t W
        rw [hin] at this
        exact this
      have ws : wrap64 (o - t) = o - t := wrap64_in _ (by omega)
      by_cases hr : inB (-((o - t) * d / n)) = true
      · have e1 : cnE o n d t = 0 := (cnE_zero _ _ _ _).2 ⟨hok, hin, hr⟩
        have e2 : cnV o n d t = -(floV (o - t) D N) := by rw [f2 hr]; unfold cnV; rw [if_pos e1]
        rw [e1, e2]
        have HJ : Hid (∀ W, Calls Try.prog 13 #[.int .i64 (-(floV (o - t) D N))] W fun r w' => r = .returned (.bool true) ∧ w' = W) := fun W => by
          have := isCount_any (-(floV (o - t) D N)) W
          rw [f1, hr] at this
          exact this
        generalize floV (o - t) D N = T at *
        have wn : wrap64 (-T) = -T := wrap64_in _ (by omega)
        clear hok hin hr f1 f2 e1 e2 b1 b2 b3 b4 b5 b6 hN hD hce fb b7 b8
        go_enter Try.func12, Try.ntmps12
        go_wp2_with fail
        refine (HC.out _).mono ?_
        rintro e w1 ⟨rfl, hb⟩
        have HB := hid hb
        obtain ⟨⟨c0, c1, c2⟩, _⟩ := HK.out w1 hb
        clear hb
        go_wp2_with fail
        refine (HI.out _).mono ?_
        rintro e w2 ⟨rfl, hw⟩
        rw [hw]
        clear hw
        go_wp2_with fail
        refine (HT.out _).mono ?_
        rintro e w3 ⟨rfl, m, rfl⟩
        go_wp2_with fail
        refine (HJ.out _).mono ?_
        rintro e w4 ⟨rfl, hw⟩
        rw [hw]
        clear hw
        go_wp2
        go_ret2
        exact ⟨rfl, (HK.out _ (below_drewN HB.out m)).2⟩
      · have hr' : inB (-((o - t) * d / n)) = false := by simpa using hr
        have e1 : cnE o n d t = 1 := by unfold cnE; rw [if_pos hok, hin, hr']; rfl
        have e2 : cnV o n d t = 0 := by unfold cnV; rw [if_neg (by omega)]
        rw [e1, e2]
        have HJ : Hid (∀ W, Calls Try.prog 13 #[.int .i64 (-(floV (o - t) D N))] W fun r w' => r = .returned (.bool false) ∧ w' = W) := fun W => by
          have := isCount_any (-(floV (o - t) D N)) W
          rw [f1, hr'] at this
          exact this
        generalize floV (o - t) D N = T at *
        have wn : wrap64 (-T) = -T := wrap64_in _ (by omega)
        clear hok hin hr hr' f1 f2 e1 e2 b1 b2 b3 b4 b5 b6 hN hD hce fb b7 b8
        go_enter Try.func12, Try.ntmps12
        go_wp2_with fail
        refine (HC.out _).mono ?_
        rintro e w1 ⟨rfl, hb⟩
        have HB := hid hb
        obtain ⟨⟨c0, c1, c2⟩, _⟩ := HK.out w1 hb
        clear hb
        go_wp2_with fail
        refine (HI.out _).mono ?_
        rintro e w2 ⟨rfl, hw⟩
        rw [hw]
        clear hw
        go_wp2_with fail
        refine (HT.out _).mono ?_
        rintro e w3 ⟨rfl, m, rfl⟩
        go_wp2_with fail
        refine (HJ.out _).mono ?_
        rintro e w4 ⟨rfl, hw⟩
        rw [hw]
        clear hw
        go_wp2
        go_ret2
        exact ⟨rfl, (HK.out _ (below_drewN HB.out m)).2⟩
    · have hin' : inB t = false := by simpa using hin
      have e1 : cnE o n d t = 1 := by unfold cnE; rw [if_pos hok, hin']; rfl
      have e2 : cnV o n d t = 0 := by unfold cnV; rw [if_neg (by omega)]
      rw [e1, e2]
      have HI : Hid (∀ W, Calls Try.prog 20 #[.int .i64 t] W fun r w' => r = .returned (.bool false) ∧ w' = W) := fun W => by
        have := isTime_any t W
        rw [hin'] at this
        exact this
      clear hok hin hin' e1 e2 hce
      go_enter Try.func12, Try.ntmps12
      go_wp2_with fail
      refine (HC.out _).mono ?_
      rintro e w1 ⟨rfl, hb⟩
      have HB := hid hb
      clear hb
      go_wp2_with fail
      refine (HI.out _).mono ?_
      rintro e w2 ⟨rfl, hw⟩
      rw [hw]
      clear hw
      go_wp2
      go_ret2
      exact ⟨rfl, (HK.out _ HB.out).2⟩
  · have hce : ckE o n d = 130 := by unfold ckE; rw [if_neg hok]
    have e1 : cnE o n d t = 130 := by unfold cnE; rw [if_neg hok]
    have e2 : cnV o n d t = 0 := by unfold cnV; rw [if_neg (by omega)]
    rw [hce] at HC
    rw [e1, e2]
    clear hok hce e1 e2
    go_enter Try.func12, Try.ntmps12
    go_wp2_with fail
    refine (HC.out _).mono ?_
    rintro e w1 ⟨rfl, hb⟩
    have HB := hid hb
    clear hb
    go_wp2
    go_ret2
    exact ⟨rfl, (HK.out _ HB.out).2⟩
/-- The way to a stamp. -/
def stepV (x : Int) : Int := if x ≤ 2147483648 then x else x - 4294967296
set_option maxHeartbeats 400000 in
theorem step_any (x : Int) (w : World) (h1 : 0 ≤ x) (h2 : x ≤ 4294967295) :
    Calls Try.prog 14 #[.int .u32 x] w fun r w' => r = .returned (.int .i64 (stepV x)) ∧ w' = w := by
  unfold stepV
  by_cases h : x ≤ 2147483648
  · rw [if_pos h]
    go_enter Try.func14, Try.ntmps14
    go_wp2
    go_ret
    exact ⟨ret_int (by first | omega | (rw [IntWalk.i64_in _ (by omega)]) | (rw [wrap64_in _ (by omega)])), rfl⟩
  · rw [if_neg h]
    go_enter Try.func14, Try.ntmps14
    go_wp2
    go_ret
    exact ⟨ret_int (by first | omega | (rw [IntWalk.i64_in _ (by omega)]) | (rw [wrap64_in _ (by omega)])), rfl⟩
/-- Unwrap's answer, as clock reckons it. -/
def unN (l s : Int) : Int := l + stepV ((s - l) % 4294967296)
def unE (l s : Int) : Int := if (inB l && inB (unN l s)) = true then 0 else 1
def unV (l s : Int) : Int := if unE l s = 0 then unN l s else 0
set_option maxHeartbeats 2000000 in
theorem Unwrap_any (l s : Int) (w : World) :
    Calls Try.prog 7 #[.int .i64 l, .int .u32 s] w fun r w' => r = .returned (.tuple #[.int .i64 (unV l s), .int .i64 (unE l s)]) ∧ w' = w := by
  by_cases hin : inB l = true
  · obtain ⟨b1, b2⟩ := (inB_iff l).1 hin
    have HI : Hid (∀ W, Calls Try.prog 13 #[.int .i64 l] W fun r w' => r = .returned (.bool true) ∧ w' = W) := fun W => by
      have := isCount_any l W
      rw [hin] at this
      exact this
    have hx1 : 0 ≤ (s - l) % 4294967296 := Int.emod_nonneg _ (by decide)
    have hx2 : (s - l) % 4294967296 ≤ 4294967295 := by omega
    have HS := hid (fun W => step_any ((s - l) % 4294967296) W hx1 hx2)
    have hN : unN l s = l + stepV ((s - l) % 4294967296) := by rw [unN]
    have hsb : -2147483648 ≤ stepV ((s - l) % 4294967296) ∧ stepV ((s - l) % 4294967296) ≤ 2147483648 := by
      unfold stepV
      split <;> omega
    have HJ := hid (fun W => isCount_any (unN l s) W)
    have hE : unE l s = if inB (unN l s) = true then 0 else 1 := by unfold unE; rw [hin, Bool.true_and]
    have hV : unV l s = if inB (unN l s) = true then unN l s else 0 := by
      unfold unV
      rw [hE]
      by_cases h : inB (unN l s) = true
      · simp [h]
      · simp [h]
    rw [hE, hV]
    rw [hN]
    rw [hN] at HJ
    clear hE hV hN
    generalize stepV ((s - l) % 4294967296) = S at *
    obtain ⟨X, hX⟩ : ∃ t, (s - l) % 4294967296 = t := ⟨_, rfl⟩
    rw [hX] at HS hx1 hx2
    have ws : wrap64 (l + S) = l + S := wrap64_in _ (by omega)
    obtain ⟨T, hT⟩ : ∃ t, Hid (l + S = t) := ⟨_, rfl⟩
    have hT2 := hT.out
    rw [hT.out] at ws HJ ⊢
    generalize inB T = B at *
    clear hin b1 b2 hsb hx1 hx2
    cases B
    all_goals
      simp only [Bool.false_eq_true, if_false, if_true]
      go_enter Try.func7, Try.ntmps7
      go_wp2_with fail
      refine (HI.out _).mono ?_
      rintro e w2 ⟨rfl, hw⟩
      rw [hw]
      clear hw
      go_wp2_with fail
      refine (HS.out _).mono ?_
      rintro e w2 ⟨rfl, hw⟩
      rw [hw]
      clear hw
      go_wp2_with fail
      refine (HJ.out _).mono ?_
      rintro e w2 ⟨rfl, hw⟩
      rw [hw]
      clear hw
      go_wp2
      go_ret2
      exact ⟨rfl, rfl⟩
  · have hin' : inB l = false := by simpa using hin
    have e1 : unE l s = 1 := by unfold unE; rw [hin']; rfl
    have e2 : unV l s = 0 := by unfold unV; rw [if_neg (by omega)]
    rw [e1, e2]
    have HI : Hid (∀ W, Calls Try.prog 13 #[.int .i64 l] W fun r w' => r = .returned (.bool false) ∧ w' = W) := fun W => by
      have := isCount_any l W
      rw [hin'] at this
      exact this
    clear hin hin' e1 e2
    go_enter Try.func7, Try.ntmps7
    go_wp2_with fail
    refine (HI.out _).mono ?_
    rintro e w2 ⟨rfl, hw⟩
    rw [hw]
    clear hw
    go_wp2
    go_ret2
    exact ⟨rfl, rfl⟩
end Go.Proofs.Ytfdphegiafccpab
