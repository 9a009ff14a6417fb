
/- What clock's timeOf, Time, Count do. -/
import Derived.Test.YtfdphegiafccpabP13
namespace Go.Proofs.Ytfdphegiafccpab
open Go.RowKit Go.IntWalk

theorem flo_in (o k n d : Int) (N D : Nat) (hn : n = (N : Int)) (hd : d = (D : Int)) (hD : 0 < D) (h1 : -1125899906842624 ≤ o) (h2 : o ≤ 1125899906842624) :
    inB (o + floV k N D) = inB (o + k * n / d) ∧ (inB (o + k * n / d) = true → o + floV k N D = o + k * n / d) := by
  subst hn hd
  rcases floV_within k N D o hD h1 h2 with h | ⟨h, h3⟩ | ⟨h, h3⟩
  · rw [h]
    exact ⟨rfl, fun _ => rfl⟩
  · have e1 : inB (o + floV k N D) = false := (inB_no _).2 (.inr h)
    have e2 : inB (o + k * N / D) = false := (inB_no _).2 (.inr h3)
    rw [e1, e2]
    exact ⟨rfl, fun h => by cases h⟩
  · have e1 : inB (o + floV k N D) = false := (inB_no _).2 (.inl h)
    have e2 : inB (o + k * N / D) = false := (inB_no _).2 (.inl h3)
    rw [e1, e2]
    exact ⟨rfl, fun h => by cases h⟩
theorem flo_neg (o t n d : Int) (N D : Nat) (hn : n = (N : Int)) (hd : d = (D : Int)) (hN : 0 < N) :
    inB (-(floV (o - t) D N)) = inB (-((o - t) * d / n)) ∧ (inB (-((o - t) * d / n)) = true → -(floV (o - t) D N) = -((o - t) * d / n)) := by
  subst hn hd
  rcases floV_is (o - t) D N hN with h | ⟨h, h3⟩ | ⟨h, h3⟩
  · rw [h]
    exact ⟨rfl, fun _ => rfl⟩
  · have e1 : inB (-(floV (o - t) D N)) = false := (inB_no _).2 (by omega)
    have e2 : inB (-((o - t) * D / N)) = false := (inB_no _).2 (by omega)
    rw [e1, e2]
    exact ⟨rfl, fun h => by cases h⟩
  · have e1 : inB (-(floV (o - t) D N)) = false := (inB_no _).2 (by omega)
    have e2 : inB (-((o - t) * D / N)) = false := (inB_no _).2 (by omega)
    rw [e1, e2]
    exact ⟨rfl, fun h => by cases h⟩
set_option maxHeartbeats 1000000 in
theorem timeOf_any (o n d k : Int) (N D : Nat) (w : World) (hn : n = (N : Int)) (hd : d = (D : Int)) (hN : N ≤ 1000000000) (hD : D ≤ 1000000000) (h1 : -1125899906842624 ≤ o) (h2 : o ≤ 1125899906842624) (hk1 : -9223372036854775808 ≤ k) (hk2 : k ≤ 9223372036854775807) :
    Calls Try.prog 19 #[.agg #[.int .i64 o, .int .i64 n, .int .i64 d], .int .i64 k] w fun r w' => r = .returned (.int .i64 (o + floV k N D)) ∧ Below w.heap.size w w' := by
  have HB0 : Hid (Below w.heap.size w (w.alloc (CBox o n d))) := (Below.refl _ _).alloc (Nat.le_refl _) _
  have g1 := cnew w (CBox o n d)
  obtain ⟨W0, hW0⟩ : ∃ V, Hid (w.alloc (CBox o n d) = V) := ⟨_, rfl⟩
  rw [hW0.out] at HB0 g1
  have HK : Hid (∀ W, Hid (Below W0.heap.size W0 W) → (W.cell? ⟨w.heap.size, 0, none⟩ = some (.int .i64 o) ∧ W.cell? ⟨w.heap.size, 1, none⟩ = some (.int .i64 n) ∧ W.cell? ⟨w.heap.size, 2, none⟩ = some (.int .i64 d)) ∧ Hid (Below W0.heap.size W0 W)) := fun W hW => by
    have t1 := ccells_of ((hW.out.block _ (Array.getElem?_eq_some_iff.1 g1).1).trans g1)
    exact ⟨⟨t1.1, t1.2.1, t1.2.2.1⟩, hW⟩
  have HE : Hid (∀ W, Hid (Below W0.heap.size W0 W) → Calls Try.prog 17 #[.int .i64 k, .int .i64 n, .int .i64 d] W fun r w' => r = .returned (.int .i64 (floV k N D)) ∧ Hid (Below W0.heap.size W0 w')) := fun W hW => by
    refine (floor_any k n d N D W hk1 hk2 hn hd (by omega) (by omega)).mono ?_
    rintro r w' ⟨rfl, m, rfl⟩
    exact ⟨rfl, below_drewN hW.out m⟩
  have hfb := floV_bounds k N D
  obtain ⟨F, hF⟩ : ∃ t, floV k N D = t := ⟨_, rfl⟩
  rw [hF] at HE hfb ⊢
  clear hF
  have wq : IntKind.i64.wrap (o + F) = o + F := IntWalk.i64_in _ (by omega)
  unfold CBox at hW0
  have hW0' := hW0.out
  clear g1 hn hd
  go_enter Try.func19, Try.ntmps19
  go_wp2_with fail
  have HQ0 : Hid (Below W0.heap.size W0 W0.drew) := (Below.refl _ _).drew
  go_region_held3 (fun W => (W.cell? ⟨w.heap.size, 0, none⟩ = some (.int .i64 o) ∧ W.cell? ⟨w.heap.size, 1, none⟩ = some (.int .i64 n) ∧ W.cell? ⟨w.heap.size, 2, none⟩ = some (.int .i64 d)) ∧ Hid (Below W0.heap.size W0 W))
    ((refine HK.out _ ?_; first | with_reducible assumption | with_reducible exact HQ0))
    (first
      | (go_at_call 17; refine (HE.out _ (And.right (by assumption))).mono ?_; rintro r w3 ⟨rfl, HB3⟩)
      | fail)
  go_wp2
  go_ret
  exact ⟨rfl, HB0.out.trans (HB3.out.mono HB0.out.size)⟩
/-- The clock's box, and what stays of it. -/
theorem ckbox {w W : World} (o n d : Int) (hb : Below (w.alloc (CBox o n d)).heap.size (w.alloc (CBox o n d)) W) : (W.cell? ⟨w.heap.size, 0, none⟩ = some (.int .i64 o) ∧ W.cell? ⟨w.heap.size, 1, none⟩ = some (.int .i64 n) ∧ W.cell? ⟨w.heap.size, 2, none⟩ = some (.int .i64 d)) ∧ Below w.heap.size w W := by
  have g1 := cnew w (CBox o n d)
  have t1 := ccells_of ((hb.block _ (Array.getElem?_eq_some_iff.1 g1).1).trans g1)
  have h0 : Below w.heap.size w (w.alloc (CBox o n d)) := (Below.refl _ _).alloc (Nat.le_refl _) _
  exact ⟨⟨t1.1, t1.2.1, t1.2.2.1⟩, h0.trans (hb.mono h0.size)⟩
set_option maxHeartbeats 2000000 in
theorem Time_any (o n d k : Int) (w : World) (hk1 : -9223372036854775808 ≤ k) (hk2 : k ≤ 9223372036854775807) :
    Calls Try.prog 9 #[.agg #[.int .i64 o, .int .i64 n, .int .i64 d], .int .i64 k] w fun r w' => r = .returned (.tuple #[.int .i64 (tmV o n d k), .int .i64 (tmE o n d k)]) ∧ Below w.heap.size w w' := by
  have HK := hid (fun W => @ckbox w W o n d)
  have HC := hid (fun W => Check_any o n d W)
  obtain ⟨W0, hW0⟩ : ∃ V, Hid (w.alloc (CBox o n d) = V) := ⟨_, rfl⟩
  rw [hW0.out] at HK
  obtain ⟨⟨c0, c1, c2⟩, _⟩ := HK.out W0 (Below.refl _ _)
  unfold CBox at hW0
  have hW0' := hW0.out
  by_cases hok : ckB o n d = true
  · have hce : ckE o n d = 0 := by unfold ckE; rw [if_pos hok]
    rw [hce] at HC
    by_cases hin : inB k = true
    · obtain ⟨⟨b1, b2⟩, ⟨b3, b4⟩, b5, b6⟩ := ckB_yes hok
      obtain ⟨N, hN⟩ := Int.eq_ofNat_of_zero_le (show 0 ≤ n by omega)
      obtain ⟨D, hD⟩ := Int.eq_ofNat_of_zero_le (show 0 ≤ d by omega)
      obtain ⟨f1, f2⟩ := flo_in o k n d N D hN hD (by omega) b1 b2
      have HT := hid (fun W => timeOf_any o n d k N D W hN hD (by omega) (by omega) b1 b2 hk1 hk2)
      have HI : Hid (∀ W, Calls Try.prog 13 #[.int .i64 k] W fun r w' => r = .returned (.bool true) ∧ w' = W) := fun W => by
        have := isCount_any k W
        rw [hin] at this
        exact this
      by_cases hr : inB (o + k * n / d) = true
      · have e1 : tmE o n d k = 0 := (tmE_zero _ _ _ _).2 ⟨hok, hin, hr⟩
        have e2 : tmV o n d k = o + floV k N D := by rw [f2 hr]; unfold tmV; rw [if_pos e1]
        rw [e1, e2]
        have HJ : Hid (∀ W, Calls Try.prog 20 #[.int .i64 (o + floV k N D)] W fun r w' => r = .returned (.bool true) ∧ w' = W) := fun W => by
          have := isTime_any (o + floV k N D) W
          rw [f1, hr] at this
          exact this
        generalize o + floV k N D = T at *
        clear hok hin hr f1 f2 e1 e2 b1 b2 b3 b4 b5 b6 hN hD hce
        go_enter Try.func9, Try.ntmps9
        go_wp2_with fail
        refine (HC.out _).mono ?_
        rintro e w1 ⟨rfl, hb⟩
        have HB := hid hb
        obtain ⟨⟨c0, c1, c2⟩, _⟩ := HK.out w1 hb
        clear hb
        go_wp2_with fail
        refine (HI.out _).mono ?_
        rintro e w2 ⟨rfl, hw⟩
        rw [hw]
        clear hw
        go_wp2_with fail
        refine (HT.out _).mono ?_
        rintro e w3 ⟨rfl, hb⟩
        have HB2 := hid (HB.out.trans (hb.mono HB.out.size))
        clear hb
        go_wp2_with fail
        refine (HJ.out _).mono ?_
        rintro e w4 ⟨rfl, hw⟩
        rw [hw]
        clear hw
        go_wp2
        go_ret2
        exact ⟨rfl, (HK.out _ HB2.out).2⟩
      · have hr' : inB (o + k * n / d) = false := by simpa using hr
        have e1 : tmE o n d k = 1 := by unfold tmE; rw [if_pos hok, hin, hr']; rfl
        have e2 : tmV o n d k = 0 := by unfold tmV; rw [if_neg (by omega)]
        rw [e1, e2]
        have HJ : Hid (∀ W, Calls Try.prog 20 #[.int .i64 (o + floV k N D)] W fun r w' => r = .returned (.bool false) ∧ w' = W) := fun W => by
          have := isTime_any (o + floV k N D) W
          rw [f1, hr'] at this
          exact this
        generalize o + floV k N D = T at *
        clear hok hin hr hr' f1 f2 e1 e2 b1 b2 b3 b4 b5 b6 hN hD hce
        go_enter Try.func9, Try.ntmps9
        go_wp2_with fail
        refine (HC.out _).mono ?_
        rintro e w1 ⟨rfl, hb⟩
        have HB := hid hb
        obtain ⟨⟨c0, c1, c2⟩, _⟩ := HK.out w1 hb
        clear hb
        go_wp2_with fail
        refine (HI.out _).mono ?_
        rintro e w2 ⟨rfl, hw⟩
        rw [hw]
        clear hw
        go_wp2_with fail
        refine (HT.out _).mono ?_
        rintro e w3 ⟨rfl, hb⟩
        have HB2 := hid (HB.out.trans (hb.mono HB.out.size))
        clear hb
        go_wp2_with fail
        refine (HJ.out _).mono ?_
        rintro e w4 ⟨rfl, hw⟩
        rw [hw]
        clear hw
        go_wp2
        go_ret2
        exact ⟨rfl, (HK.out _ HB2.out).2⟩
    · have hin' : inB k = false := by simpa using hin
      have e1 : tmE o n d k = 1 := by unfold tmE; rw [if_pos hok, hin']; rfl
      have e2 : tmV o n d k = 0 := by unfold tmV; rw [if_neg (by omega)]
      rw [e1, e2]
      have HI : Hid (∀ W, Calls Try.prog 13 #[.int .i64 k] W fun r w' => r = .returned (.bool false) ∧ w' = W) := fun W => by
        have := isCount_any k W
        rw [hin'] at this
        exact this
      clear hok hin hin' e1 e2 hce
      go_enter Try.func9, Try.ntmps9
      go_wp2_with fail
      refine (HC.out _).mono ?_
      rintro e w1 ⟨rfl, hb⟩
      have HB := hid hb
      clear hb
      go_wp2_with fail
      refine (HI.out _).mono ?_
      rintro e w2 ⟨rfl, hw⟩
      rw [hw]
      clear hw
      go_wp2
      go_ret2
      exact ⟨rfl, (HK.out _ HB.out).2⟩
  · have hce : ckE o n d = 130 := by unfold ckE; rw [if_neg hok]
    have e1 : tmE o n d k = 130 := by unfold tmE; rw [if_neg hok]
    have e2 : tmV o n d k = 0 := by unfold tmV; rw [if_neg (by omega)]
    rw [hce] at HC
    rw [e1, e2]
    clear hok hce e1 e2
    go_enter Try.func9, Try.ntmps9
    go_wp2_with fail
    refine (HC.out _).mono ?_
    rintro e w1 ⟨rfl, hb⟩
    have HB := hid hb
    clear hb
    go_wp2
    go_ret2
    exact ⟨rfl, (HK.out _ HB.out).2⟩
end Go.Proofs.Ytfdphegiafccpab
