
/- What the document's Time and Count of layer 13 do; the law ClockTimes. -/
import Derived.Test.YtfdphegiafccpaaP43
namespace Go.Proofs.Ytfdphegiafccpaa
open Go.RowKit Go.IntWalk

theorem wi_in (v : Int) : wiE v 1125899906842624 = (if inB v = true then 0 else 1) ∧ wiV v 1125899906842624 = (if inB v = true then v else 0) := by
  unfold wiE wiV
  by_cases h : inB v = true
  · have := (inB_iff _).1 h
    rw [if_pos h, if_pos h, if_neg (by omega), if_neg (by omega)]
    exact ⟨rfl, rfl⟩
  · have := (inB_no _).1 (by simpa using h)
    rw [if_neg h, if_neg h, if_pos (by omega), if_pos (by omega)]
    exact ⟨rfl, rfl⟩
theorem wi_time (o n d k : Int) (h1 : ckB o n d = true) (h2 : inB k = true) : wiE (k * n / d + o) 1125899906842624 = tmE o n d k ∧ wiV (k * n / d + o) 1125899906842624 = tmV o n d k := by
  obtain ⟨e1, e2⟩ := wi_in (k * n / d + o)
  have hE : tmE o n d k = if inB (o + k * n / d) = true then 0 else 1 := by unfold tmE; rw [if_pos h1, h2, Bool.true_and]
  rw [e1, e2, Int.add_comm]
  refine ⟨hE.symm, ?_⟩
  unfold tmV
  rw [hE]
  by_cases h : inB (o + k * n / d) = true
  · simp [h]
  · simp [h]
theorem wi_count (o n d t : Int) (h1 : ckB o n d = true) (h2 : inB t = true) : wiE (-((o - t) * d / n)) 1125899906842624 = cnE o n d t ∧ wiV (-((o - t) * d / n)) 1125899906842624 = cnV o n d t := by
  obtain ⟨e1, e2⟩ := wi_in (-((o - t) * d / n))
  have hE : cnE o n d t = if inB (-((o - t) * d / n)) = true then 0 else 1 := by unfold cnE; rw [if_pos h1, h2, Bool.true_and]
  rw [e1, e2]
  refine ⟨hE.symm, ?_⟩
  unfold cnV
  rw [hE]
  by_cases h : inB (-((o - t) * d / n)) = true
  · simp [h]
  · simp [h]
set_option maxHeartbeats 4000000 in
theorem rTime_any (o n d k : Int) (w : World) :
    Calls Try.prog 8 #[.agg #[.int .i64 o, .int .i64 n, .int .i64 d], .int .i64 k] w fun r w' => r = .returned (.tuple #[.int .i64 (tmV o n d k), .int .i64 (tmE o n d k)]) ∧ Below w.heap.size w w' := by
  have HK := hid (fun W => @ckbox w W o n d)
  have HC := hid (fun W => rCheck_any o n d W)
  obtain ⟨W0, hW0⟩ : ∃ V, Hid (w.alloc (CBox o n d) = V) := ⟨_, rfl⟩
  rw [hW0.out] at HK
  obtain ⟨⟨c0, c1, c2⟩, _⟩ := HK.out W0 (Below.refl _ _)
  unfold CBox at hW0
  have hW0' := hW0.out
  by_cases hok : ckB o n d = true
  · have hce : ckE o n d = 0 := by unfold ckE; rw [if_pos hok]
    rw [hce] at HC
    by_cases hin : inB k = true
    · obtain ⟨⟨b1, b2⟩, ⟨b3, b4⟩, b5, b6⟩ := ckB_yes hok
      obtain ⟨b7, b8⟩ := (inB_iff k).1 hin
      obtain ⟨N, hN⟩ := Int.eq_ofNat_of_zero_le (show 0 ≤ n by omega)
      obtain ⟨D, hD⟩ := Int.eq_ofNat_of_zero_le (show 0 ≤ d by omega)
      have k1 : ¬ k < -1125899906842624 := by omega
      have k2 : ¬ 1125899906842624 < k := by omega
      obtain ⟨g1, g2⟩ := wi_time o n d k hok hin
      have HPL := hid (fun W => rplain_any o n d k D W (by omega) (by omega) (by omega) hD (by omega) (by omega))
      have HWI : Hid (∀ p W, NumAt W p (k * n / d + o) 6 → Calls Try.prog 19 #[.pointer (some ⟨p, 0, none⟩), .int .i64 1125899906842624] W fun r w' => r = .returned (.tuple #[.int .i64 (tmV o n d k), .int .i64 (tmE o n d k)]) ∧ Below W.heap.size W w') := fun p W h => by
        have := within_any p 6 (k * n / d + o) 1125899906842624 W h (by omega) (by omega) (by omega)
        rw [g1, g2] at this
        exact this
      generalize tmV o n d k = RV at *
      generalize tmE o n d k = RE at *
      generalize k * n / d + o = Z at *
      clear hok hce hin b1 b2 b3 b4 b5 b6 b7 b8 hN hD g1 g2
      go_enter Try.func8, Try.ntmps8
      go_wp2_with fail
      refine (HC.out _).mono ?_
      rintro e w1 ⟨rfl, hb⟩
      have HB1 := hid hb
      obtain ⟨⟨c0, c1, c2⟩, _⟩ := HK.out w1 hb
      clear hb
      go_wp2_with fail
      refine (HPL.out _).mono ?_
      rintro e w2 ⟨p, rfl, n2, b2⟩
      have HN2 := hid n2
      have HB2 := hid (HB1.out.trans (b2.mono HB1.out.size))
      clear n2 b2
      go_wp2_with fail
      refine (HWI.out _ _ HN2.out).mono ?_
      rintro e w3 ⟨rfl, hb⟩
      have HB3 := hid (HB2.out.trans (hb.mono HB2.out.size))
      clear hb
      go_wp2
      go_ret2
      exact ⟨rfl, (HK.out _ HB3.out).2⟩
    · have hin' : inB k = false := by simpa using hin
      have e1 : tmE o n d k = 1 := by unfold tmE; rw [if_pos hok, hin']; rfl
      have e2 : tmV o n d k = 0 := by unfold tmV; rw [if_neg (by omega)]
      rw [e1, e2]
      have hno := (inB_no k).1 hin'
      clear e1 e2 hin hin' hok hce
      by_cases hlo : k < -1125899906842624
      · clear hno
        go_enter Try.func8, Try.ntmps8
        go_wp2_with fail
        refine (HC.out _).mono ?_
        rintro e w1 ⟨rfl, hb⟩
        have HB1 := hid hb
        obtain ⟨⟨c0, c1, c2⟩, _⟩ := HK.out w1 hb
        clear hb
        go_wp2
        go_ret2
        exact ⟨rfl, (HK.out _ HB1.out).2⟩
      · have hhi : 1125899906842624 < k := by omega
        clear hno
        go_enter Try.func8, Try.ntmps8
        go_wp2_with fail
        refine (HC.out _).mono ?_
        rintro e w1 ⟨rfl, hb⟩
        have HB1 := hid hb
        obtain ⟨⟨c0, c1, c2⟩, _⟩ := HK.out w1 hb
        clear hb
        go_wp2
        go_ret2
        exact ⟨rfl, (HK.out _ HB1.out).2⟩
  · have hce : ckE o n d = 130 := by unfold ckE; rw [if_neg hok]
    have e1 : tmE o n d k = 130 := by unfold tmE; rw [if_neg hok]
    have e2 : tmV o n d k = 0 := by unfold tmV; rw [if_neg (by omega)]
    rw [hce] at HC
    rw [e1, e2]
    clear hok hce e1 e2
    go_enter Try.func8, Try.ntmps8
    go_wp2_with fail
    refine (HC.out _).mono ?_
    rintro e w1 ⟨rfl, hb⟩
    have HB1 := hid hb
    obtain ⟨⟨c0, c1, c2⟩, _⟩ := HK.out w1 hb
    clear hb
    go_wp2
    go_ret2
    exact ⟨rfl, (HK.out _ HB1.out).2⟩
set_option maxHeartbeats 4000000 in
theorem rCount_any (o n d t : Int) (w : World) :
    Calls Try.prog 10 #[.agg #[.int .i64 o, .int .i64 n, .int .i64 d], .int .i64 t] w fun r w' => r = .returned (.tuple #[.int .i64 (cnV o n d t), .int .i64 (cnE o n d t)]) ∧ Below w.heap.size w w' := by
  have HK := hid (fun W => @ckbox w W o n d)
  have HC := hid (fun W => rCheck_any o n d W)
  obtain ⟨W0, hW0⟩ : ∃ V, Hid (w.alloc (CBox o n d) = V) := ⟨_, rfl⟩
  rw [hW0.out] at HK
  obtain ⟨⟨c0, c1, c2⟩, _⟩ := HK.out W0 (Below.refl _ _)
  unfold CBox at hW0
  have hW0' := hW0.out
  by_cases hok : ckB o n d = true
  · have hce : ckE o n d = 0 := by unfold ckE; rw [if_pos hok]
    rw [hce] at HC
    by_cases hin : inB t = true
    · obtain ⟨⟨b1, b2⟩, ⟨b3, b4⟩, b5, b6⟩ := ckB_yes hok
      obtain ⟨b7, b8⟩ := (inB_iff t).1 hin
      obtain ⟨N, hN⟩ := Int.eq_ofNat_of_zero_le (show 0 ≤ n by omega)
      obtain ⟨D, hD⟩ := Int.eq_ofNat_of_zero_le (show 0 ≤ d by omega)
      have k1 : ¬ t < -1125899906842624 := by omega
      have k2 : ¬ 1125899906842624 < t := by omega
      obtain ⟨g1, g2⟩ := wi_count o n d t hok hin
      have HFL : Hid (∀ W, Calls Try.prog 22 #[.int .i64 (o - t), .int .i64 d, .int .i64 n] W fun r w' => r = .returned (.pointer (some ⟨W.heap.size, 0, none⟩)) ∧ NumAt w' W.heap.size ((o - t) * d / n) 5 ∧ Below W.heap.size W w') := fun W => by
        rw [hN]
        exact rfloor_any (o - t) d N W (by omega) (by omega) (by omega) (by omega)
      have HWI : Hid (∀ p W, NumAt W p (-((o - t) * d / n)) 5 → Calls Try.prog 19 #[.pointer (some ⟨p, 0, none⟩), .int .i64 1125899906842624] W fun r w' => r = .returned (.tuple #[.int .i64 (cnV o n d t), .int .i64 (cnE o n d t)]) ∧ Below W.heap.size W w') := fun p W h => by
        have := within_any p 5 (-((o - t) * d / n)) 1125899906842624 W h (by omega) (by omega) (by omega)
        rw [g1, g2] at this
        exact this
      have HNG := hid (fun (z : Nat) (v : Int) (W : World) (h : NumAt W z v 5) => NNeg z z v 5 W h.zok h (by omega))
      generalize cnV o n d t = RV at *
      generalize cnE o n d t = RE at *
      generalize (o - t) * d / n = Z at *
      obtain ⟨X, hX⟩ : ∃ q, t - o = q := ⟨_, rfl⟩
      obtain ⟨Y, hY⟩ : ∃ t, -X = t := ⟨_, rfl⟩
      have w1 : wrap64 X = X := wrap64_in _ (by omega)
      have w2 : wrap64 Y = Y := wrap64_in _ (by omega)
      have hYo : o - t = Y := by omega
      rw [hYo] at HFL
      clear hok hce hin b1 b2 b3 b4 b5 b6 b7 b8 hN hD g1 g2 hYo
      have HSZ : Hid (w.heap.size < W0.heap.size) := hid (World.block_lt_of_cell? W0 _ c0)
      go_enter Try.func10, Try.ntmps10
      go_wp2_with fail
      refine (HC.out _).mono ?_
      rintro e v1 ⟨rfl, hb⟩
      have HB1 := hid hb
      obtain ⟨⟨c0, c1, c2⟩, _⟩ := HK.out v1 hb
      clear hb
      go_wp2_with fail
      refine (HFL.out _).mono ?_
      rintro e v2 ⟨rfl, n2, b2⟩
      have HB2 := hid (HB1.out.trans (b2.mono HB1.out.size))
      have HG2 := hid (HNG.out _ _ v2 n2)
      have HPZ : Hid (W0.heap.size ≤ v1.heap.size) := hid HB1.out.size
      clear n2 b2
      go_wp2_with fail
      refine HG2.out.mono ?_
      rintro e v3 ⟨rfl, n3, b3⟩
      have HN3 := hid n3
      have HB3 := hid (HB2.out.trans (b3.below HB2.out.size HPZ.out))
      clear n3 b3
      go_wp2_with fail
      refine (HWI.out _ _ HN3.out).mono ?_
      rintro e v4 ⟨rfl, hb⟩
      have HB4 := hid (HB3.out.trans (hb.mono HB3.out.size))
      clear hb
      go_wp2
      go_ret2
      exact ⟨rfl, (HK.out _ HB4.out).2⟩
    · have hin' : inB t = false := by simpa using hin
      have e1 : cnE o n d t = 1 := by unfold cnE; rw [if_pos hok, hin']; rfl
      have e2 : cnV o n d t = 0 := by unfold cnV; rw [if_neg (by omega)]
      rw [e1, e2]
      have hno := (inB_no t).1 hin'
      clear e1 e2 hin hin' hok hce
      by_cases hlo : t < -1125899906842624
      · clear hno
        go_enter Try.func10, Try.ntmps10
        go_wp2_with fail
        refine (HC.out _).mono ?_
        rintro e w1 ⟨rfl, hb⟩
        have HB1 := hid hb
        obtain ⟨⟨c0, c1, c2⟩, _⟩ := HK.out w1 hb
        clear hb
        go_wp2
        go_ret2
        exact ⟨rfl, (HK.out _ HB1.out).2⟩
      · have hhi : 1125899906842624 < t := by omega
        clear hno
        go_enter Try.func10, Try.ntmps10
        go_wp2_with fail
        refine (HC.out _).mono ?_
        rintro e w1 ⟨rfl, hb⟩
        have HB1 := hid hb
        obtain ⟨⟨c0, c1, c2⟩, _⟩ := HK.out w1 hb
        clear hb
        go_wp2
        go_ret2
        exact ⟨rfl, (HK.out _ HB1.out).2⟩
  · have hce : ckE o n d = 130 := by unfold ckE; rw [if_neg hok]
    have e1 : cnE o n d t = 130 := by unfold cnE; rw [if_neg hok]
    have e2 : cnV o n d t = 0 := by unfold cnV; rw [if_neg (by omega)]
    rw [hce] at HC
    rw [e1, e2]
    clear hok hce e1 e2
    go_enter Try.func10, Try.ntmps10
    go_wp2_with fail
    refine (HC.out _).mono ?_
    rintro e w1 ⟨rfl, hb⟩
    have HB1 := hid hb
    obtain ⟨⟨c0, c1, c2⟩, _⟩ := HK.out w1 hb
    clear hb
    go_wp2
    go_ret2
    exact ⟨rfl, (HK.out _ HB1.out).2⟩
set_option maxRecDepth 2000 in
set_option maxHeartbeats 8000000 in
theorem times_walk (o n d k t : Int) (w : World) (_b1 : -9223372036854775808 ≤ o ∧ o ≤ 9223372036854775807) (_b2 : -9223372036854775808 ≤ n ∧ n ≤ 9223372036854775807) (_b3 : -9223372036854775808 ≤ d ∧ d ≤ 9223372036854775807) (hk : -9223372036854775808 ≤ k ∧ k ≤ 9223372036854775807) (_ht : -9223372036854775808 ≤ t ∧ t ≤ 9223372036854775807) :
    Calls Try.prog 3 #[.agg #[.int .i64 o, .int .i64 n, .int .i64 d], .int .i64 k, .int .i64 t] w fun r w' => r = .returned (.bool true) ∧ Below w.heap.size w w' := by
  have HK := hid (fun W => @ckbox w W o n d)
  have H1 := hid (fun W => Time_any o n d k W hk.1 hk.2)
  have H2 := hid (fun W => rTime_any o n d k W)
  have H3 := hid (fun W => Count_any o n d t W)
  have H4 := hid (fun W => rCount_any o n d t W)
  have H5 := hid (fun W => Check_any o n d W)
  have H6 := hid (fun W => rCheck_any o n d W)
  have HA := hid (fun W => awake13_any W)
  generalize tmV o n d k = x at *
  generalize tmE o n d k = e at *
  generalize cnV o n d t = m at *
  generalize cnE o n d t = f at *
  generalize ckE o n d = g at *
  obtain ⟨W0, hW0⟩ : ∃ V, Hid (w.alloc (CBox o n d) = V) := ⟨_, rfl⟩
  rw [hW0.out] at HK
  obtain ⟨⟨c0, c1, c2⟩, _⟩ := HK.out W0 (Below.refl _ _)
  unfold CBox at hW0
  have hW0' := hW0.out
  have HB0 : Hid (Below W0.heap.size W0 W0) := Below.refl _ _
  have HKS : Hid (∀ W, Hid (Below W0.heap.size W0 W) → (W.cell? ⟨w.heap.size, 0, none⟩ = some (.int .i64 o) ∧ W.cell? ⟨w.heap.size, 1, none⟩ = some (.int .i64 n) ∧ W.cell? ⟨w.heap.size, 2, none⟩ = some (.int .i64 d)) ∧ Hid (Below W0.heap.size W0 W)) := fun W hb => ⟨(HK.out W hb.out).1, hb⟩
  have HC5 : Hid (∀ W, Hid (Below W0.heap.size W0 W) → Calls Try.prog 11 #[.agg #[.int .i64 o, .int .i64 n, .int .i64 d]] W fun r w' => r = .returned (.int .i64 g) ∧ Hid (Below W0.heap.size W0 w')) := fun W hb => by
    refine (H5.out W).mono ?_
    rintro r w' ⟨rfl, h⟩
    exact ⟨rfl, hb.out.trans (h.mono hb.out.size)⟩
  have HC6 : Hid (∀ W, Hid (Below W0.heap.size W0 W) → Calls Try.prog 12 #[.agg #[.int .i64 o, .int .i64 n, .int .i64 d]] W fun r w' => r = .returned (.int .i64 g) ∧ Hid (Below W0.heap.size W0 w')) := fun W hb => by
    refine (H6.out W).mono ?_
    rintro r w' ⟨rfl, h⟩
    exact ⟨rfl, hb.out.trans (h.mono hb.out.size)⟩
  have HCA : Hid (∀ W, Hid (Below W0.heap.size W0 W) → Calls Try.prog 13 #[] W fun r w' => r = .returned (.bool true) ∧ Hid (Below W0.heap.size W0 w')) := fun W hb => by
    refine (HA.out W).mono ?_
    rintro r w' ⟨rfl, h⟩
    exact ⟨rfl, hb.out.trans (h.mono hb.out.size)⟩
  clear _b1 _b2 _b3 hk _ht H5 H6 HA
  go_enter Try.func3, Try.ntmps3
  go_wp2_with fail
  refine (H1.out _).mono ?_
  rintro e v1 ⟨rfl, hb⟩
  have HB1 := hid (HB0.out.trans (hb.mono HB0.out.size))
  obtain ⟨⟨c0, c1, c2⟩, _⟩ := HK.out v1 HB1.out
  clear hb
  go_wp2_with fail
  refine (H2.out _).mono ?_
  rintro e v2 ⟨rfl, hb⟩
  have HB2 := hid (HB1.out.trans (hb.mono HB1.out.size))
  obtain ⟨⟨c0, c1, c2⟩, _⟩ := HK.out v2 HB2.out
  clear hb
  go_wp2_with fail
  refine (H3.out _).mono ?_
  rintro e v3 ⟨rfl, hb⟩
  have HB3 := hid (HB2.out.trans (hb.mono HB2.out.size))
  obtain ⟨⟨c0, c1, c2⟩, _⟩ := HK.out v3 HB3.out
  clear hb
  go_wp2_with fail
  refine (H4.out _).mono ?_
  rintro e v4 ⟨rfl, hb⟩
  have HB4 := hid (HB3.out.trans (hb.mono HB3.out.size))
  obtain ⟨⟨c0, c1, c2⟩, _⟩ := HK.out v4 HB4.out
  clear hb
  have HQ0 : Hid (Below W0.heap.size W0 v4.drew) := HB4.out.drew
  go_wp2_with fail
  go_region_held3 (fun W => (W.cell? ⟨w.heap.size, 0, none⟩ = some (.int .i64 o) ∧ W.cell? ⟨w.heap.size, 1, none⟩ = some (.int .i64 n) ∧ W.cell? ⟨w.heap.size, 2, none⟩ = some (.int .i64 d)) ∧ Hid (Below W0.heap.size W0 W))
    ((refine HKS.out _ ?_; first | with_reducible assumption | with_reducible exact HQ0))
    (first
      | (go_at_call 11; refine (HC5.out _ (And.right (by assumption))).mono ?_; rintro r v5 ⟨rfl, HB5⟩)
      | (go_at_call 12; refine (HC6.out _ (And.right (by assumption))).mono ?_; rintro r v6 ⟨rfl, HB6⟩)
      | (go_at_call 13; refine (HCA.out _ (And.right (by assumption))).mono ?_; rintro r v7 ⟨rfl, HB7⟩)
      | fail)
  all_goals go_wp2
  all_goals go_ret
  all_goals exact ⟨rfl, (HK.out _ (Hid.out (by assumption))).2⟩
end Go.Proofs.Ytfdphegiafccpaa
