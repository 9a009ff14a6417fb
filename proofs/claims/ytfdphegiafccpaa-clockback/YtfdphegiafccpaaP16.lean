
/- The law ClockBack. -/
import Derived.Test.YtfdphegiafccpaaP15
namespace Go.Proofs.Ytfdphegiafccpaa
open Go.RowKit Go.IntWalk

/-- The first count that isn't before a time. -/
theorem ceil_iff (o n d t k : Int) (hn : 0 < n) (hd : 0 < d) : -((o - t) * d / n) ≤ k ↔ t - o ≤ k * n / d := by
  have h1 : -((o - t) * d / n) ≤ k ↔ -k ≤ (o - t) * d / n := by omega
  rw [h1, Int.le_ediv_iff_mul_le hn, Int.le_ediv_iff_mul_le hd, Int.neg_mul, show (o - t) = -(t - o) by omega, Int.neg_mul]
  omega
theorem back_one (o n d k : Int) (he : tmE o n d k = 0) :
    (cnE o n d (tmV o n d k) ≠ 0 → k ≤ -1125898906842624 ∧ cnE o n d (tmV o n d k) = 1) ∧
    (cnE o n d (tmV o n d k) = 0 → cnV o n d (tmV o n d k) ≤ k ∧ tmE o n d (cnV o n d (tmV o n d k)) = 0 ∧ tmV o n d (cnV o n d (tmV o n d k)) = tmV o n d k) := by
  obtain ⟨h1, h2, h3⟩ := (tmE_zero _ _ _ _).1 he
  obtain ⟨_, ⟨k1, k2⟩, k3, k4⟩ := ckB_yes h1
  have hx : tmV o n d k = o + k * n / d := by unfold tmV; rw [if_pos he]
  rw [hx]
  have hi := (inB_iff k).1 h2
  have hle : -((o - (o + k * n / d)) * d / n) ≤ k := (ceil_iff o n d _ k (by omega) (by omega)).2 (by omega)
  have hge : k - 1000000000 ≤ -((o - (o + k * n / d)) * d / n) := by
    rw [← Int.not_lt]
    intro hc
    have h := (ceil_iff o n d (o + k * n / d) (k - 1000000000) (by omega) (by omega)).1 (by omega)
    have h4 : (k - 1000000000) * n / d < k * n / d := by
      have h5 : (k - 1000000000) * n + 1 * d ≤ k * n := by
        rw [Int.sub_mul]
        have : 1000000000 * 1 ≤ 1000000000 * n := Int.mul_le_mul_of_nonneg_left k1 (by omega)
        omega
      have h6 := Int.ediv_le_ediv (show 0 < d by omega) h5
      rw [Int.add_mul_ediv_right _ _ (by omega)] at h6
      omega
    omega
  have hce : cnE o n d (o + k * n / d) = if inB (-((o - (o + k * n / d)) * d / n)) = true then 0 else 1 := by
    unfold cnE
    rw [if_pos h1, h3, Bool.true_and]
  constructor
  · intro hne
    rw [hce] at hne ⊢
    by_cases hb : inB (-((o - (o + k * n / d)) * d / n)) = true
    · rw [if_pos hb] at hne
      exact absurd rfl hne
    · rw [if_neg hb]
      have := (inB_no _).1 (by simpa using hb)
      exact ⟨by omega, rfl⟩
  · intro hz
    have hcv : cnV o n d (o + k * n / d) = -((o - (o + k * n / d)) * d / n) := by unfold cnV; rw [if_pos hz]
    rw [hcv]
    obtain ⟨_, _, hb⟩ := (cnE_zero _ _ _ _).1 hz
    have hw := (ceil_iff o n d (o + k * n / d) (-((o - (o + k * n / d)) * d / n)) (by omega) (by omega)).1 (by omega)
    have hm : -((o - (o + k * n / d)) * d / n) * n / d ≤ k * n / d := Int.ediv_le_ediv (by omega) (Int.mul_le_mul_of_nonneg_right hle (by omega))
    have heq : -((o - (o + k * n / d)) * d / n) * n / d = k * n / d := by omega
    have ht : tmE o n d (-((o - (o + k * n / d)) * d / n)) = 0 := (tmE_zero _ _ _ _).2 ⟨h1, hb, by rw [heq]; exact h3⟩
    refine ⟨hle, ht, ?_⟩
    have e3 : tmV o n d (-((o - (o + k * n / d)) * d / n)) = o + -((o - (o + k * n / d)) * d / n) * n / d := by unfold tmV; rw [if_pos ht]
    rw [e3, heq]
theorem back_two (o n d t : Int) (he : cnE o n d t = 0) :
    (-1125899906842624 ≤ cnV o n d t ∧ cnV o n d t ≤ 1125899906842624) ∧ (tmE o n d (cnV o n d t) = 0 → t ≤ tmV o n d (cnV o n d t)) ∧ (tmE o n d (cnV o n d t - 1) = 0 → tmV o n d (cnV o n d t - 1) < t) := by
  obtain ⟨h1, h2, h3⟩ := (cnE_zero _ _ _ _).1 he
  obtain ⟨_, ⟨k1, k2⟩, k3, k4⟩ := ckB_yes h1
  have hx : cnV o n d t = -((o - t) * d / n) := by unfold cnV; rw [if_pos he]
  rw [hx]
  refine ⟨(inB_iff _).1 h3, fun h => ?_, fun h => ?_⟩
  · have e : tmV o n d (-((o - t) * d / n)) = o + -((o - t) * d / n) * n / d := by unfold tmV; rw [if_pos h]
    rw [e]
    have := (ceil_iff o n d t (-((o - t) * d / n)) (by omega) (by omega)).1 (by omega)
    omega
  · have e : tmV o n d (-((o - t) * d / n) - 1) = o + (-((o - t) * d / n) - 1) * n / d := by unfold tmV; rw [if_pos h]
    rw [e]
    have := mt (ceil_iff o n d t (-((o - t) * d / n) - 1) (by omega) (by omega)).2 (by omega)
    omega
theorem tm_bounds (o n d k : Int) : -9223372036854775808 ≤ tmV o n d k ∧ tmV o n d k ≤ 9223372036854775807 := by
  unfold tmV
  split
  · rename_i h
    have := (inB_iff _).1 ((tmE_zero _ _ _ _).1 h).2.2
    omega
  · omega
theorem cn_bounds (o n d k : Int) : -1125899906842624 ≤ cnV o n d k ∧ cnV o n d k ≤ 1125899906842624 := by
  unfold cnV
  split
  · rename_i h
    exact (inB_iff _).1 ((cnE_zero _ _ _ _).1 h).2.2
  · omega
set_option maxRecDepth 2000 in
set_option maxHeartbeats 8000000 in
theorem cback_walk (o n d k t : Int) (w : World) (_b1 : -9223372036854775808 ≤ o ∧ o ≤ 9223372036854775807) (_b2 : -9223372036854775808 ≤ n ∧ n ≤ 9223372036854775807) (_b3 : -9223372036854775808 ≤ d ∧ d ≤ 9223372036854775807) (hk : -9223372036854775808 ≤ k ∧ k ≤ 9223372036854775807) (_ht : -9223372036854775808 ≤ t ∧ t ≤ 9223372036854775807) :
    Calls Try.prog 6 #[.agg #[.int .i64 o, .int .i64 n, .int .i64 d], .int .i64 k, .int .i64 t] w fun r w' => r = .returned (.bool true) ∧ Below w.heap.size w w' := by
  have HK := hid (fun W => @ckbox w W o n d)
  have HA := hid (fun W => awake13_any W)
  have HT1 := hid (fun W => Time_any o n d k W hk.1 hk.2)
  have HT2 := hid (fun W => Count_any o n d (tmV o n d k) W)
  have HT3 := hid (fun W => Time_any o n d (cnV o n d (tmV o n d k)) W (by have := cn_bounds o n d (tmV o n d k); omega) (by have := cn_bounds o n d (tmV o n d k); omega))
  have HT4 := hid (fun W => Count_any o n d t W)
  have hcb := cn_bounds o n d t
  have HT5 := hid (fun W => Time_any o n d (cnV o n d t) W (by omega) (by omega))
  have HT6 := hid (fun W => Time_any o n d (cnV o n d t - 1) W (by omega) (by omega))
  have HO := hid (back_one o n d k)
  have HP := hid (back_two o n d t)
  generalize tmV o n d (cnV o n d (tmV o n d k)) = y1 at *
  generalize tmE o n d (cnV o n d (tmV o n d k)) = e2 at *
  generalize cnV o n d (tmV o n d k) = m1 at *
  generalize cnE o n d (tmV o n d k) = f1 at *
  generalize tmV o n d k = x at *
  generalize tmE o n d k = e1 at *
  generalize tmV o n d (cnV o n d t - 1) = y3 at *
  generalize tmE o n d (cnV o n d t - 1) = e5 at *
  generalize tmV o n d (cnV o n d t) = y2 at *
  generalize tmE o n d (cnV o n d t) = e4 at *
  generalize cnV o n d t = m2 at *
  generalize cnE o n d t = e3 at *
  have ws : wrap64 (m2 - 1) = m2 - 1 := wrap64_in _ (by omega)
  obtain ⟨m3, hm3⟩ : ∃ z, m2 - 1 = z := ⟨_, rfl⟩
  rw [hm3] at ws HT6
  have HCB := hid hcb
  obtain ⟨W0, hW0⟩ : ∃ V, Hid (w.alloc (CBox o n d) = V) := ⟨_, rfl⟩
  rw [hW0.out] at HK
  obtain ⟨⟨c0, c1, c2⟩, _⟩ := HK.out W0 (Below.refl _ _)
  unfold CBox at hW0
  have hW0' := hW0.out
  have HB0 : Hid (Below W0.heap.size W0 W0) := Below.refl _ _
  clear _b1 _b2 _b3 hk _ht hcb
  go_enter Try.func6, Try.ntmps6
  go_wp2_with fail
  refine (HT1.out _).mono ?_
  rintro e v1 ⟨rfl, hb⟩
  have HB1 := hid (HB0.out.trans (hb.mono HB0.out.size))
  obtain ⟨⟨c0, c1, c2⟩, _⟩ := HK.out v1 HB1.out
  clear hb
  by_cases h1 : e1 = 0
  · obtain ⟨O1, O2⟩ := HO.out h1
    have HO1 := hid O1
    have HO2 := hid O2
    clear O1 O2
    subst h1
    go_wp2_with fail
    refine (HT2.out _).mono ?_
    rintro e v2 ⟨rfl, hb⟩
    have HB2 := hid (HB1.out.trans (hb.mono HB1.out.size))
    obtain ⟨⟨c0, c1, c2⟩, _⟩ := HK.out v2 HB2.out
    clear hb
    by_cases h2 : f1 = 0
    · obtain ⟨Q1, Q2, Q3⟩ := HO2.out h2
      subst h2 Q2 Q3
      go_wp2_with fail
      refine (HT3.out _).mono ?_
      rintro e v3 ⟨rfl, hb⟩
      have HB3 := hid (HB2.out.trans (hb.mono HB2.out.size))
      obtain ⟨⟨c0, c1, c2⟩, _⟩ := HK.out v3 HB3.out
      clear hb
      go_wp2_with fail
      refine (HT4.out _).mono ?_
      rintro e v4 ⟨rfl, hb⟩
      have HB4 := hid (HB3.out.trans (hb.mono HB3.out.size))
      obtain ⟨⟨c0, c1, c2⟩, _⟩ := HK.out v4 HB4.out
      clear hb
      by_cases h3 : e3 = 0
      · obtain ⟨_, P1, P2⟩ := HP.out h3
        have HP1 := hid P1
        have HP2 := hid P2
        clear P1 P2
        subst h3
        go_wp2_with fail
        refine (HT5.out _).mono ?_
        rintro e v5 ⟨rfl, hb⟩
        have HB5 := hid (HB4.out.trans (hb.mono HB4.out.size))
        obtain ⟨⟨c0, c1, c2⟩, _⟩ := HK.out v5 HB5.out
        clear hb
        by_cases h4 : e4 = 0
        · have h7 := HP1.out h4
          subst h4
          go_wp2_with fail
          refine (HT6.out _).mono ?_
          rintro e v6 ⟨rfl, hb⟩
          have HB6 := hid (HB5.out.trans (hb.mono HB5.out.size))
          obtain ⟨⟨c0, c1, c2⟩, _⟩ := HK.out v6 HB6.out
          clear hb
          by_cases h5 : e5 = 0
          · have h6 := HP2.out h5
            subst h5
            go_wp2_with fail
            refine (HA.out _).mono ?_
            rintro e v7 ⟨rfl, hb⟩
            have HB7 := hid (HB6.out.trans (hb.mono HB6.out.size))
            obtain ⟨⟨c0, c1, c2⟩, _⟩ := HK.out v7 HB7.out
            clear hb
            go_wp2
            go_ret
            exact ⟨rfl, (HK.out _ HB7.out).2⟩
          · go_wp2_with fail
            refine (HA.out _).mono ?_
            rintro e v8 ⟨rfl, hb⟩
            have HB8 := hid (HB6.out.trans (hb.mono HB6.out.size))
            obtain ⟨⟨c0, c1, c2⟩, _⟩ := HK.out v8 HB8.out
            clear hb
            go_wp2
            go_ret
            exact ⟨rfl, (HK.out _ HB8.out).2⟩
        · go_wp2_with fail
          refine (HT6.out _).mono ?_
          rintro e v9 ⟨rfl, hb⟩
          have HB9 := hid (HB5.out.trans (hb.mono HB5.out.size))
          obtain ⟨⟨c0, c1, c2⟩, _⟩ := HK.out v9 HB9.out
          clear hb
          by_cases h5 : e5 = 0
          · have h6 := HP2.out h5
            subst h5
            go_wp2_with fail
            refine (HA.out _).mono ?_
            rintro e v10 ⟨rfl, hb⟩
            have HB10 := hid (HB9.out.trans (hb.mono HB9.out.size))
            obtain ⟨⟨c0, c1, c2⟩, _⟩ := HK.out v10 HB10.out
            clear hb
            go_wp2
            go_ret
            exact ⟨rfl, (HK.out _ HB10.out).2⟩
          · go_wp2_with fail
            refine (HA.out _).mono ?_
            rintro e v11 ⟨rfl, hb⟩
            have HB11 := hid (HB9.out.trans (hb.mono HB9.out.size))
            obtain ⟨⟨c0, c1, c2⟩, _⟩ := HK.out v11 HB11.out
            clear hb
            go_wp2
            go_ret
            exact ⟨rfl, (HK.out _ HB11.out).2⟩
      · go_wp2_with fail
        refine (HA.out _).mono ?_
        rintro e v12 ⟨rfl, hb⟩
        have HB12 := hid (HB4.out.trans (hb.mono HB4.out.size))
        obtain ⟨⟨c0, c1, c2⟩, _⟩ := HK.out v12 HB12.out
        clear hb
        go_wp2
        go_ret
        exact ⟨rfl, (HK.out _ HB12.out).2⟩
    · obtain ⟨Q1, Q2⟩ := HO1.out h2
      subst Q2
      clear h2
      go_wp2_with fail
      refine (HT4.out _).mono ?_
      rintro e v13 ⟨rfl, hb⟩
      have HB13 := hid (HB2.out.trans (hb.mono HB2.out.size))
      obtain ⟨⟨c0, c1, c2⟩, _⟩ := HK.out v13 HB13.out
      clear hb
      by_cases h3 : e3 = 0
      · obtain ⟨_, P1, P2⟩ := HP.out h3
        have HP1 := hid P1
        have HP2 := hid P2
        clear P1 P2
        subst h3
        go_wp2_with fail
        refine (HT5.out _).mono ?_
        rintro e v14 ⟨rfl, hb⟩
        have HB14 := hid (HB13.out.trans (hb.mono HB13.out.size))
        obtain ⟨⟨c0, c1, c2⟩, _⟩ := HK.out v14 HB14.out
        clear hb
        by_cases h4 : e4 = 0
        · have h7 := HP1.out h4
          subst h4
          go_wp2_with fail
          refine (HT6.out _).mono ?_
          rintro e v15 ⟨rfl, hb⟩
          have HB15 := hid (HB14.out.trans (hb.mono HB14.out.size))
          obtain ⟨⟨c0, c1, c2⟩, _⟩ := HK.out v15 HB15.out
          clear hb
          by_cases h5 : e5 = 0
          · have h6 := HP2.out h5
            subst h5
            go_wp2_with fail
            refine (HA.out _).mono ?_
            rintro e v16 ⟨rfl, hb⟩
            have HB16 := hid (HB15.out.trans (hb.mono HB15.out.size))
            obtain ⟨⟨c0, c1, c2⟩, _⟩ := HK.out v16 HB16.out
            clear hb
            go_wp2
            go_ret
            exact ⟨rfl, (HK.out _ HB16.out).2⟩
          · go_wp2_with fail
            refine (HA.out _).mono ?_
            rintro e v17 ⟨rfl, hb⟩
            have HB17 := hid (HB15.out.trans (hb.mono HB15.out.size))
            obtain ⟨⟨c0, c1, c2⟩, _⟩ := HK.out v17 HB17.out
            clear hb
            go_wp2
            go_ret
            exact ⟨rfl, (HK.out _ HB17.out).2⟩
        · go_wp2_with fail
          refine (HT6.out _).mono ?_
          rintro e v18 ⟨rfl, hb⟩
          have HB18 := hid (HB14.out.trans (hb.mono HB14.out.size))
          obtain ⟨⟨c0, c1, c2⟩, _⟩ := HK.out v18 HB18.out
          clear hb
          by_cases h5 : e5 = 0
          · have h6 := HP2.out h5
            subst h5
            go_wp2_with fail
            refine (HA.out _).mono ?_
            rintro e v19 ⟨rfl, hb⟩
            have HB19 := hid (HB18.out.trans (hb.mono HB18.out.size))
            obtain ⟨⟨c0, c1, c2⟩, _⟩ := HK.out v19 HB19.out
            clear hb
            go_wp2
            go_ret
            exact ⟨rfl, (HK.out _ HB19.out).2⟩
          · go_wp2_with fail
            refine (HA.out _).mono ?_
            rintro e v20 ⟨rfl, hb⟩
            have HB20 := hid (HB18.out.trans (hb.mono HB18.out.size))
            obtain ⟨⟨c0, c1, c2⟩, _⟩ := HK.out v20 HB20.out
            clear hb
            go_wp2
            go_ret
            exact ⟨rfl, (HK.out _ HB20.out).2⟩
      · go_wp2_with fail
        refine (HA.out _).mono ?_
        rintro e v21 ⟨rfl, hb⟩
        have HB21 := hid (HB13.out.trans (hb.mono HB13.out.size))
        obtain ⟨⟨c0, c1, c2⟩, _⟩ := HK.out v21 HB21.out
        clear hb
        go_wp2
        go_ret
        exact ⟨rfl, (HK.out _ HB21.out).2⟩
  · go_wp2_with fail
    refine (HT4.out _).mono ?_
    rintro e v22 ⟨rfl, hb⟩
    have HB22 := hid (HB1.out.trans (hb.mono HB1.out.size))
    obtain ⟨⟨c0, c1, c2⟩, _⟩ := HK.out v22 HB22.out
    clear hb
    by_cases h3 : e3 = 0
    · obtain ⟨_, P1, P2⟩ := HP.out h3
      have HP1 := hid P1
      have HP2 := hid P2
      clear P1 P2
      subst h3
      go_wp2_with fail
      refine (HT5.out _).mono ?_
      rintro e v23 ⟨rfl, hb⟩
      have HB23 := hid (HB22.out.trans (hb.mono HB22.out.size))
      obtain ⟨⟨c0, c1, c2⟩, _⟩ := HK.out v23 HB23.out
      clear hb
      by_cases h4 : e4 = 0
      · have h7 := HP1.out h4
        subst h4
        go_wp2_with fail
        refine (HT6.out _).mono ?_
        rintro e v24 ⟨rfl, hb⟩
        have HB24 := hid (HB23.out.trans (hb.mono HB23.out.size))
        obtain ⟨⟨c0, c1, c2⟩, _⟩ := HK.out v24 HB24.out
        clear hb
        by_cases h5 : e5 = 0
        · have h6 := HP2.out h5
          subst h5
          go_wp2_with fail
          refine (HA.out _).mono ?_
          rintro e v25 ⟨rfl, hb⟩
          have HB25 := hid (HB24.out.trans (hb.mono HB24.out.size))
          obtain ⟨⟨c0, c1, c2⟩, _⟩ := HK.out v25 HB25.out
          clear hb
          go_wp2
          go_ret
          exact ⟨rfl, (HK.out _ HB25.out).2⟩
        · go_wp2_with fail
          refine (HA.out _).mono ?_
          rintro e v26 ⟨rfl, hb⟩
          have HB26 := hid (HB24.out.trans (hb.mono HB24.out.size))
          obtain ⟨⟨c0, c1, c2⟩, _⟩ := HK.out v26 HB26.out
          clear hb
          go_wp2
          go_ret
          exact ⟨rfl, (HK.out _ HB26.out).2⟩
      · go_wp2_with fail
        refine (HT6.out _).mono ?_
        rintro e v27 ⟨rfl, hb⟩
        have HB27 := hid (HB23.out.trans (hb.mono HB23.out.size))
        obtain ⟨⟨c0, c1, c2⟩, _⟩ := HK.out v27 HB27.out
        clear hb
        by_cases h5 : e5 = 0
        · have h6 := HP2.out h5
          subst h5
          go_wp2_with fail
          refine (HA.out _).mono ?_
          rintro e v28 ⟨rfl, hb⟩
          have HB28 := hid (HB27.out.trans (hb.mono HB27.out.size))
          obtain ⟨⟨c0, c1, c2⟩, _⟩ := HK.out v28 HB28.out
          clear hb
          go_wp2
          go_ret
          exact ⟨rfl, (HK.out _ HB28.out).2⟩
        · go_wp2_with fail
          refine (HA.out _).mono ?_
          rintro e v29 ⟨rfl, hb⟩
          have HB29 := hid (HB27.out.trans (hb.mono HB27.out.size))
          obtain ⟨⟨c0, c1, c2⟩, _⟩ := HK.out v29 HB29.out
          clear hb
          go_wp2
          go_ret
          exact ⟨rfl, (HK.out _ HB29.out).2⟩
    · go_wp2_with fail
      refine (HA.out _).mono ?_
      rintro e v30 ⟨rfl, hb⟩
      have HB30 := hid (HB22.out.trans (hb.mono HB22.out.size))
      obtain ⟨⟨c0, c1, c2⟩, _⟩ := HK.out v30 HB30.out
      clear hb
      go_wp2
      go_ret
      exact ⟨rfl, (HK.out _ HB30.out).2⟩
end Go.Proofs.Ytfdphegiafccpaa
