
/- The law ClockThen. -/
import Derived.Test.YtfdphegiafccpabP21
import Derived.Test.YtfdphegiafccpabP22
namespace Go.Proofs.Ytfdphegiafccpab
open Go.RowKit Go.IntWalk

/-- Two floors, one over the other, against the floor of both: in whole numbers. -/
theorem then_core (o N n d n' d' m : Int) (hd : 0 < d) (hn : 0 < n') (hd' : 0 < d') (hm : n' ≤ m * d') (hm1 : 1 ≤ m) :
    (o + N * n / d) * n' / d' - (o * n' / d' + N * (n * n') / (d * d')) ≤ m ∧ (o * n' / d' + N * (n * n') / (d * d')) - (o + N * n / d) * n' / d' ≤ m := by
  have x1 : N * n / d * d ≤ N * n := Int.ediv_mul_le _ (by omega)
  have x2 : N * n < (N * n / d + 1) * d := Int.lt_ediv_add_one_mul_self _ hd
  generalize N * n / d = x at *
  have a1 : o * n' / d' * d' ≤ o * n' := Int.ediv_mul_le _ (by omega)
  have a2 : o * n' < (o * n' / d' + 1) * d' := Int.lt_ediv_add_one_mul_self _ hd'
  have z1 : x * n' / d' * d' ≤ x * n' := Int.ediv_mul_le _ (by omega)
  have z2 : x * n' < (x * n' / d' + 1) * d' := Int.lt_ediv_add_one_mul_self _ hd'
  have dd : 0 < d * d' := Int.mul_pos hd hd'
  have w1 : N * (n * n') / (d * d') * (d * d') ≤ N * (n * n') := Int.ediv_mul_le _ (by omega)
  have e0 : N * (n * n') = N * n * n' := (Int.mul_assoc N n n').symm
  -- the floor of both isn't below that of the second
  have hz : x * n' / d' ≤ N * (n * n') / (d * d') := by
    rw [Int.le_ediv_iff_mul_le dd, e0]
    have h1 : x * n' / d' * d' * d ≤ x * n' * d := Int.mul_le_mul_of_nonneg_right z1 (by omega)
    have h2 : x * d * n' ≤ N * n * n' := Int.mul_le_mul_of_nonneg_right x1 (by omega)
    have h3 : x * n' / d' * (d * d') = x * n' / d' * d' * d := by rw [Int.mul_assoc, Int.mul_comm d d']
    have h4 : x * n' * d = x * d * n' := by rw [Int.mul_assoc, Int.mul_comm n' d, ← Int.mul_assoc]
    rw [h3]
    rw [h4] at h1
    omega
  have hw : N * (n * n') / (d * d') - m ≤ x * n' / d' := by
    rw [Int.le_ediv_iff_mul_le hd']
    generalize N * (n * n') / (d * d') = W at *
    have h1 : N * n * n' < (x + 1) * d * n' := Int.mul_lt_mul_of_pos_right x2 hn
    rw [e0] at w1
    have h2 : W * d' * d < ((x + 1) * n') * d := by
      have e1 : W * d' * d = W * (d * d') := by rw [Int.mul_assoc, Int.mul_comm d' d]
      have e2 : (x + 1) * n' * d = (x + 1) * d * n' := by rw [Int.mul_assoc, Int.mul_comm n' d, ← Int.mul_assoc]
      rw [e1, e2]
      omega
    have h3 : W * d' < (x + 1) * n' := Int.lt_of_mul_lt_mul_right h2 (by omega)
    rw [Int.sub_mul]
    rw [Int.add_mul, Int.one_mul] at h3
    omega
  have hu1 : o * n' / d' + x * n' / d' ≤ (o + x) * n' / d' := by
    rw [Int.le_ediv_iff_mul_le hd', Int.add_mul, Int.add_mul]
    omega
  have hu2 : (o + x) * n' / d' < o * n' / d' + x * n' / d' + 2 := by
    rw [Int.ediv_lt_iff_lt_mul hd', Int.add_mul, Int.add_mul, Int.add_mul]
    rw [Int.add_mul, Int.one_mul] at a2 z2
    omega
  omega
theorem low_floor (k : Int) (X Y : Nat) (hX : 0 < X) : k * (lowN X Y : Int) / (lowD X Y : Int) = k * (X : Int) / (Y : Int) := by
  have hg : 0 < Nat.gcd X Y := Nat.gcd_pos_of_pos_left _ hX
  have e1 : X / Nat.gcd X Y * Nat.gcd X Y = X := Nat.div_mul_cancel (Nat.gcd_dvd_left _ _)
  have e2 : Y / Nat.gcd X Y * Nat.gcd X Y = Y := Nat.div_mul_cancel (Nat.gcd_dvd_right _ _)
  unfold lowN lowD
  generalize Nat.gcd X Y = G at *
  generalize X / G = P at *
  generalize Y / G = Q at *
  rw [← e1, ← e2, Int.natCast_mul, Int.natCast_mul, ← Int.mul_assoc, Int.mul_ediv_mul_of_pos_left _ _ (by omega)]
theorem ck_most (n d : Int) (hn : 1 ≤ n) (hd : 1 ≤ d) : (n + d - 1).tdiv d = (n + d - 1) / d ∧ n ≤ (n + d - 1) / d * d ∧ 1 ≤ (n + d - 1) / d ∧ (n + d - 1) / d ≤ n + d - 1 := by
  refine ⟨Int.tdiv_eq_ediv_of_nonneg (by omega), ?_, ?_, Int.ediv_le_self _ (by omega)⟩
  · have := Int.lt_ediv_add_one_mul_self (n + d - 1) (show 0 < d by omega)
    rw [Int.add_mul, Int.one_mul] at this
    omega
  · rw [Int.le_ediv_iff_mul_le (by omega)]
    omega
theorem then_near (o n d o' n' d' k : Int) (h1 : thE o n d o' n' d' = 0) (h2 : tmE o n d k = 0) (h3 : tmE o' n' d' (tmV o n d k) = 0) (h4 : tmE (thO o n d o' n' d') (thN o n d o' n' d') (thD o n d o' n' d') k = 0) :
    tmV o' n' d' (tmV o n d k) - tmV (thO o n d o' n' d') (thN o n d o' n' d') (thD o n d o' n' d') k ≤ (n' + d' - 1) / d' ∧ tmV (thO o n d o' n' d') (thN o n d o' n' d') (thD o n d o' n' d') k - tmV o' n' d' (tmV o n d k) ≤ (n' + d' - 1) / d' := by
  have hc := ((tmE_zero _ _ _ _).1 h2).1
  have hc' := ((tmE_zero _ _ _ _).1 h3).1
  obtain ⟨_, ⟨k1, k2⟩, k3, k4⟩ := ckB_yes hc
  obtain ⟨_, ⟨l1, l2⟩, l3, l4⟩ := ckB_yes hc'
  obtain ⟨_, m1, m2, _⟩ := ck_most n' d' l1 l3
  have hE : thE o n d o' n' d' = tmE o' n' d' o := by
    unfold thE at h1 ⊢
    rw [hc, hc', if_pos (by rfl)] at h1 ⊢
    by_cases hb : ckB 0 (lowN (n * n').toNat (d * d').toNat) (lowD (n * n').toNat (d * d').toNat) = true
    · rw [if_pos hb]
    · rw [if_neg hb] at h1
      omega
  rw [h1] at hE
  have eO : thO o n d o' n' d' = o' + o * n' / d' := by
    unfold thO tmV
    rw [if_pos h1, if_pos hE.symm]
  have p3 : 0 < n * n' := Int.mul_pos (by omega) (by omega)
  have p4 : 0 < d * d' := Int.mul_pos (by omega) (by omega)
  obtain ⟨X, hX⟩ := Int.eq_ofNat_of_zero_le (show 0 ≤ n * n' by omega)
  obtain ⟨Y, hY⟩ := Int.eq_ofNat_of_zero_le (show 0 ≤ d * d' by omega)
  have eN : thN o n d o' n' d' = lowN X Y := by unfold thN; rw [if_pos h1, hX, hY, Int.toNat_natCast, Int.toNat_natCast]
  have eD : thD o n d o' n' d' = lowD X Y := by unfold thD; rw [if_pos h1, hX, hY, Int.toNat_natCast, Int.toNat_natCast]
  have v1 : tmV o n d k = o + k * n / d := by unfold tmV; rw [if_pos h2]
  have v2 : tmV o' n' d' (tmV o n d k) = o' + (o + k * n / d) * n' / d' := by
    rw [v1]
    rw [v1] at h3
    unfold tmV
    rw [if_pos h3]
  have v3 : tmV (thO o n d o' n' d') (thN o n d o' n' d') (thD o n d o' n' d') k = o' + o * n' / d' + k * (n * n') / (d * d') := by
    have e : tmV (thO o n d o' n' d') (thN o n d o' n' d') (thD o n d o' n' d') k = thO o n d o' n' d' + k * thN o n d o' n' d' / thD o n d o' n' d' := by
      rw [tmV, if_pos h4]
    rw [e, eO, eN, eD, low_floor k X Y (by omega), hX, hY]
  rw [v2, v3]
  have := then_core o k n d n' d' ((n' + d' - 1) / d') (by omega) (by omega) (by omega) m1 m2
  omega
theorem al2 (w : World) (A B : Obj) : ((w.alloc A).alloc B).heap[w.heap.size]? = some A ∧ ((w.alloc A).alloc B).heap[w.heap.size + 1]? = some B := by
  have h2 : ((w.alloc A).alloc B).heap[w.heap.size + 1]? = some B := by simpa using cnew (w.alloc A) B
  have k1 := ((Below.refl (w.alloc A).heap.size (w.alloc A)).alloc (Nat.le_refl _) B).block w.heap.size (by simp)
  exact ⟨k1.trans (cnew w A), h2⟩
/-- The two clocks' boxes, and what stays of them. -/
theorem twobox {w W : World} (o n d o' n' d' : Int) (hb : Below ((w.alloc (CBox o n d)).alloc (CBox o' n' d')).heap.size ((w.alloc (CBox o n d)).alloc (CBox o' n' d')) W) :
    (W.cell? ⟨w.heap.size, 0, none⟩ = some (.int .i64 o) ∧ W.cell? ⟨w.heap.size, 1, none⟩ = some (.int .i64 n) ∧ W.cell? ⟨w.heap.size, 2, none⟩ = some (.int .i64 d)) ∧
    (W.cell? ⟨w.heap.size + 1, 0, none⟩ = some (.int .i64 o') ∧ W.cell? ⟨w.heap.size + 1, 1, none⟩ = some (.int .i64 n') ∧ W.cell? ⟨w.heap.size + 1, 2, none⟩ = some (.int .i64 d')) ∧ Below w.heap.size w W := by
  have hs : ((w.alloc (CBox o n d)).alloc (CBox o' n' d')).heap.size = w.heap.size + 2 := by simp
  have hB : ∀ b, b < w.heap.size + 2 → W.heap[b]? = ((w.alloc (CBox o n d)).alloc (CBox o' n' d')).heap[b]? := fun b h => hb.block b (by rw [hs]; exact h)
  obtain ⟨g1, g2⟩ := al2 w (CBox o n d) (CBox o' n' d')
  obtain ⟨a1, a2, a3, _⟩ := ccells_of ((hB _ (by omega)).trans g1)
  obtain ⟨b1, b2, b3, _⟩ := ccells_of ((hB _ (by omega)).trans g2)
  have h0 : Below w.heap.size w ((w.alloc (CBox o n d)).alloc (CBox o' n' d')) := ((Below.refl _ _).alloc (Nat.le_refl _) _).alloc (by simp) _
  exact ⟨⟨a1, a2, a3⟩, ⟨b1, b2, b3⟩, h0.trans (hb.mono h0.size)⟩
theorem tm_in (o n d k : Int) : -1125899906842624 ≤ tmV o n d k ∧ tmV o n d k ≤ 1125899906842624 := by
  unfold tmV
  split
  · rename_i h
    exact (inB_iff _).1 ((tmE_zero _ _ _ _).1 h).2.2
  · omega
set_option maxRecDepth 2000 in
set_option maxHeartbeats 8000000 in
theorem then_walk (o n d o' n' d' k : Int) (w : World) (ho : -9223372036854775808 ≤ o ∧ o ≤ 9223372036854775807) (_b2 : -9223372036854775808 ≤ n ∧ n ≤ 9223372036854775807) (_b3 : -9223372036854775808 ≤ d ∧ d ≤ 9223372036854775807) (_b4 : -9223372036854775808 ≤ o' ∧ o' ≤ 9223372036854775807) (_b5 : -9223372036854775808 ≤ n' ∧ n' ≤ 9223372036854775807) (_b6 : -9223372036854775808 ≤ d' ∧ d' ≤ 9223372036854775807) (hk : -9223372036854775808 ≤ k ∧ k ≤ 9223372036854775807) :
    Calls Try.prog 5 #[.agg #[.int .i64 o, .int .i64 n, .int .i64 d], .agg #[.int .i64 o', .int .i64 n', .int .i64 d'], .int .i64 k] w fun r w' => r = .returned (.bool true) ∧ Below w.heap.size w w' := by
  have HK := hid (fun W => @twobox w W o n d o' n' d')
  have HA := hid (fun W => awake13_any W)
  have HT1 := hid (fun W => Then_any o n d o' n' d' W ho)
  have HT2 := hid (fun W => Time_any o n d k W hk.1 hk.2)
  have ht := tm_in o n d k
  have HT3 := hid (fun W => Time_any o' n' d' (tmV o n d k) W (by omega) (by omega))
  have HT4 := hid (fun W => Time_any (thO o n d o' n' d') (thN o n d o' n' d') (thD o n d o' n' d') k W hk.1 hk.2)
  have HN := hid (then_near o n d o' n' d' k)
  have HO : Hid (tmE o' n' d' (tmV o n d k) = 0 → (1 ≤ n' ∧ n' ≤ 1000000000) ∧ (1 ≤ d' ∧ d' ≤ 1000000000)) := hid (fun h => (ckB_yes ((tmE_zero _ _ _ _).1 h).1).2)
  have hu := tm_in o' n' d' (tmV o n d k)
  have hv := tm_in (thO o n d o' n' d') (thN o n d o' n' d') (thD o n d o' n' d') k
  generalize tmV (thO o n d o' n' d') (thN o n d o' n' d') (thD o n d o' n' d') k = v at *
  generalize tmE (thO o n d o' n' d') (thN o n d o' n' d') (thD o n d o' n' d') k = e4 at *
  generalize thO o n d o' n' d' = kO at *
  generalize thN o n d o' n' d' = kN at *
  generalize thD o n d o' n' d' = kD at *
  generalize thE o n d o' n' d' = e1 at *
  generalize tmV o' n' d' (tmV o n d k) = u at *
  generalize tmE o' n' d' (tmV o n d k) = e3 at *
  generalize tmV o n d k = t at *
  generalize tmE o n d k = e2 at *
  have s1 : wrap64 (u - v) = u - v := wrap64_in _ (by omega)
  have s2 : wrap64 (v - u) = v - u := wrap64_in _ (by omega)
  obtain ⟨W0, hW0⟩ : ∃ V, Hid ((w.alloc (CBox o n d)).alloc (CBox o' n' d') = V) := ⟨_, rfl⟩
  rw [hW0.out] at HK
  obtain ⟨⟨a0, a1, a2⟩, ⟨b0, b1, b2⟩, _⟩ := HK.out W0 (Below.refl _ _)
  unfold CBox at hW0
  have hW0' := hW0.out
  have HB0 : Hid (Below W0.heap.size W0 W0) := Below.refl _ _
  clear ho _b2 _b3 _b4 _b5 _b6 hk ht hu hv
  go_enter Try.func5, Try.ntmps5
  go_wp2_with fail
  refine (HT1.out _).mono ?_
  rintro e v1 ⟨rfl, hb⟩
  have HB1 := hid (HB0.out.trans (hb.mono HB0.out.size))
  obtain ⟨⟨a0, a1, a2⟩, ⟨b0, b1, b2⟩, _⟩ := HK.out v1 HB1.out
  clear hb
  have HK6 := hid (fun W => @ckbox2 v1 W kO kN kD)
  obtain ⟨V, hV⟩ : ∃ V, Hid (v1.alloc (CBox kO kN kD) = V) := ⟨_, rfl⟩
  rw [hV.out] at HK6
  unfold CBox at hV
  have hV' := hV.out
  obtain ⟨⟨x0, x1, x2, xf⟩, xs, xb⟩ := HK6.out V (Below.refl _ _)
  have HBV := hid (HB1.out.trans (xb.mono HB1.out.size))
  obtain ⟨⟨a0, a1, a2⟩, ⟨b0, b1, b2⟩, _⟩ := HK.out V HBV.out
  clear xb
  obtain ⟨q, hq⟩ : ∃ t, Hid (v1.heap.size = t) := ⟨_, rfl⟩
  have hq' := hq.out
  rw [hq.out] at HK6 x0 x1 x2 xf xs
  go_wp2_with fail
  refine (HT2.out _).mono ?_
  rintro e v2 ⟨rfl, hb⟩
  have HB2 := hid (HBV.out.trans (hb.mono HBV.out.size))
  obtain ⟨⟨a0, a1, a2⟩, ⟨b0, b1, b2⟩, _⟩ := HK.out v2 HB2.out
  have HX2 := hid hb
  obtain ⟨⟨x0, x1, x2, xf⟩, xs, _⟩ := HK6.out v2 HX2.out
  clear hb
  by_cases h1 : e1 = 0
  · by_cases h2 : e2 = 0
    · go_wp2_with fail
      refine (HT3.out _).mono ?_
      rintro e v3 ⟨rfl, hb⟩
      have HB3 := hid (HB2.out.trans (hb.mono HB2.out.size))
      obtain ⟨⟨a0, a1, a2⟩, ⟨b0, b1, b2⟩, _⟩ := HK.out v3 HB3.out
      have HX3 := hid (HX2.out.trans (hb.mono HX2.out.size))
      obtain ⟨⟨x0, x1, x2, xf⟩, xs, _⟩ := HK6.out v3 HX3.out
      clear hb
      go_wp2_with fail
      refine (HT4.out _).mono ?_
      rintro e v4 ⟨rfl, hb⟩
      have HB4 := hid (HB3.out.trans (hb.mono HB3.out.size))
      obtain ⟨⟨a0, a1, a2⟩, ⟨b0, b1, b2⟩, _⟩ := HK.out v4 HB4.out
      have HX4 := hid (HX3.out.trans (hb.mono HX3.out.size))
      obtain ⟨⟨x0, x1, x2, xf⟩, xs, _⟩ := HK6.out v4 HX4.out
      clear hb
      by_cases h3 : e3 = 0
      · by_cases h4 : e4 = 0
        · obtain ⟨N1, N2⟩ := HN.out h1 h2 h3 h4
          obtain ⟨⟨O1, O2⟩, O3, O4⟩ := HO.out h3
          obtain ⟨m1, m2, m3, m4⟩ := ck_most n' d' O1 O3
          generalize (n' + d' - 1) / d' = M at *
          subst h1 h2 h3 h4
          have q1 : wrap64 (n' + d') = n' + d' := wrap64_in _ (by omega)
          have q2 : wrap64 (n' + d' - 1) = n' + d' - 1 := wrap64_in _ (by omega)
          have q3 : wrap64 M = M := wrap64_in _ (by omega)
          have q4 : ¬ d' = 0 := by omega
          go_wp2_with fail
          refine (HA.out _).mono ?_
          rintro e v5 ⟨rfl, hb⟩
          have HB5 := hid (HB4.out.trans (hb.mono HB4.out.size))
          obtain ⟨⟨a0, a1, a2⟩, ⟨b0, b1, b2⟩, _⟩ := HK.out v5 HB5.out
          clear hb
          go_wp2
          go_ret
          exact ⟨rfl, (HK.out _ HB5.out).2.2⟩
        · subst h1 h2 h3
          go_wp2_with fail
          refine (HA.out _).mono ?_
          rintro e v6 ⟨rfl, hb⟩
          have HB6 := hid (HB4.out.trans (hb.mono HB4.out.size))
          obtain ⟨⟨a0, a1, a2⟩, ⟨b0, b1, b2⟩, _⟩ := HK.out v6 HB6.out
          clear hb
          go_wp2
          go_ret
          exact ⟨rfl, (HK.out _ HB6.out).2.2⟩
      · subst h1 h2
        go_wp2_with fail
        refine (HA.out _).mono ?_
        rintro e v7 ⟨rfl, hb⟩
        have HB7 := hid (HB4.out.trans (hb.mono HB4.out.size))
        obtain ⟨⟨a0, a1, a2⟩, ⟨b0, b1, b2⟩, _⟩ := HK.out v7 HB7.out
        clear hb
        go_wp2
        go_ret
        exact ⟨rfl, (HK.out _ HB7.out).2.2⟩
    · subst h1
      go_wp2_with fail
      refine (HA.out _).mono ?_
      rintro e v8 ⟨rfl, hb⟩
      have HB8 := hid (HB2.out.trans (hb.mono HB2.out.size))
      obtain ⟨⟨a0, a1, a2⟩, ⟨b0, b1, b2⟩, _⟩ := HK.out v8 HB8.out
      clear hb
      go_wp2
      go_ret
      exact ⟨rfl, (HK.out _ HB8.out).2.2⟩
  · go_wp2_with fail
    refine (HA.out _).mono ?_
    rintro e v9 ⟨rfl, hb⟩
    have HB9 := hid (HB2.out.trans (hb.mono HB2.out.size))
    obtain ⟨⟨a0, a1, a2⟩, ⟨b0, b1, b2⟩, _⟩ := HK.out v9 HB9.out
    clear hb
    go_wp2
    go_ret
    exact ⟨rfl, (HK.out _ HB9.out).2.2⟩
end Go.Proofs.Ytfdphegiafccpab
