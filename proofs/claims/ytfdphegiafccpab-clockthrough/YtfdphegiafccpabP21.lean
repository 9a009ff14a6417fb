
/- What clock's Then does. -/
import Derived.Test.YtfdphegiafccpabP17
namespace Go.Proofs.Ytfdphegiafccpab
open Go.RowKit Go.IntWalk

/-- The rate of both clocks, in lowest terms. -/
def lowN (x y : Nat) : Nat := x / Nat.gcd x y
def lowD (x y : Nat) : Nat := y / Nat.gcd x y
def thE (o n d o' n' d' : Int) : Int :=
  if (ckB o n d && ckB o' n' d') = true then (if ckB 0 (lowN (n * n').toNat (d * d').toNat) (lowD (n * n').toNat (d * d').toNat) = true then tmE o' n' d' o else 130) else 130
def thO (o n d o' n' d' : Int) : Int := if thE o n d o' n' d' = 0 then tmV o' n' d' o else 0
def thN (o n d o' n' d' : Int) : Int := if thE o n d o' n' d' = 0 then (lowN (n * n').toNat (d * d').toNat : Int) else 0
def thD (o n d o' n' d' : Int) : Int := if thE o n d o' n' d' = 0 then (lowD (n * n').toNat (d * d').toNat : Int) else 0
theorem al3 (w : World) (A B C : Obj) : (((w.alloc A).alloc B).alloc C).heap[w.heap.size]? = some A ∧ (((w.alloc A).alloc B).alloc C).heap[w.heap.size + 1]? = some B ∧ (((w.alloc A).alloc B).alloc C).heap[w.heap.size + 2]? = some C := by
  have h1 := cnew w A
  have h2 : ((w.alloc A).alloc B).heap[w.heap.size + 1]? = some B := by simpa using cnew (w.alloc A) B
  have h3 : (((w.alloc A).alloc B).alloc C).heap[w.heap.size + 2]? = some C := by simpa using cnew ((w.alloc A).alloc B) C
  have k1 := ((Below.refl (w.alloc A).heap.size (w.alloc A)).alloc (Nat.le_refl _) B).block w.heap.size (by simp)
  have k2 := ((Below.refl ((w.alloc A).alloc B).heap.size ((w.alloc A).alloc B)).alloc (Nat.le_refl _) C).block w.heap.size (by simp; omega)
  have k3 := ((Below.refl ((w.alloc A).alloc B).heap.size ((w.alloc A).alloc B)).alloc (Nat.le_refl _) C).block (w.heap.size + 1) (by simp)
  exact ⟨k2.trans (k1.trans h1), k3.trans h2, h3⟩
theorem ckbox2 {w W : World} (o n d : Int) (hb : Below (w.alloc (CBox o n d)).heap.size (w.alloc (CBox o n d)) W) : (W.cell? ⟨w.heap.size, 0, none⟩ = some (.int .i64 o) ∧ W.cell? ⟨w.heap.size, 1, none⟩ = some (.int .i64 n) ∧ W.cell? ⟨w.heap.size, 2, none⟩ = some (.int .i64 d) ∧ ∀ o, W.frozen? ⟨w.heap.size, o, none⟩ = false) ∧ w.heap.size < W.heap.size ∧ Below w.heap.size w W := by
  have g1 := cnew w (CBox o n d)
  have g2 := (hb.block _ (Array.getElem?_eq_some_iff.1 g1).1).trans g1
  have t1 := ccells_of g2
  have h0 : Below w.heap.size w (w.alloc (CBox o n d)) := (Below.refl _ _).alloc (Nat.le_refl _) _
  exact ⟨t1, (Array.getElem?_eq_some_iff.1 g2).1, h0.trans (hb.mono h0.size)⟩
/-- The three boxes, and what stays of them. -/
theorem thbox {w W : World} (o n d o' n' d' : Int) (hb : Below (((w.alloc (CBox o n d)).alloc (CBox o' n' d')).alloc (CBox 0 0 0)).heap.size (((w.alloc (CBox o n d)).alloc (CBox o' n' d')).alloc (CBox 0 0 0)) W) :
    (W.cell? ⟨w.heap.size, 0, none⟩ = some (.int .i64 o) ∧ W.cell? ⟨w.heap.size, 1, none⟩ = some (.int .i64 n) ∧ W.cell? ⟨w.heap.size, 2, none⟩ = some (.int .i64 d)) ∧
    (W.cell? ⟨w.heap.size + 1, 0, none⟩ = some (.int .i64 o') ∧ W.cell? ⟨w.heap.size + 1, 1, none⟩ = some (.int .i64 n') ∧ W.cell? ⟨w.heap.size + 1, 2, none⟩ = some (.int .i64 d')) ∧
    (W.cell? ⟨w.heap.size + 2, 0, none⟩ = some (.int .i64 0) ∧ W.cell? ⟨w.heap.size + 2, 1, none⟩ = some (.int .i64 0) ∧ W.cell? ⟨w.heap.size + 2, 2, none⟩ = some (.int .i64 0) ∧ (∀ o, W.frozen? ⟨w.heap.size + 2, o, none⟩ = false)) ∧ w.heap.size + 3 ≤ W.heap.size ∧ Below w.heap.size w W := by
  have hs : (((w.alloc (CBox o n d)).alloc (CBox o' n' d')).alloc (CBox 0 0 0)).heap.size = w.heap.size + 3 := by simp
  have hB : ∀ b, b < w.heap.size + 3 → W.heap[b]? = (((w.alloc (CBox o n d)).alloc (CBox o' n' d')).alloc (CBox 0 0 0)).heap[b]? := fun b h => hb.block b (by rw [hs]; exact h)
  obtain ⟨g1, g2, g3⟩ := al3 w (CBox o n d) (CBox o' n' d') (CBox 0 0 0)
  have e1 := (hB _ (by omega)).trans g1
  have e2 := (hB _ (by omega)).trans g2
  have e3 := (hB _ (by omega)).trans g3
  obtain ⟨a1, a2, a3, _⟩ := ccells_of e1
  obtain ⟨b1, b2, b3, _⟩ := ccells_of e2
  obtain ⟨c1, c2, c3, c4⟩ := ccells_of e3
  have h0 : Below w.heap.size w (((w.alloc (CBox o n d)).alloc (CBox o' n' d')).alloc (CBox 0 0 0)) := (((Below.refl _ _).alloc (Nat.le_refl _) _).alloc (by simp) _).alloc (by simp; omega) _
  refine ⟨⟨a1, a2, a3⟩, ⟨b1, b2, b3⟩, ⟨c1, c2, c3, c4⟩, ?_, h0.trans (hb.mono h0.size)⟩
  have := hb.size
  rw [hs] at this
  exact this
set_option maxHeartbeats 4000000 in
theorem Then_any (o n d o' n' d' : Int) (w : World) (ho : -9223372036854775808 ≤ o ∧ o ≤ 9223372036854775807) :
    Calls Try.prog 11 #[.agg #[.int .i64 o, .int .i64 n, .int .i64 d], .agg #[.int .i64 o', .int .i64 n', .int .i64 d']] w fun r w' => r = .returned (.tuple #[.agg #[.int .i64 (thO o n d o' n' d'), .int .i64 (thN o n d o' n' d'), .int .i64 (thD o n d o' n' d')], .int .i64 (thE o n d o' n' d')]) ∧ Below w.heap.size w w' := by
  have HK := hid (fun W => @thbox w W o n d o' n' d')
  have HC1 := hid (fun W => Check_any o n d W)
  have HC2 := hid (fun W => Check_any o' n' d' W)
  have HT := hid (fun W => Time_any o' n' d' o W ho.1 ho.2)
  obtain ⟨W0, hW0⟩ : ∃ V, Hid (((w.alloc (CBox o n d)).alloc (CBox o' n' d')).alloc (CBox 0 0 0) = V) := ⟨_, rfl⟩
  rw [hW0.out] at HK
  obtain ⟨⟨a0, a1, a2⟩, ⟨b0, b1, b2⟩, _, _, _⟩ := HK.out W0 (Below.refl _ _)
  unfold CBox at hW0
  have hW0' := hW0.out
  by_cases h1 : ckB o n d = true
  · by_cases h2 : ckB o' n' d' = true
    · obtain ⟨_, ⟨k1, k2⟩, k3, k4⟩ := ckB_yes h1
      obtain ⟨_, ⟨l1, l2⟩, l3, l4⟩ := ckB_yes h2
      have p1 : n * n' ≤ 1000000000 * 1000000000 := Int.mul_le_mul k2 l2 (by omega) (by omega)
      have p2 : d * d' ≤ 1000000000 * 1000000000 := Int.mul_le_mul k4 l4 (by omega) (by omega)
      have p3 : 0 < n * n' := Int.mul_pos (by omega) (by omega)
      have p4 : 0 < d * d' := Int.mul_pos (by omega) (by omega)
      obtain ⟨X, hX⟩ := Int.eq_ofNat_of_zero_le (show 0 ≤ n * n' by omega)
      obtain ⟨Y, hY⟩ := Int.eq_ofNat_of_zero_le (show 0 ≤ d * d' by omega)
      have HL := hid (fun W => low_any X Y W (by omega) (by omega) (by omega))
      have e1 : ckE o n d = 0 := by unfold ckE; rw [if_pos h1]
      have e2 : ckE o' n' d' = 0 := by unfold ckE; rw [if_pos h2]
      rw [e1] at HC1
      rw [e2] at HC2
      have eE : thE o n d o' n' d' = if ckB 0 (lowN X Y) (lowD X Y) = true then tmE o' n' d' o else 130 := by
        unfold thE
        rw [h1, h2, if_pos (by rfl), hX, hY, Int.toNat_natCast, Int.toNat_natCast]
      have HC3 := hid (fun W => Check_any 0 (lowN X Y) (lowD X Y) W)
      have hN : lowN X Y = X / Nat.gcd X Y := by rw [lowN]
      have hD : lowD X Y = Y / Nat.gcd X Y := by rw [lowD]
      rw [← hN, ← hD] at HL
      have eN : thN o n d o' n' d' = if thE o n d o' n' d' = 0 then (lowN X Y : Int) else 0 := by
        unfold thN
        rw [hX, hY, Int.toNat_natCast, Int.toNat_natCast]
      have eD : thD o n d o' n' d' = if thE o n d o' n' d' = 0 then (lowD X Y : Int) else 0 := by
        unfold thD
        rw [hX, hY, Int.toNat_natCast, Int.toNat_natCast]
      have eO : thO o n d o' n' d' = if thE o n d o' n' d' = 0 then tmV o' n' d' o else 0 := by rw [thO]
      rw [eN, eD, eO]
      clear eN eD eO hN hD
      generalize lowN X Y = P at *
      generalize lowD X Y = Q at *
      have w1 : wrap64 (n * n') = (X : Int) := by rw [hX]; exact wrap64_in _ (by omega)
      have w2 : wrap64 (d * d') = (Y : Int) := by rw [hY]; exact wrap64_in _ (by omega)
      have w3 : wrap64 (X : Int) = (X : Int) := wrap64_in _ (by omega)
      have w4 : wrap64 (Y : Int) = (Y : Int) := wrap64_in _ (by omega)
      by_cases h3 : ckB 0 P Q = true
      · have e3 : ckE 0 P Q = 0 := by unfold ckE; rw [if_pos h3]
        rw [e3] at HC3
        rw [if_pos h3] at eE
        rw [eE]
        generalize tmV o' n' d' o = T at *
        generalize tmE o' n' d' o = E at *
        clear eE e1 e2 e3 h1 h2 h3 k1 k2 k3 k4 l1 l2 l3 l4 p1 p2 p3 p4 ho
        by_cases hE : E = 0
        · subst hE
          rw [if_pos rfl, if_pos rfl, if_pos rfl]
          go_enter Try.func11, Try.ntmps11
          go_wp2_with fail
          refine (HC1.out _).mono ?_
          rintro e v1 ⟨rfl, hb⟩
          have HB1 := hid hb
          obtain ⟨⟨a0, a1, a2⟩, ⟨b0, b1, b2⟩, ⟨r0, r1, r2, rf⟩, rs, _⟩ := HK.out v1 HB1.out
          clear hb
          go_wp2_with fail
          refine (HC2.out _).mono ?_
          rintro e v2 ⟨rfl, hb⟩
          have HB2 := hid (HB1.out.trans (hb.mono HB1.out.size))
          obtain ⟨⟨a0, a1, a2⟩, ⟨b0, b1, b2⟩, ⟨r0, r1, r2, rf⟩, rs, _⟩ := HK.out v2 HB2.out
          clear hb
          go_wp2_with fail
          refine (HL.out _).mono ?_
          rintro e v3 ⟨rfl, hb⟩
          have HB3 := hid (HB2.out.trans (hb.mono HB2.out.size))
          obtain ⟨⟨a0, a1, a2⟩, ⟨b0, b1, b2⟩, ⟨r0, r1, r2, rf⟩, rs, _⟩ := HK.out v3 HB3.out
          clear hb
          have HK6 := hid (fun W => @ckbox2 v3 W 0 P Q)
          obtain ⟨V, hV⟩ : ∃ V, Hid (v3.alloc (CBox 0 P Q) = V) := ⟨_, rfl⟩
          rw [hV.out] at HK6
          unfold CBox at hV
          have hV' := hV.out
          obtain ⟨⟨x0, x1, x2, xf⟩, xs, xb⟩ := HK6.out V (Below.refl _ _)
          have HBV := hid (HB3.out.trans (xb.mono HB3.out.size))
          have hvs := HB3.out.size
          clear xb
          obtain ⟨q, hq⟩ : ∃ t, Hid (v3.heap.size = t) := ⟨_, rfl⟩
          have hq' := hq.out
          rw [hq.out] at HK6 x0 x1 x2 xf xs
          go_wp2_with fail
          refine (HC3.out _).mono ?_
          rintro e v4 ⟨rfl, hb⟩
          have HB4 := hid (HBV.out.trans (hb.mono HBV.out.size))
          have HX4 := hid hb
          obtain ⟨⟨a0, a1, a2⟩, ⟨b0, b1, b2⟩, ⟨r0, r1, r2, rf⟩, rs, _⟩ := HK.out v4 HB4.out
          obtain ⟨⟨x0, x1, x2, xf⟩, xs, _⟩ := HK6.out v4 HX4.out
          clear hb
          go_wp2_with fail
          refine (HT.out _).mono ?_
          rintro e v5 ⟨rfl, hb⟩
          have HB5 := hid (HB4.out.trans (hb.mono HB4.out.size))
          have HX5 := hid (HX4.out.trans (hb.mono HX4.out.size))
          obtain ⟨⟨a0, a1, a2⟩, ⟨b0, b1, b2⟩, ⟨r0, r1, r2, rf⟩, rs, _⟩ := HK.out v5 HB5.out
          obtain ⟨⟨x0, x1, x2, xf⟩, xs, _⟩ := HK6.out v5 HX5.out
          clear hb
          have hqw : w.heap.size ≤ q := by omega
          go_wp2
          exact bodyPost_ret (v := .tuple #[.agg #[.int .i64 T, .int .i64 P, .int .i64 Q], .int .i64 0]) (by simp [results, Try.results11, go_sem, r0, r1, r2]) rfl ⟨rfl, Below.setCell (Below.setCell (Below.setCell (Below.setCell (HK.out _ HB5.out).2.2.2.2 hqw _) (Nat.le_trans (Nat.le_succ _) (Nat.le_succ _)) _) (Nat.le_trans (Nat.le_succ _) (Nat.le_succ _)) _) (Nat.le_trans (Nat.le_succ _) (Nat.le_succ _)) _⟩
        · rw [if_neg hE, if_neg hE, if_neg hE]
          go_enter Try.func11, Try.ntmps11
          go_wp2_with fail
          refine (HC1.out _).mono ?_
          rintro e v1 ⟨rfl, hb⟩
          have HB1 := hid hb
          obtain ⟨⟨a0, a1, a2⟩, ⟨b0, b1, b2⟩, ⟨r0, r1, r2, rf⟩, rs, _⟩ := HK.out v1 HB1.out
          clear hb
          go_wp2_with fail
          refine (HC2.out _).mono ?_
          rintro e v2 ⟨rfl, hb⟩
          have HB2 := hid (HB1.out.trans (hb.mono HB1.out.size))
          obtain ⟨⟨a0, a1, a2⟩, ⟨b0, b1, b2⟩, ⟨r0, r1, r2, rf⟩, rs, _⟩ := HK.out v2 HB2.out
          clear hb
          go_wp2_with fail
          refine (HL.out _).mono ?_
          rintro e v3 ⟨rfl, hb⟩
          have HB3 := hid (HB2.out.trans (hb.mono HB2.out.size))
          obtain ⟨⟨a0, a1, a2⟩, ⟨b0, b1, b2⟩, ⟨r0, r1, r2, rf⟩, rs, _⟩ := HK.out v3 HB3.out
          clear hb
          have HK6 := hid (fun W => @ckbox2 v3 W 0 P Q)
          obtain ⟨V, hV⟩ : ∃ V, Hid (v3.alloc (CBox 0 P Q) = V) := ⟨_, rfl⟩
          rw [hV.out] at HK6
          unfold CBox at hV
          have hV' := hV.out
          obtain ⟨⟨x0, x1, x2, xf⟩, xs, xb⟩ := HK6.out V (Below.refl _ _)
          have HBV := hid (HB3.out.trans (xb.mono HB3.out.size))
          have hvs := HB3.out.size
          clear xb
          obtain ⟨q, hq⟩ : ∃ t, Hid (v3.heap.size = t) := ⟨_, rfl⟩
          have hq' := hq.out
          rw [hq.out] at HK6 x0 x1 x2 xf xs
          go_wp2_with fail
          refine (HC3.out _).mono ?_
          rintro e v4 ⟨rfl, hb⟩
          have HB4 := hid (HBV.out.trans (hb.mono HBV.out.size))
          have HX4 := hid hb
          obtain ⟨⟨a0, a1, a2⟩, ⟨b0, b1, b2⟩, ⟨r0, r1, r2, rf⟩, rs, _⟩ := HK.out v4 HB4.out
          obtain ⟨⟨x0, x1, x2, xf⟩, xs, _⟩ := HK6.out v4 HX4.out
          clear hb
          go_wp2_with fail
          refine (HT.out _).mono ?_
          rintro e v5 ⟨rfl, hb⟩
          have HB5 := hid (HB4.out.trans (hb.mono HB4.out.size))
          have HX5 := hid (HX4.out.trans (hb.mono HX4.out.size))
          obtain ⟨⟨a0, a1, a2⟩, ⟨b0, b1, b2⟩, ⟨r0, r1, r2, rf⟩, rs, _⟩ := HK.out v5 HB5.out
          obtain ⟨⟨x0, x1, x2, xf⟩, xs, _⟩ := HK6.out v5 HX5.out
          clear hb
          have hE2 : (E == 0) = false := by simpa using hE
          go_wp2
          exact bodyPost_ret (v := .tuple #[.agg #[.int .i64 0, .int .i64 0, .int .i64 0], .int .i64 E]) (by simp [results, Try.results11, go_sem, r0, r1, r2]) rfl ⟨rfl, Below.setCell (Below.setCell (Below.setCell (HK.out _ HB5.out).2.2.2.2 (Nat.le_trans (Nat.le_succ _) (Nat.le_succ _)) _) (Nat.le_trans (Nat.le_succ _) (Nat.le_succ _)) _) (Nat.le_trans (Nat.le_succ _) (Nat.le_succ _)) _⟩
      · have e3 : ckE 0 P Q = 130 := by unfold ckE; rw [if_neg h3]
        rw [e3] at HC3
        rw [if_neg h3] at eE
        rw [eE]
        rw [if_neg (by omega), if_neg (by omega), if_neg (by omega)]
        clear eE e1 e2 e3 h1 h2 h3 k1 k2 k3 k4 l1 l2 l3 l4 p1 p2 p3 p4 ho
        go_enter Try.func11, Try.ntmps11
        go_wp2_with fail
        refine (HC1.out _).mono ?_
        rintro e v1 ⟨rfl, hb⟩
        have HB1 := hid hb
        obtain ⟨⟨a0, a1, a2⟩, ⟨b0, b1, b2⟩, ⟨r0, r1, r2, rf⟩, rs, _⟩ := HK.out v1 HB1.out
        clear hb
        go_wp2_with fail
        refine (HC2.out _).mono ?_
        rintro e v2 ⟨rfl, hb⟩
        have HB2 := hid (HB1.out.trans (hb.mono HB1.out.size))
        obtain ⟨⟨a0, a1, a2⟩, ⟨b0, b1, b2⟩, ⟨r0, r1, r2, rf⟩, rs, _⟩ := HK.out v2 HB2.out
        clear hb
        go_wp2_with fail
        refine (HL.out _).mono ?_
        rintro e v3 ⟨rfl, hb⟩
        have HB3 := hid (HB2.out.trans (hb.mono HB2.out.size))
        obtain ⟨⟨a0, a1, a2⟩, ⟨b0, b1, b2⟩, ⟨r0, r1, r2, rf⟩, rs, _⟩ := HK.out v3 HB3.out
        clear hb
        have HK6 := hid (fun W => @ckbox2 v3 W 0 P Q)
        obtain ⟨V, hV⟩ : ∃ V, Hid (v3.alloc (CBox 0 P Q) = V) := ⟨_, rfl⟩
        rw [hV.out] at HK6
        unfold CBox at hV
        have hV' := hV.out
        obtain ⟨⟨x0, x1, x2, xf⟩, xs, xb⟩ := HK6.out V (Below.refl _ _)
        have HBV := hid (HB3.out.trans (xb.mono HB3.out.size))
        have hvs := HB3.out.size
        clear xb
        obtain ⟨q, hq⟩ : ∃ t, Hid (v3.heap.size = t) := ⟨_, rfl⟩
        have hq' := hq.out
        rw [hq.out] at HK6 x0 x1 x2 xf xs
        go_wp2_with fail
        refine (HC3.out _).mono ?_
        rintro e v4 ⟨rfl, hb⟩
        have HB4 := hid (HBV.out.trans (hb.mono HBV.out.size))
        have HX4 := hid hb
        obtain ⟨⟨a0, a1, a2⟩, ⟨b0, b1, b2⟩, ⟨r0, r1, r2, rf⟩, rs, _⟩ := HK.out v4 HB4.out
        obtain ⟨⟨x0, x1, x2, xf⟩, xs, _⟩ := HK6.out v4 HX4.out
        clear hb
        go_wp2
        exact bodyPost_ret (v := .tuple #[.agg #[.int .i64 0, .int .i64 0, .int .i64 0], .int .i64 130]) (by simp [results, Try.results11, go_sem, r0, r1, r2]) rfl ⟨rfl, Below.setCell (Below.setCell (Below.setCell (HK.out _ HB4.out).2.2.2.2 (Nat.le_trans (Nat.le_succ _) (Nat.le_succ _)) _) (Nat.le_trans (Nat.le_succ _) (Nat.le_succ _)) _) (Nat.le_trans (Nat.le_succ _) (Nat.le_succ _)) _⟩
    · have eE : thE o n d o' n' d' = 130 := by unfold thE; rw [if_neg (by simp [h2])]
      have e1 : ckE o n d = 0 := by unfold ckE; rw [if_pos h1]
      have e2 : ckE o' n' d' = 130 := by unfold ckE; rw [if_neg h2]
      unfold thO thN thD
      rw [eE, if_neg (by omega), if_neg (by omega), if_neg (by omega)]
      rw [e1] at HC1
      rw [e2] at HC2
      clear eE e1 e2 h1 h2 ho
      go_enter Try.func11, Try.ntmps11
      go_wp2_with fail
      refine (HC1.out _).mono ?_
      rintro e v1 ⟨rfl, hb⟩
      have HB1 := hid hb
      obtain ⟨⟨a0, a1, a2⟩, ⟨b0, b1, b2⟩, ⟨r0, r1, r2, rf⟩, rs, _⟩ := HK.out v1 HB1.out
      clear hb
      go_wp2_with fail
      refine (HC2.out _).mono ?_
      rintro e v2 ⟨rfl, hb⟩
      have HB2 := hid (HB1.out.trans (hb.mono HB1.out.size))
      obtain ⟨⟨a0, a1, a2⟩, ⟨b0, b1, b2⟩, ⟨r0, r1, r2, rf⟩, rs, _⟩ := HK.out v2 HB2.out
      clear hb
      go_wp2
      exact bodyPost_ret (v := .tuple #[.agg #[.int .i64 0, .int .i64 0, .int .i64 0], .int .i64 130]) (by simp [results, Try.results11, go_sem, r0, r1, r2]) rfl ⟨rfl, Below.setCell (Below.setCell (Below.setCell (HK.out _ HB2.out).2.2.2.2 (Nat.le_trans (Nat.le_succ _) (Nat.le_succ _)) _) (Nat.le_trans (Nat.le_succ _) (Nat.le_succ _)) _) (Nat.le_trans (Nat.le_succ _) (Nat.le_succ _)) _⟩
  · have eE : thE o n d o' n' d' = 130 := by unfold thE; rw [if_neg (by simp [h1])]
    have e1 : ckE o n d = 130 := by unfold ckE; rw [if_neg h1]
    unfold thO thN thD
    rw [eE, if_neg (by omega), if_neg (by omega), if_neg (by omega)]
    rw [e1] at HC1
    clear eE e1 h1 ho
    go_enter Try.func11, Try.ntmps11
    go_wp2_with fail
    refine (HC1.out _).mono ?_
    rintro e v1 ⟨rfl, hb⟩
    have HB1 := hid hb
    obtain ⟨⟨a0, a1, a2⟩, ⟨b0, b1, b2⟩, ⟨r0, r1, r2, rf⟩, rs, _⟩ := HK.out v1 HB1.out
    clear hb
    go_wp2
    exact bodyPost_ret (v := .tuple #[.agg #[.int .i64 0, .int .i64 0, .int .i64 0], .int .i64 130]) (by simp [results, Try.results11, go_sem, r0, r1, r2]) rfl ⟨rfl, Below.setCell (Below.setCell (Below.setCell (HK.out _ HB1.out).2.2.2.2 (Nat.le_trans (Nat.le_succ _) (Nat.le_succ _)) _) (Nat.le_trans (Nat.le_succ _) (Nat.le_succ _)) _) (Nat.le_trans (Nat.le_succ _) (Nat.le_succ _)) _⟩
end Go.Proofs.Ytfdphegiafccpab
