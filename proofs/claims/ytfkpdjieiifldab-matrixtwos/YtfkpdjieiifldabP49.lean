
/- The law MatrixTwos. (Written by mkmtb.py.) -/
import Derived.Test.YtfkpdjieiifldabP48
namespace Go.Proofs.Ytfkpdjieiifldab
open Go.RowKit Go.IntWalk

theorem StoM.belowN {m : Nat} {w W : World} {b : Nat} {r c : Int} {sa : Option Addr} {n cap : Nat} (h : Below m w W) (hb : m ≤ b) : Below m w (StoM W b r c sa n cap) :=
  ((h.setCell (p := ⟨b, 0, none⟩) hb _).setCell (p := ⟨b, 1, none⟩) hb _).setCell (p := ⟨b, 2, none⟩) hb _
theorem Scale_two (r c n p : Nat) (sa : Option Addr) (ka : Nat) (f : Nat → Nat) (w : World) (ha : Gd w r c sa n ka f) (hp : 1 ≤ p ∧ p ≤ 2046) (hok : ∀ k, k < r * c → OkE p (f k)) :
    Calls Try.prog 38 #[.agg #[.int .i64 r, .int .i64 c, .slice sa n ka], .float .f64 (twoW p)] w fun e w' => (∃ (g : Nat) (o : Nat → Nat), e = .returned (.tuple #[.agg #[.int .i64 r, .int .i64 c, .slice (some ⟨g, 0, none⟩) (r * c) (r * c)], .int .i64 0]) ∧ Gd w' r c (some ⟨g, 0, none⟩) (r * c) (r * c) o ∧ ∀ k, k < r * c → o k = shE p (f k)) ∧ Below w.heap.size w w' := by
  refine (Scale_good r c n (twoW p) sa ka f w ha (twoW_fin p hp.2).1 (twoW_fin p hp.2).2).mono ?_
  rintro e w' ⟨⟨g, o, rfl, hf, hv⟩, hb⟩
  have key : ∀ k, k < r * c → o k = shE p (f k) := fun k hk => by
    obtain ⟨q1, q2, q3⟩ := split_k hk
    have := hv _ _ q1 q2
    rw [q3, mul_two p _ hp (hok k hk)] at this
    exact (Option.some.inj this).symm
  have hfin : finF (r * c) o = true := finF_of (fun k hk => by
    obtain ⟨_, h2⟩ := shE_fin p (f k) hp (hok k hk)
    unfold expOf
    rw [key k hk, canq_fin h2]
    exact expq_fin h2)
  refine ⟨⟨g, o, ?_, ⟨ha.1, ha.2.1, rfl, hf, hfin⟩, key⟩, hb⟩
  unfold AnsM MV
  rw [if_pos hfin, if_pos hfin]
theorem Scale_back (r c n p q : Nat) (sa : Option Addr) (ka : Nat) (f f0 : Nat → Nat) (w : World) (ha : Gd w r c sa n ka f) (hpq : p + q = 2046) (hp : 1 ≤ p ∧ p ≤ 2045) (hok : ∀ k, k < r * c → OkE p (f0 k)) (hf : ∀ k, k < r * c → f k = shE p (f0 k)) :
    Calls Try.prog 38 #[.agg #[.int .i64 r, .int .i64 c, .slice sa n ka], .float .f64 (twoW q)] w fun e w' => (∃ (g : Nat) (o : Nat → Nat), e = .returned (.tuple #[.agg #[.int .i64 r, .int .i64 c, .slice (some ⟨g, 0, none⟩) (r * c) (r * c)], .int .i64 0]) ∧ Gd w' r c (some ⟨g, 0, none⟩) (r * c) (r * c) o ∧ ∀ k, k < r * c → o k = f0 k) ∧ Below w.heap.size w w' := by
  refine (Scale_two r c n q sa ka f w ha (by omega) (fun k hk => by rw [hf k hk]; exact (shE_back p q _ hpq hp (hok k hk)).1)).mono ?_
  rintro e w' ⟨⟨g, o, rfl, hg, hv⟩, hb⟩
  exact ⟨⟨g, o, rfl, hg, fun k hk => by rw [hv k hk, hf k hk, (shE_back p q _ hpq hp (hok k hk)).2]⟩, hb⟩
theorem tmodq (k : Int) : -500 ≤ k.tmod 501 ∧ k.tmod 501 ≤ 500 := by
  rcases Int.le_total 0 k with h | h
  · have h1 := Int.tmod_nonneg 501 h
    have h2 := Int.tmod_lt_of_pos k (show (0 : Int) < 501 by decide)
    omega
  · have h1 := Int.tmod_nonneg 501 (show 0 ≤ -k by omega)
    have h2 := Int.tmod_lt_of_pos (-k) (show (0 : Int) < 501 by decide)
    rw [Int.neg_tmod] at h1 h2
    omega
/-- A place that the loop passes. -/
theorem ok_of {p x : Nat} {q e : Int} (hq : q = (p : Int) - 1023) (hx : x < 18446744073709551616) (fx : x % 9223372036854775808 < 9218868437227405312) (he : FrE x e) (h1 : -1021 ≤ e) (h2 : -1021 ≤ e + q) (h3 : e + q ≤ 1024) : OkE p x := by
  obtain ⟨a1, a2, _, _⟩ := he
  have hn : 4503599627370496 ≤ x % 9223372036854775808 := by
    apply Classical.byContradiction
    intro hc
    have := a2 (by omega)
    omega
  have := a1 hn
  exact ⟨hx, Or.inr ⟨hn, fx, by omega, by omega⟩⟩
set_option maxRecDepth 8000 in
set_option maxHeartbeats 8000000 in
theorem mtwo_walk (rx cx : Int) (sa : Option Addr) (n ka : Nat) (xs : List Nat) (k : Int) (w : World) (hu : U64At w sa n xs) (hn : n ≤ 17592186043904) :
    Calls Try.prog 8 #[.agg #[.int .i64 rx, .int .i64 cx, .slice sa n ka], .int .i64 k] w fun e w' => e = .returned (.bool true) ∧ Below w.heap.size w w' := by
  have HB0 : Hid (Below w.heap.size w (w.alloc (BBox rx cx sa n ka))) := (Below.refl _ _).alloc (Nat.le_refl _) _
  have HX0 : Hid ((w.alloc (BBox rx cx sa n ka)).heap[w.heap.size]? = some (BBox rx cx sa n ka)) := nblkM _ _
  have HOX := hid (fun W (hW : Below w.heap.size w W) => of_any rx cx sa n ka xs W (hu.below hW) hn)
  have HN := hid hn
  have HQB := hid (tmodq k)
  obtain ⟨q, hq⟩ : ∃ q, Hid (k.tmod 501 = q) := ⟨_, rfl⟩
  rw [hq.out] at HQB
  have hq' := hq.out
  have hq1 := HQB.out.1
  have hq2 := HQB.out.2
  obtain ⟨V, hV⟩ : ∃ V, Hid (w.alloc (BBox rx cx sa n ka) = V) := ⟨_, rfl⟩
  rw [hV.out] at HB0 HX0
  have hV' := hV.out
  unfold BBox at hV'
  obtain ⟨p0, hp0⟩ : ∃ t, Hid (w.heap.size = t) := ⟨_, rfl⟩
  rw [hp0.out] at HX0
  have hp0' := hp0.out
  clear hu hn
  go_enter Try.func8, Try.ntmps8
  go_wp2_with fail
  refine (awake8_any _).mono ?_
  rintro e w1 ⟨rfl, hb1⟩
  have HB := hid (HB0.out.trans (hb1.mono HB0.out.size))
  have HXB := hid (blkM HX0.out hb1)
  clear hb1
  obtain ⟨xb0, xb1, xb2⟩ := bcells_of HXB.out
  go_wp2_with fail
  refine (HOX.out _ HB.out).mono ?_
  rintro e u1 ⟨⟨ta, ca, rfl, hfa⟩, hb⟩
  have HB := hid (HB.out.trans (hb.mono HB.out.size))
  have HFA := hid hfa
  unfold MV
  clear hfa
  clear hb
  have hal : Below u1.heap.size u1 (u1.alloc (MBox rx cx ta n ca)) := (Below.refl _ _).alloc (Nat.le_refl _) _
  have HB := hid (HB.out.trans (hal.mono HB.out.size))
  have HFA := hid (HFA.out.below hal)
  have HIA : Hid ((u1.alloc (MBox rx cx ta n ca)).heap[u1.heap.size]? = some (MBox rx cx ta n ca)) := nblkM _ _
  obtain ⟨V1, hV1⟩ : ∃ V, Hid ((u1.alloc (MBox rx cx ta n ca)) = V) := ⟨_, rfl⟩
  rw [hV1.out] at HB HIA HFA
  have hV1' := hV1.out
  unfold MBox at hV1'
  obtain ⟨ia, hia⟩ : ∃ t, Hid (u1.heap.size = t) := ⟨_, rfl⟩
  rw [hia.out] at HIA
  have hia' := hia.out
  clear hal
  have HCA := hid (Check_any rx cx ta n ca xs _ HFA.out HN.out)
  unfold MV at HCA
  by_cases hEa : chkM rx cx n xs = 0
  · rw [hEa] at HCA
    obtain ⟨r, c, hr, hc, hga⟩ := gd_of HFA.out hEa
    subst hr hc
    have hn1 := hga.2.2.1
    subst hn1
    obtain ⟨f, hf⟩ : ∃ f : Nat → Nat, Hid ((fun j => xs.getD j 0) = f) := ⟨_, rfl⟩
    rw [hf.out] at hga
    have HGA := hid hga
    have HM := hid hga.le
    clear hga hEa HFA
    obtain ⟨c00, c01, c02⟩ := mcells_of HIA.out
    go_wp2_with fail
    refine (HCA.out).mono ?_
    rintro e u2 ⟨rfl, hb⟩
    have HB := hid (HB.out.trans (hb.mono HB.out.size))
    have HIA := hid (blkM HIA.out hb)
    have HGA := hid (HGA.out.below hb)
    clear hb
    obtain ⟨c00, c01, c02⟩ := mcells_of HIA.out
    go_wp2_with fail
    obtain ⟨p, hp⟩ : ∃ p : Nat, Hid (q = (p : Int) - 1023) := ⟨(q + 1023).toNat, by show _ = _; omega⟩
    have HPB : Hid (523 ≤ p ∧ p ≤ 1523) := by have := hp.out; show _ ∧ _; omega
    go_loopw [6] (fun iv wr => ∃ i : Nat, i ≤ r * c ∧ iv = .int .i64 i ∧ Hid (Below u2.heap.size u2 wr) ∧ Hid (∀ j, j < i → OkE p (f j))) (fun iv _ => r * c - (intOf iv).toNat)
    case atStart => exact ⟨0, Nat.zero_le _, rfl, Below.refl _ _, fun j hj => absurd hj (Nat.not_lt_zero j)⟩
    case round =>
      obtain ⟨i, hi, rfl, HBR, HOK⟩ := hrel
      obtain ⟨c00, c01, c02⟩ := mcells_of (blkM HIA.out HBR.out)
      have hm := HM.out
      by_cases hlt : i < r * c
      · rcases HGA.out.2.2.2.1 with ⟨_, h2, _⟩ | ⟨b, off, hta, q1, _, _, q4⟩
        · omega
        subst hta
        obtain ⟨fx1, fx2⟩ := gd_fin HGA.out i hlt
        have hck := (HBR.out.cell (p := ⟨b, off + i, none⟩) q1).trans (q4 i hlt).1
        have ho := order_zero (f i) fx1
        have HFR := hid (fun h W => Frexp_any (f i) fx1 fx2 h W)
        have HOF := hid (fun (e : Int) (he : FrE (f i) e) => ok_of hp.out fx1 fx2 he)
        have HZF : Hid (f i % 9223372036854775808 = 0 → OkE p (f i)) := fun h => ⟨fx1, Or.inl h⟩
        have HST : Hid (OkE p (f i) → ∀ j, j < i + 1 → OkE p (f j)) := fun h j hj => by
          by_cases hji : j = i
          · rw [hji]; exact h
          · exact HOK.out j (by omega)
        have HLI := hid hlt
        obtain ⟨x, hx⟩ : ∃ x, Hid (f i = x) := ⟨_, rfl⟩
        rw [hx.out] at hck ho HFR HOF HZF HST
        obtain ⟨N, hN⟩ : ∃ t, Hid (r * c = t) := ⟨_, rfl⟩
        have HBW : Hid (Below w.heap.size w wr) := HB.out.trans (HBR.out.mono HB.out.size)
        have hiI : (i : Int) < ((r * c : Nat) : Int) := by omega
        have hi0 : (0 : Int) ≤ (i : Int) := by omega
        have hle : i + 1 ≤ 145 := by omega
        by_cases h0 : x % 9223372036854775808 = 0
        · rw [decide_eq_true h0] at ho
          have HO1 := hid (HST.out (HZF.out h0))
          clear h0 fx1 fx2 q1 q4 hlt hm
          go_wp2_with fail
          have hl := HLI.out
          refine ⟨⟨i + 1, by omega, by go_num, HBR, HO1.out⟩, ?_⟩
          simp [intOf]; omega
        · rw [decide_eq_false h0] at ho
          have HF1 := hid (HFR.out h0)
          clear h0 fx1 fx2 q1 q4 hlt hm
          go_wp2_with fail
          refine (HF1.out _).mono ?_
          rintro e w3 ⟨⟨v, e0, rfl, he⟩, hw⟩
          subst hw
          have HE := hid he
          have b1 := he.2.2.1
          have b2 := he.2.2.2
          obtain ⟨t, ht⟩ : ∃ t : Int, Hid (e0 + q = t) := ⟨_, rfl⟩
          have ht' := ht.out
          have t1 : -9223372036854775808 ≤ t := by omega
          have t2 : t ≤ 9223372036854775807 := by omega
          clear he b1 b2
          by_cases d1 : e0 < -1021
          · go_wp2_with fail
            go_ret
            exact ⟨rfl, HBW.out⟩
          by_cases d2 : t < -1021
          · go_wp2_with fail
            go_ret
            exact ⟨rfl, HBW.out⟩
          by_cases d3 : 1024 < t
          · go_wp2_with fail
            go_ret
            exact ⟨rfl, HBW.out⟩
          have HO1 := hid (HST.out (HOF.out e0 HE.out (Int.not_lt.1 d1) (by rw [ht.out]; exact Int.not_lt.1 d2) (by rw [ht.out]; exact Int.not_lt.1 d3)))
          go_wp2_with fail
          have hl := HLI.out
          refine ⟨⟨i + 1, by omega, by go_num, HBR, HO1.out⟩, ?_⟩
          simp [intOf]; omega
      · obtain rfl : i = r * c := by omega
        have HIAW := hid (blkM HIA.out HBR.out)
        have HGW := hid (HGA.out.below HBR.out)
        have HBW : Hid (Below w.heap.size w wr) := HB.out.trans (HBR.out.mono HB.out.size)
        have HOKF := hid HOK.out
        have HLD := hid (fun W => Ldexp_pow q p hp.out (by have := HPB.out; omega) W)
        have HSC := hid (fun W (h : Gd W r c ta (r * c) ca f) => Scale_two r c _ p ta ca f W h (by have := HPB.out; omega) HOKF.out)
        obtain ⟨p2, hp2⟩ : ∃ p2 : Nat, Hid (p + p2 = 2046) := ⟨2046 - p, by have := HPB.out; show _ = _; omega⟩
        have HPQ := hid hp2.out
        have HP2 : Hid (1 ≤ p ∧ p ≤ 2045) := by have := HPB.out; show _ ∧ _; omega
        obtain ⟨q2, hq2⟩ : ∃ q2 : Int, Hid (-q = q2) := ⟨_, rfl⟩
        have HLD2 := hid (fun W => Ldexp_pow q2 p2 (by have h1 := hp.out; have h2 := hp2.out; have h3 := hq2.out; omega) (by have h1 := HPB.out; have h2 := hp2.out; omega) W)
        have hng := hq2.out
        have hng2 : IntKind.i64.wrap (-q) = q2 := by rw [hq2.out]; exact IntWalk.i64_in _ (by have := hq2.out; omega)
        have hng3 : IntKind.i64.wrap q2 = q2 := IntWalk.i64_in _ (by have := hq2.out; omega)
        clear hlt hm HM HOK HGA HIA
        obtain ⟨nV, hnV⟩ : ∃ t, Hid (wr.heap.size = t) := ⟨_, rfl⟩
        have HCV : Hid (∀ W, Below nV wr W → Below wr.heap.size wr W) := fun W h => by rw [hnV.out]; exact h
        have HSZ : Hid (∀ W, Below nV wr W → nV ≤ W.heap.size) := fun W h => by rw [← hnV.out]; exact h.size
        have HKT : Hid (∀ W, Hid (Below nV wr W) → (W.cell? ⟨ia, 0, none⟩ = some (.int .i64 r) ∧ W.cell? ⟨ia, 1, none⟩ = some (.int .i64 c) ∧ W.cell? ⟨ia, 2, none⟩ = some (.slice ta (r * c) ca)) ∧ Hid (Below nV wr W)) := fun W hW => by
          obtain ⟨a0, a1, a2⟩ := mcells_of (blkM HIAW.out (HCV.out _ hW.out))
          exact ⟨⟨a0, a1, a2⟩, hW⟩
        have HQ0 : Hid (Below nV wr wr.drew) := (Below.refl _ _).drew
        go_wp2_with fail
        refine region_merge2 (fun a0 a' w' => ∃ (gm : Nat) (om : Nat → Nat) (ib : Nat), a' = Act.put (Act.put (Act.put (Act.put (Act.put (Act.put (Act.put (Act.put (Act.put (a0) (some 59) (.agg #[.int .i64 r, .int .i64 c, .slice ta (r * c) ca])) (some 60) (.int .i64 q)) (some 61) (.float .f64 (twoW p))) (some 62) (.tuple #[.agg #[.int .i64 r, .int .i64 c, .slice (some ⟨gm, 0, none⟩) (r * c) (r * c)], .int .i64 0])) (some 58) (.tuple #[.agg #[.int .i64 r, .int .i64 c, .slice (some ⟨gm, 0, none⟩) (r * c) (r * c)], .int .i64 0])) (some 63) (.agg #[.int .i64 r, .int .i64 c, .slice (some ⟨gm, 0, none⟩) (r * c) (r * c)])) (some 64) (.int .i64 0)) (some 9) (.pointer (some ⟨ib, 0, none⟩))) (some 10) (.int .i64 0) ∧ w'.heap[ib]? = some (MBox r c (some ⟨gm, 0, none⟩) (r * c) (r * c)) ∧ Gd w' r c (some ⟨gm, 0, none⟩) (r * c) (r * c) om ∧ (∀ k, k < r * c → om k = shE p (f k)) ∧ Below nV wr w') (fun HR => ?_) ?_
        · simp only [Act.put, List.setIfInBounds_toArray, List.set_cons_zero, List.set_cons_succ] at HR
          refine wp_region_held_drew (S := fun W => (W.cell? ⟨ia, 0, none⟩ = some (.int .i64 r) ∧ W.cell? ⟨ia, 1, none⟩ = some (.int .i64 c) ∧ W.cell? ⟨ia, 2, none⟩ = some (.slice ta (r * c) ca)) ∧ Hid (Below nV wr W)) (by kernel_rfl) (HKT.out _ HQ0) (fun hHeld => ?_)
          refine take_at 0 59 (.agg #[.int .i64 r, .int .i64 c, .slice ta (r * c) ca]) rfl rfl (by kernel_rfl) (by kernel_rfl) (by kernel_rfl) (fun _ _ _ h => h) (Or.inl ⟨by rfl, fun w hSw => by (try dsimp only at hSw); go_simp⟩) (by assumption) ?_
          simp only [Act.put, List.setIfInBounds_toArray, List.set_cons_zero, List.set_cons_succ]
          refine take_at 1 60 (.int .i64 q) rfl rfl (by kernel_rfl) (by kernel_rfl) (by kernel_rfl) (fun _ _ _ h => h) (Or.inl ⟨by rfl, fun w hSw => by (try dsimp only at hSw); go_simp⟩) (by assumption) ?_
          simp only [Act.put, List.setIfInBounds_toArray, List.set_cons_zero, List.set_cons_succ]
          refine wpAnyH_ready (rs := [2, 7]) (by kernel_rfl) (by simp) ?_
          refine AllReadyH.cons (o := _) rfl (fun K hK => ?_) (AllReadyH.cons (o := _) rfl (fun K hK => ?_) AllReadyH.nil)
          · go_simp
            refine (HLD.out _).mono ?_
            rintro e tw ⟨rfl, hw⟩
            subst hw
            go_wp2_with fail
            refine hK.out _ _ (HKT.out _ HQ0) (fun hHeldL => ?_)
            clear hK K
            try simp only [Act.put, List.setIfInBounds_toArray, List.set_cons_zero, List.set_cons_succ]
            refine wpAnyH_ready (rs := [3, 7]) (by kernel_rfl) (by simp) ?_
            refine AllReadyH.cons (o := _) rfl (fun K hK => ?_) (AllReadyH.cons (o := _) rfl (fun K hK => ?_) AllReadyH.nil)
            · go_simp
              refine (HSC.out _ (HGW.out.below (HCV.out _ HQ0.out))).mono ?_
              rintro e t1 ⟨⟨gm, om, rfl, hgm, hvm⟩, hbq⟩
              have HGM := hid hgm
              have HVM := hid hvm
              have HQ1 : Hid (Below nV wr t1) := HQ0.out.trans (hbq.mono (HSZ.out _ HQ0.out))
              clear hgm hvm hbq
              go_wp2_with fail
              refine hK.out _ _ (HKT.out _ HQ1) (fun hHeld1 => ?_)
              clear hK K
              try simp only [Act.put, List.setIfInBounds_toArray, List.set_cons_zero, List.set_cons_succ]
              refine take_at 4 58 (.tuple #[.agg #[.int .i64 r, .int .i64 c, .slice (some ⟨gm, 0, none⟩) (r * c) (r * c)], .int .i64 0]) rfl rfl (by kernel_rfl) (by kernel_rfl) (by kernel_rfl) (fun _ _ _ h => h) (Or.inl ⟨by rfl, fun w hSw => by (try dsimp only at hSw); go_simp⟩) (by assumption) ?_
              simp only [Act.put, List.setIfInBounds_toArray, List.set_cons_zero, List.set_cons_succ]
              refine take_at 5 63 (.agg #[.int .i64 r, .int .i64 c, .slice (some ⟨gm, 0, none⟩) (r * c) (r * c)]) rfl rfl (by kernel_rfl) (by kernel_rfl) (by kernel_rfl) (fun _ _ _ h => h) (Or.inl ⟨by rfl, fun w hSw => by (try dsimp only at hSw); go_simp⟩) (by assumption) ?_
              simp only [Act.put, List.setIfInBounds_toArray, List.set_cons_zero, List.set_cons_succ]
              refine take_at 6 64 (.int .i64 0) rfl rfl (by kernel_rfl) (by kernel_rfl) (by kernel_rfl) (fun _ _ _ h => h) (Or.inl ⟨by rfl, fun w hSw => by (try dsimp only at hSw); go_simp⟩) (by assumption) ?_
              simp only [Act.put, List.setIfInBounds_toArray, List.set_cons_zero, List.set_cons_succ]
              refine wpAnyH_ready (rs := [7]) (by kernel_rfl) (by simp) ?_
              refine AllReadyH.cons (o := _) rfl (fun K hK => ?_) AllReadyH.nil
              have hbq : Below t1.heap.size t1 (t1.alloc (MBox 0 0 none 0 0)) := (Below.refl _ _).alloc (Nat.le_refl _) _
              have HIB : Hid ((t1.alloc (MBox 0 0 none 0 0)).heap[t1.heap.size]? = some (MBox 0 0 none 0 0)) := nblkM _ _
              have HLE : Hid (nV ≤ t1.heap.size) := HSZ.out _ HQ1.out
              have HQ2 : Hid (Below nV wr (t1.alloc (MBox 0 0 none 0 0))) := HQ1.out.trans (hbq.mono (HSZ.out _ HQ1.out))
              have HGM := hid (HGM.out.below hbq)
              clear hbq
              go_simp
              go_wp2_with fail
              refine hK.out _ _ (HKT.out _ HQ2) (fun hHeld2 => ?_)
              clear hK K
              try simp only [Act.put, List.setIfInBounds_toArray, List.set_cons_zero, List.set_cons_succ]
              obtain ⟨t2, ht2⟩ : ∃ X, Hid ((t1.alloc (MBox 0 0 none 0 0)) = X) := ⟨_, rfl⟩
              rw [ht2.out] at HIB HQ2 HGM
              have hy1 := ht2.out
              unfold MBox at hy1
              rw [hy1]
              obtain ⟨ib, hib⟩ : ∃ X, Hid (t1.heap.size = X) := ⟨_, rfl⟩
              have hy2 := hib.out
              rw [hib.out] at HIB HLE
              rw [hy2]
              clear hy1 hy2
              have hHx := HKT.out _ HQ2
              obtain ⟨z0, z1, z2⟩ := mcells_of HIB.out
              have fz := frzM HIB.out
              have HQE : Hid (Below nV wr (StoM t2 ib r c (some ⟨gm, 0, none⟩) (r * c) (r * c))) := StoM.belowN HQ2.out HLE.out
              have HIB2 : Hid ((StoM t2 ib r c (some ⟨gm, 0, none⟩) (r * c) (r * c)).heap[ib]? = some (MBox r c (some ⟨gm, 0, none⟩) (r * c) (r * c))) := mset HIB.out
              have HGM2 := hid (gd_sto (b := ib) (r1 := r) (c1 := c) (s1 := some ⟨gm, 0, none⟩) (n1 := r * c) (k1 := r * c) HGM.out HIB.out)
              have HQE' := HQE
              unfold StoM at HQE'
              refine wpAnyH_ready (rs := [8]) (by kernel_rfl) (by simp) ?_
              refine AllReadyH.cons (o := _) rfl (fun K hK => ?_) AllReadyH.nil
              go_simp
              go_wp2_with fail
              refine hK.out _ _ (HKT.out _ HQE') (fun hHeldE => ?_)
              clear hK K
              try simp only [Act.put, List.setIfInBounds_toArray, List.set_cons_zero, List.set_cons_succ]
              refine take_at 9 10 (.int .i64 0) rfl rfl (by kernel_rfl) (by kernel_rfl) (by kernel_rfl) (fun _ _ _ h => h) (Or.inl ⟨by rfl, fun w hSw => by (try dsimp only at hSw); go_simp⟩) (by assumption) ?_
              simp only [Act.put, List.setIfInBounds_toArray, List.set_cons_zero, List.set_cons_succ]
              refine wpAnyH_done (by kernel_rfl) ?_ _
              exact HR.out _ _ ⟨gm, om, ib, rfl, HIB2.out, HGM2.out, HVM.out, HQE.out⟩
            · have hbq : Below wr.drew.heap.size wr.drew (wr.drew.alloc (MBox 0 0 none 0 0)) := (Below.refl _ _).alloc (Nat.le_refl _) _
              have HIB : Hid ((wr.drew.alloc (MBox 0 0 none 0 0)).heap[wr.drew.heap.size]? = some (MBox 0 0 none 0 0)) := nblkM _ _
              have HLE : Hid (nV ≤ wr.drew.heap.size) := HSZ.out _ HQ0.out
              have HQ1 : Hid (Below nV wr (wr.drew.alloc (MBox 0 0 none 0 0))) := HQ0.out.trans (hbq.mono (HSZ.out _ HQ0.out))
              clear hbq
              go_simp
              go_wp2_with fail
              refine hK.out _ _ (HKT.out _ HQ1) (fun hHeld1 => ?_)
              clear hK K
              try simp only [Act.put, List.setIfInBounds_toArray, List.set_cons_zero, List.set_cons_succ]
              obtain ⟨t1, ht1⟩ : ∃ X, Hid ((wr.drew.alloc (MBox 0 0 none 0 0)) = X) := ⟨_, rfl⟩
              rw [ht1.out] at HIB HQ1
              have hy1 : (wr.alloc (.cells #[.int .i64 0, .int .i64 0, .slice none 0 0] 28)).drew = t1 := ht1.out
              rw [hy1]
              obtain ⟨ib, hib⟩ : ∃ X, Hid (wr.drew.heap.size = X) := ⟨_, rfl⟩
              have hy2 : wr.heap.size = ib := hib.out
              rw [hib.out] at HIB HLE
              rw [hy2]
              clear hy1 hy2
              refine wpAnyH_ready (rs := [3]) (by kernel_rfl) (by simp) ?_
              refine AllReadyH.cons (o := _) rfl (fun K hK => ?_) AllReadyH.nil
              go_simp
              refine (HSC.out _ (HGW.out.below (HCV.out _ HQ1.out))).mono ?_
              rintro e t2 ⟨⟨gm, om, rfl, hgm, hvm⟩, hbq⟩
              have HGM := hid hgm
              have HVM := hid hvm
              have HQ2 : Hid (Below nV wr t2) := HQ1.out.trans (hbq.mono (HSZ.out _ HQ1.out))
              have HIB := hid (blkM HIB.out hbq)
              clear hgm hvm hbq
              go_wp2_with fail
              refine hK.out _ _ (HKT.out _ HQ2) (fun hHeld2 => ?_)
              clear hK K
              try simp only [Act.put, List.setIfInBounds_toArray, List.set_cons_zero, List.set_cons_succ]
              refine take_at 4 58 (.tuple #[.agg #[.int .i64 r, .int .i64 c, .slice (some ⟨gm, 0, none⟩) (r * c) (r * c)], .int .i64 0]) rfl rfl (by kernel_rfl) (by kernel_rfl) (by kernel_rfl) (fun _ _ _ h => h) (Or.inl ⟨by rfl, fun w hSw => by (try dsimp only at hSw); go_simp⟩) (by assumption) ?_
              simp only [Act.put, List.setIfInBounds_toArray, List.set_cons_zero, List.set_cons_succ]
              refine take_at 5 63 (.agg #[.int .i64 r, .int .i64 c, .slice (some ⟨gm, 0, none⟩) (r * c) (r * c)]) rfl rfl (by kernel_rfl) (by kernel_rfl) (by kernel_rfl) (fun _ _ _ h => h) (Or.inl ⟨by rfl, fun w hSw => by (try dsimp only at hSw); go_simp⟩) (by assumption) ?_
              simp only [Act.put, List.setIfInBounds_toArray, List.set_cons_zero, List.set_cons_succ]
              refine take_at 6 64 (.int .i64 0) rfl rfl (by kernel_rfl) (by kernel_rfl) (by kernel_rfl) (fun _ _ _ h => h) (Or.inl ⟨by rfl, fun w hSw => by (try dsimp only at hSw); go_simp⟩) (by assumption) ?_
              simp only [Act.put, List.setIfInBounds_toArray, List.set_cons_zero, List.set_cons_succ]
              have hHx := HKT.out _ HQ2
              obtain ⟨z0, z1, z2⟩ := mcells_of HIB.out
              have fz := frzM HIB.out
              have HQE : Hid (Below nV wr (StoM t2 ib r c (some ⟨gm, 0, none⟩) (r * c) (r * c))) := StoM.belowN HQ2.out HLE.out
              have HIB2 : Hid ((StoM t2 ib r c (some ⟨gm, 0, none⟩) (r * c) (r * c)).heap[ib]? = some (MBox r c (some ⟨gm, 0, none⟩) (r * c) (r * c))) := mset HIB.out
              have HGM2 := hid (gd_sto (b := ib) (r1 := r) (c1 := c) (s1 := some ⟨gm, 0, none⟩) (n1 := r * c) (k1 := r * c) HGM.out HIB.out)
              have HQE' := HQE
              unfold StoM at HQE'
              refine wpAnyH_ready (rs := [8]) (by kernel_rfl) (by simp) ?_
              refine AllReadyH.cons (o := _) rfl (fun K hK => ?_) AllReadyH.nil
              go_simp
              go_wp2_with fail
              refine hK.out _ _ (HKT.out _ HQE') (fun hHeldE => ?_)
              clear hK K
              try simp only [Act.put, List.setIfInBounds_toArray, List.set_cons_zero, List.set_cons_succ]
              refine take_at 9 10 (.int .i64 0) rfl rfl (by kernel_rfl) (by kernel_rfl) (by kernel_rfl) (fun _ _ _ h => h) (Or.inl ⟨by rfl, fun w hSw => by (try dsimp only at hSw); go_simp⟩) (by assumption) ?_
              simp only [Act.put, List.setIfInBounds_toArray, List.set_cons_zero, List.set_cons_succ]
              refine wpAnyH_done (by kernel_rfl) ?_ _
              exact HR.out _ _ ⟨gm, om, ib, rfl, HIB2.out, HGM2.out, HVM.out, HQE.out⟩
          · have hbq : Below wr.drew.heap.size wr.drew (wr.drew.alloc (MBox 0 0 none 0 0)) := (Below.refl _ _).alloc (Nat.le_refl _) _
            have HIB : Hid ((wr.drew.alloc (MBox 0 0 none 0 0)).heap[wr.drew.heap.size]? = some (MBox 0 0 none 0 0)) := nblkM _ _
            have HLE : Hid (nV ≤ wr.drew.heap.size) := HSZ.out _ HQ0.out
            have HQ1 : Hid (Below nV wr (wr.drew.alloc (MBox 0 0 none 0 0))) := HQ0.out.trans (hbq.mono (HSZ.out _ HQ0.out))
            clear hbq
            go_simp
            go_wp2_with fail
            refine hK.out _ _ (HKT.out _ HQ1) (fun hHeld1 => ?_)
            clear hK K
            try simp only [Act.put, List.setIfInBounds_toArray, List.set_cons_zero, List.set_cons_succ]
            obtain ⟨t1, ht1⟩ : ∃ X, Hid ((wr.drew.alloc (MBox 0 0 none 0 0)) = X) := ⟨_, rfl⟩
            rw [ht1.out] at HIB HQ1
            have hy1 : (wr.alloc (.cells #[.int .i64 0, .int .i64 0, .slice none 0 0] 28)).drew = t1 := ht1.out
            rw [hy1]
            obtain ⟨ib, hib⟩ : ∃ X, Hid (wr.drew.heap.size = X) := ⟨_, rfl⟩
            have hy2 : wr.heap.size = ib := hib.out
            rw [hib.out] at HIB HLE
            rw [hy2]
            clear hy1 hy2
            refine wpAnyH_ready (rs := [2]) (by kernel_rfl) (by simp) ?_
            refine AllReadyH.cons (o := _) rfl (fun K hK => ?_) AllReadyH.nil
            go_simp
            refine (HLD.out _).mono ?_
            rintro e tw ⟨rfl, hw⟩
            subst hw
            go_wp2_with fail
            refine hK.out _ _ (HKT.out _ HQ1) (fun hHeldL => ?_)
            clear hK K
            try simp only [Act.put, List.setIfInBounds_toArray, List.set_cons_zero, List.set_cons_succ]
            refine wpAnyH_ready (rs := [3]) (by kernel_rfl) (by simp) ?_
            refine AllReadyH.cons (o := _) rfl (fun K hK => ?_) AllReadyH.nil
            go_simp
            refine (HSC.out _ (HGW.out.below (HCV.out _ HQ1.out))).mono ?_
            rintro e t2 ⟨⟨gm, om, rfl, hgm, hvm⟩, hbq⟩
            have HGM := hid hgm
            have HVM := hid hvm
            have HQ2 : Hid (Below nV wr t2) := HQ1.out.trans (hbq.mono (HSZ.out _ HQ1.out))
            have HIB := hid (blkM HIB.out hbq)
            clear hgm hvm hbq
            go_wp2_with fail
            refine hK.out _ _ (HKT.out _ HQ2) (fun hHeld2 => ?_)
            clear hK K
            try simp only [Act.put, List.setIfInBounds_toArray, List.set_cons_zero, List.set_cons_succ]
            refine take_at 4 58 (.tuple #[.agg #[.int .i64 r, .int .i64 c, .slice (some ⟨gm, 0, none⟩) (r * c) (r * c)], .int .i64 0]) rfl rfl (by kernel_rfl) (by kernel_rfl) (by kernel_rfl) (fun _ _ _ h => h) (Or.inl ⟨by rfl, fun w hSw => by (try dsimp only at hSw); go_simp⟩) (by assumption) ?_
            simp only [Act.put, List.setIfInBounds_toArray, List.set_cons_zero, List.set_cons_succ]
            refine take_at 5 63 (.agg #[.int .i64 r, .int .i64 c, .slice (some ⟨gm, 0, none⟩) (r * c) (r * c)]) rfl rfl (by kernel_rfl) (by kernel_rfl) (by kernel_rfl) (fun _ _ _ h => h) (Or.inl ⟨by rfl, fun w hSw => by (try dsimp only at hSw); go_simp⟩) (by assumption) ?_
            simp only [Act.put, List.setIfInBounds_toArray, List.set_cons_zero, List.set_cons_succ]
            refine take_at 6 64 (.int .i64 0) rfl rfl (by kernel_rfl) (by kernel_rfl) (by kernel_rfl) (fun _ _ _ h => h) (Or.inl ⟨by rfl, fun w hSw => by (try dsimp only at hSw); go_simp⟩) (by assumption) ?_
            simp only [Act.put, List.setIfInBounds_toArray, List.set_cons_zero, List.set_cons_succ]
            have hHx := HKT.out _ HQ2
            obtain ⟨z0, z1, z2⟩ := mcells_of HIB.out
            have fz := frzM HIB.out
            have HQE : Hid (Below nV wr (StoM t2 ib r c (some ⟨gm, 0, none⟩) (r * c) (r * c))) := StoM.belowN HQ2.out HLE.out
            have HIB2 : Hid ((StoM t2 ib r c (some ⟨gm, 0, none⟩) (r * c) (r * c)).heap[ib]? = some (MBox r c (some ⟨gm, 0, none⟩) (r * c) (r * c))) := mset HIB.out
            have HGM2 := hid (gd_sto (b := ib) (r1 := r) (c1 := c) (s1 := some ⟨gm, 0, none⟩) (n1 := r * c) (k1 := r * c) HGM.out HIB.out)
            have HQE' := HQE
            unfold StoM at HQE'
            refine wpAnyH_ready (rs := [8]) (by kernel_rfl) (by simp) ?_
            refine AllReadyH.cons (o := _) rfl (fun K hK => ?_) AllReadyH.nil
            go_simp
            go_wp2_with fail
            refine hK.out _ _ (HKT.out _ HQE') (fun hHeldE => ?_)
            clear hK K
            try simp only [Act.put, List.setIfInBounds_toArray, List.set_cons_zero, List.set_cons_succ]
            refine take_at 9 10 (.int .i64 0) rfl rfl (by kernel_rfl) (by kernel_rfl) (by kernel_rfl) (fun _ _ _ h => h) (Or.inl ⟨by rfl, fun w hSw => by (try dsimp only at hSw); go_simp⟩) (by assumption) ?_
            simp only [Act.put, List.setIfInBounds_toArray, List.set_cons_zero, List.set_cons_succ]
            refine wpAnyH_done (by kernel_rfl) ?_ _
            exact HR.out _ _ ⟨gm, om, ib, rfl, HIB2.out, HGM2.out, HVM.out, HQE.out⟩
        · rintro a' w2 ⟨gm, om, im, rfl, him, hgm, hvm, hb2⟩
          have hb2 := HCV.out _ hb2
          simp only [Act.put, List.setIfInBounds_toArray, List.set_cons_zero, List.set_cons_succ]
          have HIM := hid him
          have HGM := hid hgm
          have HVM := hid hvm
          have HB := hid (HBW.out.trans (hb2.mono HBW.out.size))
          have HIAW := hid (blkM HIAW.out hb2)
          have HGW := hid (HGW.out.below hb2)
          have HSC2 := hid (fun W (h : Gd W r c (some ⟨gm, 0, none⟩) (r * c) (r * c) om) => Scale_back r c _ p p2 _ _ om f W h HPQ.out HP2.out HOKF.out HVM.out)
          clear him hgm hvm hb2 HKT HQ0 HSC HLD HCV HSZ hnV
          obtain ⟨nV, hnV⟩ : ∃ t, Hid (w2.heap.size = t) := ⟨_, rfl⟩
          have HCV : Hid (∀ W, Below nV w2 W → Below w2.heap.size w2 W) := fun W h => by rw [hnV.out]; exact h
          have HSZ : Hid (∀ W, Below nV w2 W → nV ≤ W.heap.size) := fun W h => by rw [← hnV.out]; exact h.size
          have HKT : Hid (∀ W, Hid (Below nV w2 W) → (W.cell? ⟨im, 0, none⟩ = some (.int .i64 r) ∧ W.cell? ⟨im, 1, none⟩ = some (.int .i64 c) ∧ W.cell? ⟨im, 2, none⟩ = some (.slice (some ⟨gm, 0, none⟩) (r * c) (r * c))) ∧ Hid (Below nV w2 W)) := fun W hW => by
            obtain ⟨a0, a1, a2⟩ := mcells_of (blkM HIM.out (HCV.out _ hW.out))
            exact ⟨⟨a0, a1, a2⟩, hW⟩
          have HQ0 : Hid (Below nV w2 w2.drew) := (Below.refl _ _).drew
          go_wp2_with fail
          refine region_merge2 (fun a0 a' w' => ∃ (gn : Nat) (on : Nat → Nat) (ib : Nat), a' = Act.put (Act.put (Act.put (Act.put (Act.put (Act.put (Act.put (Act.put (Act.put (Act.put (a0) (some 66) (.agg #[.int .i64 r, .int .i64 c, .slice (some ⟨gm, 0, none⟩) (r * c) (r * c)])) (some 67) (.int .i64 q)) (some 68) (.int .i64 q2)) (some 69) (.float .f64 (twoW p2))) (some 70) (.tuple #[.agg #[.int .i64 r, .int .i64 c, .slice (some ⟨gn, 0, none⟩) (r * c) (r * c)], .int .i64 0])) (some 65) (.tuple #[.agg #[.int .i64 r, .int .i64 c, .slice (some ⟨gn, 0, none⟩) (r * c) (r * c)], .int .i64 0])) (some 71) (.agg #[.int .i64 r, .int .i64 c, .slice (some ⟨gn, 0, none⟩) (r * c) (r * c)])) (some 72) (.int .i64 0)) (some 11) (.pointer (some ⟨ib, 0, none⟩))) (some 12) (.int .i64 0) ∧ w'.heap[ib]? = some (MBox r c (some ⟨gn, 0, none⟩) (r * c) (r * c)) ∧ Gd w' r c (some ⟨gn, 0, none⟩) (r * c) (r * c) on ∧ (∀ k, k < r * c → on k = f k) ∧ Below nV w2 w') (fun HR => ?_) ?_
          · simp only [Act.put, List.setIfInBounds_toArray, List.set_cons_zero, List.set_cons_succ] at HR
            refine wp_region_held_drew (S := fun W => (W.cell? ⟨im, 0, none⟩ = some (.int .i64 r) ∧ W.cell? ⟨im, 1, none⟩ = some (.int .i64 c) ∧ W.cell? ⟨im, 2, none⟩ = some (.slice (some ⟨gm, 0, none⟩) (r * c) (r * c))) ∧ Hid (Below nV w2 W)) (by kernel_rfl) (HKT.out _ HQ0) (fun hHeld => ?_)
            refine take_at 0 66 (.agg #[.int .i64 r, .int .i64 c, .slice (some ⟨gm, 0, none⟩) (r * c) (r * c)]) rfl rfl (by kernel_rfl) (by kernel_rfl) (by kernel_rfl) (fun _ _ _ h => h) (Or.inl ⟨by rfl, fun w hSw => by (try dsimp only at hSw); go_simp⟩) (by assumption) ?_
            simp only [Act.put, List.setIfInBounds_toArray, List.set_cons_zero, List.set_cons_succ]
            refine take_at 1 67 (.int .i64 q) rfl rfl (by kernel_rfl) (by kernel_rfl) (by kernel_rfl) (fun _ _ _ h => h) (Or.inl ⟨by rfl, fun w hSw => by (try dsimp only at hSw); go_simp⟩) (by assumption) ?_
            simp only [Act.put, List.setIfInBounds_toArray, List.set_cons_zero, List.set_cons_succ]
            refine take_at 2 68 (.int .i64 q2) rfl rfl (by kernel_rfl) (by kernel_rfl) (by kernel_rfl) (fun _ _ _ h => h) (Or.inl ⟨by rfl, fun w hSw => by (try dsimp only at hSw); go_simp⟩) (by assumption) ?_
            simp only [Act.put, List.setIfInBounds_toArray, List.set_cons_zero, List.set_cons_succ]
            refine wpAnyH_ready (rs := [3, 8]) (by kernel_rfl) (by simp) ?_
            refine AllReadyH.cons (o := _) rfl (fun K hK => ?_) (AllReadyH.cons (o := _) rfl (fun K hK => ?_) AllReadyH.nil)
            · go_simp
              refine (HLD2.out _).mono ?_
              rintro e tw ⟨rfl, hw⟩
              subst hw
              go_wp2_with fail
              refine hK.out _ _ (HKT.out _ HQ0) (fun hHeldL => ?_)
              clear hK K
              try simp only [Act.put, List.setIfInBounds_toArray, List.set_cons_zero, List.set_cons_succ]
              refine wpAnyH_ready (rs := [4, 8]) (by kernel_rfl) (by simp) ?_
              refine AllReadyH.cons (o := _) rfl (fun K hK => ?_) (AllReadyH.cons (o := _) rfl (fun K hK => ?_) AllReadyH.nil)
              · go_simp
                refine (HSC2.out _ (HGM.out.below (HCV.out _ HQ0.out))).mono ?_
                rintro e t1 ⟨⟨gn, on, rfl, hgm, hvm⟩, hbq⟩
                have HGM := hid hgm
                have HVM := hid hvm
                have HQ1 : Hid (Below nV w2 t1) := HQ0.out.trans (hbq.mono (HSZ.out _ HQ0.out))
                clear hgm hvm hbq
                go_wp2_with fail
                refine hK.out _ _ (HKT.out _ HQ1) (fun hHeld1 => ?_)
                clear hK K
                try simp only [Act.put, List.setIfInBounds_toArray, List.set_cons_zero, List.set_cons_succ]
                refine take_at 5 65 (.tuple #[.agg #[.int .i64 r, .int .i64 c, .slice (some ⟨gn, 0, none⟩) (r * c) (r * c)], .int .i64 0]) rfl rfl (by kernel_rfl) (by kernel_rfl) (by kernel_rfl) (fun _ _ _ h => h) (Or.inl ⟨by rfl, fun w hSw => by (try dsimp only at hSw); go_simp⟩) (by assumption) ?_
                simp only [Act.put, List.setIfInBounds_toArray, List.set_cons_zero, List.set_cons_succ]
                refine take_at 6 71 (.agg #[.int .i64 r, .int .i64 c, .slice (some ⟨gn, 0, none⟩) (r * c) (r * c)]) rfl rfl (by kernel_rfl) (by kernel_rfl) (by kernel_rfl) (fun _ _ _ h => h) (Or.inl ⟨by rfl, fun w hSw => by (try dsimp only at hSw); go_simp⟩) (by assumption) ?_
                simp only [Act.put, List.setIfInBounds_toArray, List.set_cons_zero, List.set_cons_succ]
                refine take_at 7 72 (.int .i64 0) rfl rfl (by kernel_rfl) (by kernel_rfl) (by kernel_rfl) (fun _ _ _ h => h) (Or.inl ⟨by rfl, fun w hSw => by (try dsimp only at hSw); go_simp⟩) (by assumption) ?_
                simp only [Act.put, List.setIfInBounds_toArray, List.set_cons_zero, List.set_cons_succ]
                refine wpAnyH_ready (rs := [8]) (by kernel_rfl) (by simp) ?_
                refine AllReadyH.cons (o := _) rfl (fun K hK => ?_) AllReadyH.nil
                have hbq : Below t1.heap.size t1 (t1.alloc (MBox 0 0 none 0 0)) := (Below.refl _ _).alloc (Nat.le_refl _) _
                have HIB : Hid ((t1.alloc (MBox 0 0 none 0 0)).heap[t1.heap.size]? = some (MBox 0 0 none 0 0)) := nblkM _ _
                have HLE : Hid (nV ≤ t1.heap.size) := HSZ.out _ HQ1.out
                have HQ2 : Hid (Below nV w2 (t1.alloc (MBox 0 0 none 0 0))) := HQ1.out.trans (hbq.mono (HSZ.out _ HQ1.out))
                have HGM := hid (HGM.out.below hbq)
                clear hbq
                go_simp
                go_wp2_with fail
                refine hK.out _ _ (HKT.out _ HQ2) (fun hHeld2 => ?_)
                clear hK K
                try simp only [Act.put, List.setIfInBounds_toArray, List.set_cons_zero, List.set_cons_succ]
                obtain ⟨t2, ht2⟩ : ∃ X, Hid ((t1.alloc (MBox 0 0 none 0 0)) = X) := ⟨_, rfl⟩
                rw [ht2.out] at HIB HQ2 HGM
                have hy1 := ht2.out
                unfold MBox at hy1
                rw [hy1]
                obtain ⟨ib, hib⟩ : ∃ X, Hid (t1.heap.size = X) := ⟨_, rfl⟩
                have hy2 := hib.out
                rw [hib.out] at HIB HLE
                rw [hy2]
                clear hy1 hy2
                have hHx := HKT.out _ HQ2
                obtain ⟨z0, z1, z2⟩ := mcells_of HIB.out
                have fz := frzM HIB.out
                have HQE : Hid (Below nV w2 (StoM t2 ib r c (some ⟨gn, 0, none⟩) (r * c) (r * c))) := StoM.belowN HQ2.out HLE.out
                have HIB2 : Hid ((StoM t2 ib r c (some ⟨gn, 0, none⟩) (r * c) (r * c)).heap[ib]? = some (MBox r c (some ⟨gn, 0, none⟩) (r * c) (r * c))) := mset HIB.out
                have HGM2 := hid (gd_sto (b := ib) (r1 := r) (c1 := c) (s1 := some ⟨gn, 0, none⟩) (n1 := r * c) (k1 := r * c) HGM.out HIB.out)
                have HQE' := HQE
                unfold StoM at HQE'
                refine wpAnyH_ready (rs := [9]) (by kernel_rfl) (by simp) ?_
                refine AllReadyH.cons (o := _) rfl (fun K hK => ?_) AllReadyH.nil
                go_simp
                go_wp2_with fail
                refine hK.out _ _ (HKT.out _ HQE') (fun hHeldE => ?_)
                clear hK K
                try simp only [Act.put, List.setIfInBounds_toArray, List.set_cons_zero, List.set_cons_succ]
                refine take_at 10 12 (.int .i64 0) rfl rfl (by kernel_rfl) (by kernel_rfl) (by kernel_rfl) (fun _ _ _ h => h) (Or.inl ⟨by rfl, fun w hSw => by (try dsimp only at hSw); go_simp⟩) (by assumption) ?_
                simp only [Act.put, List.setIfInBounds_toArray, List.set_cons_zero, List.set_cons_succ]
                refine wpAnyH_done (by kernel_rfl) ?_ _
                exact HR.out _ _ ⟨gn, on, ib, rfl, HIB2.out, HGM2.out, HVM.out, HQE.out⟩
              · have hbq : Below w2.drew.heap.size w2.drew (w2.drew.alloc (MBox 0 0 none 0 0)) := (Below.refl _ _).alloc (Nat.le_refl _) _
                have HIB : Hid ((w2.drew.alloc (MBox 0 0 none 0 0)).heap[w2.drew.heap.size]? = some (MBox 0 0 none 0 0)) := nblkM _ _
                have HLE : Hid (nV ≤ w2.drew.heap.size) := HSZ.out _ HQ0.out
                have HQ1 : Hid (Below nV w2 (w2.drew.alloc (MBox 0 0 none 0 0))) := HQ0.out.trans (hbq.mono (HSZ.out _ HQ0.out))
                clear hbq
                go_simp
                go_wp2_with fail
                refine hK.out _ _ (HKT.out _ HQ1) (fun hHeld1 => ?_)
                clear hK K
                try simp only [Act.put, List.setIfInBounds_toArray, List.set_cons_zero, List.set_cons_succ]
                obtain ⟨t1, ht1⟩ : ∃ X, Hid ((w2.drew.alloc (MBox 0 0 none 0 0)) = X) := ⟨_, rfl⟩
                rw [ht1.out] at HIB HQ1
                have hy1 : (w2.alloc (.cells #[.int .i64 0, .int .i64 0, .slice none 0 0] 28)).drew = t1 := ht1.out
                rw [hy1]
                obtain ⟨ib, hib⟩ : ∃ X, Hid (w2.drew.heap.size = X) := ⟨_, rfl⟩
                have hy2 : w2.heap.size = ib := hib.out
                rw [hib.out] at HIB HLE
                rw [hy2]
                clear hy1 hy2
                refine wpAnyH_ready (rs := [4]) (by kernel_rfl) (by simp) ?_
                refine AllReadyH.cons (o := _) rfl (fun K hK => ?_) AllReadyH.nil
                go_simp
                refine (HSC2.out _ (HGM.out.below (HCV.out _ HQ1.out))).mono ?_
                rintro e t2 ⟨⟨gn, on, rfl, hgm, hvm⟩, hbq⟩
                have HGM := hid hgm
                have HVM := hid hvm
                have HQ2 : Hid (Below nV w2 t2) := HQ1.out.trans (hbq.mono (HSZ.out _ HQ1.out))
                have HIB := hid (blkM HIB.out hbq)
                clear hgm hvm hbq
                go_wp2_with fail
                refine hK.out _ _ (HKT.out _ HQ2) (fun hHeld2 => ?_)
                clear hK K
                try simp only [Act.put, List.setIfInBounds_toArray, List.set_cons_zero, List.set_cons_succ]
                refine take_at 5 65 (.tuple #[.agg #[.int .i64 r, .int .i64 c, .slice (some ⟨gn, 0, none⟩) (r * c) (r * c)], .int .i64 0]) rfl rfl (by kernel_rfl) (by kernel_rfl) (by kernel_rfl) (fun _ _ _ h => h) (Or.inl ⟨by rfl, fun w hSw => by (try dsimp only at hSw); go_simp⟩) (by assumption) ?_
                simp only [Act.put, List.setIfInBounds_toArray, List.set_cons_zero, List.set_cons_succ]
                refine take_at 6 71 (.agg #[.int .i64 r, .int .i64 c, .slice (some ⟨gn, 0, none⟩) (r * c) (r * c)]) rfl rfl (by kernel_rfl) (by kernel_rfl) (by kernel_rfl) (fun _ _ _ h => h) (Or.inl ⟨by rfl, fun w hSw => by (try dsimp only at hSw); go_simp⟩) (by assumption) ?_
                simp only [Act.put, List.setIfInBounds_toArray, List.set_cons_zero, List.set_cons_succ]
                refine take_at 7 72 (.int .i64 0) rfl rfl (by kernel_rfl) (by kernel_rfl) (by kernel_rfl) (fun _ _ _ h => h) (Or.inl ⟨by rfl, fun w hSw => by (try dsimp only at hSw); go_simp⟩) (by assumption) ?_
                simp only [Act.put, List.setIfInBounds_toArray, List.set_cons_zero, List.set_cons_succ]
                have hHx := HKT.out _ HQ2
                obtain ⟨z0, z1, z2⟩ := mcells_of HIB.out
                have fz := frzM HIB.out
                have HQE : Hid (Below nV w2 (StoM t2 ib r c (some ⟨gn, 0, none⟩) (r * c) (r * c))) := StoM.belowN HQ2.out HLE.out
                have HIB2 : Hid ((StoM t2 ib r c (some ⟨gn, 0, none⟩) (r * c) (r * c)).heap[ib]? = some (MBox r c (some ⟨gn, 0, none⟩) (r * c) (r * c))) := mset HIB.out
                have HGM2 := hid (gd_sto (b := ib) (r1 := r) (c1 := c) (s1 := some ⟨gn, 0, none⟩) (n1 := r * c) (k1 := r * c) HGM.out HIB.out)
                have HQE' := HQE
                unfold StoM at HQE'
                refine wpAnyH_ready (rs := [9]) (by kernel_rfl) (by simp) ?_
                refine AllReadyH.cons (o := _) rfl (fun K hK => ?_) AllReadyH.nil
                go_simp
                go_wp2_with fail
                refine hK.out _ _ (HKT.out _ HQE') (fun hHeldE => ?_)
                clear hK K
                try simp only [Act.put, List.setIfInBounds_toArray, List.set_cons_zero, List.set_cons_succ]
                refine take_at 10 12 (.int .i64 0) rfl rfl (by kernel_rfl) (by kernel_rfl) (by kernel_rfl) (fun _ _ _ h => h) (Or.inl ⟨by rfl, fun w hSw => by (try dsimp only at hSw); go_simp⟩) (by assumption) ?_
                simp only [Act.put, List.setIfInBounds_toArray, List.set_cons_zero, List.set_cons_succ]
                refine wpAnyH_done (by kernel_rfl) ?_ _
                exact HR.out _ _ ⟨gn, on, ib, rfl, HIB2.out, HGM2.out, HVM.out, HQE.out⟩
            · have hbq : Below w2.drew.heap.size w2.drew (w2.drew.alloc (MBox 0 0 none 0 0)) := (Below.refl _ _).alloc (Nat.le_refl _) _
              have HIB : Hid ((w2.drew.alloc (MBox 0 0 none 0 0)).heap[w2.drew.heap.size]? = some (MBox 0 0 none 0 0)) := nblkM _ _
              have HLE : Hid (nV ≤ w2.drew.heap.size) := HSZ.out _ HQ0.out
              have HQ1 : Hid (Below nV w2 (w2.drew.alloc (MBox 0 0 none 0 0))) := HQ0.out.trans (hbq.mono (HSZ.out _ HQ0.out))
              clear hbq
              go_simp
              go_wp2_with fail
              refine hK.out _ _ (HKT.out _ HQ1) (fun hHeld1 => ?_)
              clear hK K
              try simp only [Act.put, List.setIfInBounds_toArray, List.set_cons_zero, List.set_cons_succ]
              obtain ⟨t1, ht1⟩ : ∃ X, Hid ((w2.drew.alloc (MBox 0 0 none 0 0)) = X) := ⟨_, rfl⟩
              rw [ht1.out] at HIB HQ1
              have hy1 : (w2.alloc (.cells #[.int .i64 0, .int .i64 0, .slice none 0 0] 28)).drew = t1 := ht1.out
              rw [hy1]
              obtain ⟨ib, hib⟩ : ∃ X, Hid (w2.drew.heap.size = X) := ⟨_, rfl⟩
              have hy2 : w2.heap.size = ib := hib.out
              rw [hib.out] at HIB HLE
              rw [hy2]
              clear hy1 hy2
              refine wpAnyH_ready (rs := [3]) (by kernel_rfl) (by simp) ?_
              refine AllReadyH.cons (o := _) rfl (fun K hK => ?_) AllReadyH.nil
              go_simp
              refine (HLD2.out _).mono ?_
              rintro e tw ⟨rfl, hw⟩
              subst hw
              go_wp2_with fail
              refine hK.out _ _ (HKT.out _ HQ1) (fun hHeldL => ?_)
              clear hK K
              try simp only [Act.put, List.setIfInBounds_toArray, List.set_cons_zero, List.set_cons_succ]
              refine wpAnyH_ready (rs := [4]) (by kernel_rfl) (by simp) ?_
              refine AllReadyH.cons (o := _) rfl (fun K hK => ?_) AllReadyH.nil
              go_simp
              refine (HSC2.out _ (HGM.out.below (HCV.out _ HQ1.out))).mono ?_
              rintro e t2 ⟨⟨gn, on, rfl, hgm, hvm⟩, hbq⟩
              have HGM := hid hgm
              have HVM := hid hvm
              have HQ2 : Hid (Below nV w2 t2) := HQ1.out.trans (hbq.mono (HSZ.out _ HQ1.out))
              have HIB := hid (blkM HIB.out hbq)
              clear hgm hvm hbq
              go_wp2_with fail
              refine hK.out _ _ (HKT.out _ HQ2) (fun hHeld2 => ?_)
              clear hK K
              try simp only [Act.put, List.setIfInBounds_toArray, List.set_cons_zero, List.set_cons_succ]
              refine take_at 5 65 (.tuple #[.agg #[.int .i64 r, .int .i64 c, .slice (some ⟨gn, 0, none⟩) (r * c) (r * c)], .int .i64 0]) rfl rfl (by kernel_rfl) (by kernel_rfl) (by kernel_rfl) (fun _ _ _ h => h) (Or.inl ⟨by rfl, fun w hSw => by (try dsimp only at hSw); go_simp⟩) (by assumption) ?_
              simp only [Act.put, List.setIfInBounds_toArray, List.set_cons_zero, List.set_cons_succ]
              refine take_at 6 71 (.agg #[.int .i64 r, .int .i64 c, .slice (some ⟨gn, 0, none⟩) (r * c) (r * c)]) rfl rfl (by kernel_rfl) (by kernel_rfl) (by kernel_rfl) (fun _ _ _ h => h) (Or.inl ⟨by rfl, fun w hSw => by (try dsimp only at hSw); go_simp⟩) (by assumption) ?_
              simp only [Act.put, List.setIfInBounds_toArray, List.set_cons_zero, List.set_cons_succ]
              refine take_at 7 72 (.int .i64 0) rfl rfl (by kernel_rfl) (by kernel_rfl) (by kernel_rfl) (fun _ _ _ h => h) (Or.inl ⟨by rfl, fun w hSw => by (try dsimp only at hSw); go_simp⟩) (by assumption) ?_
              simp only [Act.put, List.setIfInBounds_toArray, List.set_cons_zero, List.set_cons_succ]
              have hHx := HKT.out _ HQ2
              obtain ⟨z0, z1, z2⟩ := mcells_of HIB.out
              have fz := frzM HIB.out
              have HQE : Hid (Below nV w2 (StoM t2 ib r c (some ⟨gn, 0, none⟩) (r * c) (r * c))) := StoM.belowN HQ2.out HLE.out
              have HIB2 : Hid ((StoM t2 ib r c (some ⟨gn, 0, none⟩) (r * c) (r * c)).heap[ib]? = some (MBox r c (some ⟨gn, 0, none⟩) (r * c) (r * c))) := mset HIB.out
              have HGM2 := hid (gd_sto (b := ib) (r1 := r) (c1 := c) (s1 := some ⟨gn, 0, none⟩) (n1 := r * c) (k1 := r * c) HGM.out HIB.out)
              have HQE' := HQE
              unfold StoM at HQE'
              refine wpAnyH_ready (rs := [9]) (by kernel_rfl) (by simp) ?_
              refine AllReadyH.cons (o := _) rfl (fun K hK => ?_) AllReadyH.nil
              go_simp
              go_wp2_with fail
              refine hK.out _ _ (HKT.out _ HQE') (fun hHeldE => ?_)
              clear hK K
              try simp only [Act.put, List.setIfInBounds_toArray, List.set_cons_zero, List.set_cons_succ]
              refine take_at 10 12 (.int .i64 0) rfl rfl (by kernel_rfl) (by kernel_rfl) (by kernel_rfl) (fun _ _ _ h => h) (Or.inl ⟨by rfl, fun w hSw => by (try dsimp only at hSw); go_simp⟩) (by assumption) ?_
              simp only [Act.put, List.setIfInBounds_toArray, List.set_cons_zero, List.set_cons_succ]
              refine wpAnyH_done (by kernel_rfl) ?_ _
              exact HR.out _ _ ⟨gn, on, ib, rfl, HIB2.out, HGM2.out, HVM.out, HQE.out⟩
          · rintro a' w3 ⟨gn, on, inn, rfl, hin, hgn, hvn, hb3⟩
            have hb3 := HCV.out _ hb3
            simp only [Act.put, List.setIfInBounds_toArray, List.set_cons_zero, List.set_cons_succ]
            have HIN := hid hin
            have HFN := hid hgn.2.2.2.1
            have HVN : Hid (∀ k, k < r * c → canonOf (on k) = canonOf (f k)) := fun k hk => by rw [hvn k hk]
            have HB := hid (HB.out.trans (hb3.mono HB.out.size))
            have HIAW := hid (blkM HIAW.out hb3)
            have HGW := hid (HGW.out.below hb3)
            clear hin hgn hvn hb3 HKT HQ0 HSC2 HLD2 HCV HSZ hnV
            obtain ⟨c00, c01, c02⟩ := mcells_of HIN.out
            obtain ⟨c10, c11, c12⟩ := mcells_of HIAW.out
            go_wp2_with fail
            refine (alike_yes r c _ _ (r * c) (r * c) ca on f _ HFN.out HGW.out.2.2.2.1 HVN.out).mono ?_
            rintro e u11 ⟨rfl, hb⟩
            have HB := hid (HB.out.trans (hb.mono HB.out.size))
            clear hb
            go_wp2_with fail
            go_ret
            exact ⟨rfl, HB.out⟩
  · obtain ⟨F, hF⟩ : ∃ E, Hid (chkM rx cx n xs = E) := ⟨_, rfl⟩
    rw [hF.out] at HCA hEa
    have hne : (F != 0) = true := by simpa using hEa
    clear hEa
    obtain ⟨c00, c01, c02⟩ := mcells_of HIA.out
    go_wp2_with fail
    refine (HCA.out).mono ?_
    rintro e u2 ⟨rfl, hb⟩
    have HB := hid (HB.out.trans (hb.mono HB.out.size))
    have HIA := hid (blkM HIA.out hb)
    have HFA := hid (HFA.out.below hb)
    clear hb
    go_wp2_with fail
    go_ret
    exact ⟨rfl, HB.out⟩
end Go.Proofs.Ytfkpdjieiifldab
