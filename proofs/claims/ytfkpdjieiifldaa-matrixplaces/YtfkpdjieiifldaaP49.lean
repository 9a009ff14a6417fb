
/- The law MatrixPlaces. (Written by mkmvg.py.) -/
import Derived.Test.YtfkpdjieiifldaaP48
namespace Go.Proofs.Ytfkpdjieiifldaa
open Go.RowKit Go.IntWalk

theorem cell_set_same {W : World} {g p : Nat} {u v : Value} (h : W.cell? ⟨g, p, none⟩ = some u) : (W.setCell ⟨g, p, none⟩ v).cell? ⟨g, p, none⟩ = some v := World.cell?_setCell_same' W _ v (by rw [h]; rfl)
theorem cell_set_other {W : World} {g p k : Nat} {v : Value} (h : k ≠ p) : (W.setCell ⟨g, p, none⟩ v).cell? ⟨g, k, none⟩ = W.cell? ⟨g, k, none⟩ := by
  apply World.cell?_setCell_other
  intro hc
  cases hc
  exact h rfl
/-- of, at a later world: its list lies behind all that was there first. -/
theorem ofw_own (r c : Int) (sa : Option Addr) (sn sc : Nat) (xs : List Nat) (w0 w : World) (hW : Below w0.heap.size w0 w) (hu : U64At w sa sn xs) (hn : sn ≤ 17592186043904) :
    Calls Try.prog 11 #[.agg #[.int .i64 r, .int .i64 c, .slice sa sn sc]] w fun e w' => (∃ ta cap, e = .returned (MV r c ta sn cap) ∧ OwM w' w0.heap.size ta sn cap xs) ∧ Below w.heap.size w w' := by
  refine (of_own r c sa sn sc xs w hu hn).mono ?_
  rintro e w' ⟨⟨ta, cap, h1, h2⟩, hb⟩
  exact ⟨⟨ta, cap, h1, h2.mono hW.size⟩, hb⟩
theorem put_fn {W : World} {g n cap p x : Nat} {xs : List Nat} (h : FlM W (some ⟨g, 0, none⟩) n cap xs) (hx : x < 18446744073709551616) : FnM (W.setCell ⟨g, p, none⟩ (.float .f64 x)) (some ⟨g, 0, none⟩) n cap (fun k => if k = p then x else xs.getD k 0) := by
  rcases h.fn with ⟨h1, _⟩ | ⟨b, off, h1, h2, h3, h4, h5⟩
  · cases h1
  · simp only [Option.some.injEq, Addr.mk.injEq, and_true] at h1
    obtain ⟨rfl, rfl⟩ := h1
    refine Or.inr ⟨g, 0, rfl, by simpa [World.setCell] using h2, h3, h4, fun k hk => ?_⟩
    obtain ⟨c1, c2⟩ := h5 k hk
    rw [Nat.zero_add] at c1 ⊢
    by_cases hkp : k = p
    · subst hkp
      simp only [if_true]
      exact ⟨cell_set_same c1, hx⟩
    · dsimp only
      rw [if_neg hkp]
      exact ⟨(cell_set_other hkp).trans c1, c2⟩
set_option maxRecDepth 8000 in
set_option maxHeartbeats 16000000 in
theorem mplace_walk (rx cx : Int) (sa : Option Addr) (n ka : Nat) (xs : List Nat) (i j : Int) (x : Nat) (w : World) (hu : U64At w sa n xs) (hn : n ≤ 17592186043904) (hx : x < 18446744073709551616) :
    Calls Try.prog 4 #[.agg #[.int .i64 rx, .int .i64 cx, .slice sa n ka], .int .i64 i, .int .i64 j, .int .u64 x] w fun e w' => e = .returned (.bool true) ∧ Below w.heap.size w w' := by
  have HB : Hid (Below w.heap.size w (w.alloc (BBox rx cx sa n ka))) := (Below.refl _ _).alloc (Nat.le_refl _) _
  have HXB : Hid ((w.alloc (BBox rx cx sa n ka)).heap[w.heap.size]? = some (BBox rx cx sa n ka)) := nblkM _ _
  have HOX := hid (fun W (hW : Below w.heap.size w W) => ofw_own rx cx sa n ka xs w W hW (hu.below hW) hn)
  have HXL := hid hx
  have HFB0 := hid (fun W => rfinite_any x W hx)
  rw [finB_exp x hx] at HFB0
  obtain ⟨E, hE⟩ : ∃ E, Hid (chkM rx cx n xs = E) := ⟨_, rfl⟩
  have HCHK := hid (fun W t k (h : FlM W t n k xs) => rCheck_any rx cx t n k xs W h hn)
  have HGET := hid (fun W t k (h : FlM W t n k xs) => Get_any rx cx t n k xs i j W h hn)
  have HROW := hid (fun W t k (h : FlM W t n k xs) => Row_any rx cx t n k xs i W h hn)
  have HCOL := hid (fun W t k (h : FlM W t n k xs) => Col_any rx cx t n k xs j W h hn)
  have HWTH := hid (fun W t k (h : FlM W t n k xs) => With_any rx cx t n k xs i j x W h hn hx)
  have HRZ : Hid (spanE (chkM rx cx n xs) rx cx i 0 1 0 = 0 → ∀ W t k, FlM W t n k xs → Calls Try.prog 33 #[.agg #[.int .i64 rx, .int .i64 cx, .slice t n k], .int .i64 i] W fun e w' => (∃ s l, e = .returned (.slice s cx.toNat l) ∧ FnM w' s cx.toNat l (fun t => xs.getD (i.toNat * cx.toNat + t) 0)) ∧ Below W.heap.size W w') := fun hz W t k h => by
    obtain ⟨_, R, C, p, q, rfl, rfl, rfl, _, p1, q1, l1, l2, l3, l4⟩ := span_zero hz
    exact rRow_any R C p n k t _ W h.fn l1 l2 l3 (by omega)
  have HCZ : Hid (spanE (chkM rx cx n xs) rx cx 0 j 0 1 = 0 → ∀ W t k, FlM W t n k xs → Calls Try.prog 36 #[.agg #[.int .i64 rx, .int .i64 cx, .slice t n k], .int .i64 j] W fun e w' => (∃ s l, e = .returned (.slice s rx.toNat l) ∧ FnM w' s rx.toNat l (fun t => xs.getD (t * cx.toNat + j.toNat) 0)) ∧ Below W.heap.size W w') := fun hz W t k h => by
    obtain ⟨_, R, C, p, q, rfl, rfl, _, rfl, p1, q1, l1, l2, l3, l4⟩ := span_zero hz
    exact rCol_any R C q n k t _ W h.fn l1 l2 l3 (by omega)
  have HATV : Hid (spanE (chkM rx cx n xs) rx cx i j 1 1 = 0 → ∀ W t k, FlM W t n k xs → Calls Try.prog 27 #[.agg #[.int .i64 rx, .int .i64 cx, .slice t n k], .int .i64 i, .int .i64 j] W fun e w' => e = .returned (.float .f64 (xs.getD (i.toNat * cx.toNat + j.toNat) 0)) ∧ Below W.heap.size W w') := fun hz W t k h => by
    obtain ⟨_, R, C, p, q, rfl, rfl, rfl, rfl, p1, q1, l1, l2, l3, l4⟩ := span_zero hz
    exact rAt_any R t C n k p q xs W h (by omega) (by omega) (by omega) (by rw [l3]; exact place_lt (by omega) (by omega))
  have HSAME : Hid (spanE (chkM rx cx n xs) rx cx i j 1 1 = 0 → ∀ W, Calls Try.prog 26 #[.float .f64 (xs.getD (i.toNat * cx.toNat + j.toNat) 0), .float .f64 (xs.getD (i.toNat * cx.toNat + j.toNat) 0)] W fun e w' => e = .returned (.bool true) ∧ w' = W) := fun hz W => by
    obtain ⟨_, R, C, p, q, rfl, rfl, rfl, rfl, p1, q1, l1, l2, l3, l4⟩ := span_zero hz
    have hk : p * C + q < xs.length := by rw [hu.1, l3]; exact place_lt (by omega) (by omega)
    have hl : xs.getD (p * C + q) 0 < 18446744073709551616 := hu.2.1 _ (mem_getM xs _ hk)
    refine same_fin _ W hl (fin_exp hl ?_)
    unfold finM at l4
    have := List.all_eq_true.1 l4 _ (mem_getM xs _ hk)
    simpa using this
  have HPUT : Hid (spanE (chkM rx cx n xs) rx cx i j 1 1 = 0 → ∀ W g k y, W.cell? ⟨g, i.toNat * cx.toNat + j.toNat, none⟩ = some (.float .f64 y) → W.frozen? ⟨g, i.toNat * cx.toNat + j.toNat, none⟩ = false → g < W.heap.size → Calls Try.prog 30 #[.agg #[.int .i64 rx, .int .i64 cx, .slice (some ⟨g, 0, none⟩) n k], .int .i64 i, .int .i64 j, .float .f64 x] W fun e w' => e = .returned (.tuple #[]) ∧ w' = (W.alloc (MBox rx cx (some ⟨g, 0, none⟩) n k)).setCell ⟨g, i.toNat * cx.toNat + j.toNat, none⟩ (.float .f64 x)) := fun hz W g k y h1 h2 h3 => by
    obtain ⟨_, R, C, p, q, rfl, rfl, rfl, rfl, p1, q1, l1, l2, l3, l4⟩ := span_zero hz
    exact Put_any R g C n k p q x y W h1 h2 h3 (by omega) (by omega) (by omega) (by rw [l3]; exact place_lt (by omega) (by omega))
  have HPNZ : Hid (spanE (chkM rx cx n xs) rx cx i j 1 1 = 0 → i.toNat * cx.toNat + j.toNat < n) := fun hz => by
    obtain ⟨_, R, C, p, q, rfl, rfl, rfl, rfl, p1, q1, l1, l2, l3, l4⟩ := span_zero hz
    show p * C + q < n
    rw [l3]; exact place_lt (by omega) (by omega)
  have HRE : Hid (firstL [E, outE i rx] = spanE (chkM rx cx n xs) rx cx i 0 1 0) := by show _ = _; rw [row_span, hE.out]
  have HCE : Hid (firstL [E, outE j cx] = spanE (chkM rx cx n xs) rx cx 0 j 0 1) := by show _ = _; rw [col_span, hE.out]
  have HNE : Hid (firstL [spanE (chkM rx cx n xs) rx cx i 0 1 0, spanE (chkM rx cx n xs) rx cx 0 j 0 1] = spanE (chkM rx cx n xs) rx cx i j 1 1) := by show _ = _; rw [row_span, col_span, both_span]
  have HOE : Hid (firstL [spanE (chkM rx cx n xs) rx cx i j 1 1, if finB x = true then 0 else 4] = withE (spanE (chkM rx cx n xs) rx cx i j 1 1) x) := by show _ = _; rw [with_first]
  have HOZ : Hid (withE (spanE (chkM rx cx n xs) rx cx i j 1 1) x = 0 → spanE (chkM rx cx n xs) rx cx i j 1 1 = 0) := fun h => (with_zero h).1
  obtain ⟨RW, hRWe⟩ : ∃ t, Hid (spanE (chkM rx cx n xs) rx cx i 0 1 0 = t) := ⟨_, rfl⟩
  obtain ⟨CL, hCLe⟩ : ∃ t, Hid (spanE (chkM rx cx n xs) rx cx 0 j 0 1 = t) := ⟨_, rfl⟩
  obtain ⟨NN, hNNe⟩ : ∃ t, Hid (spanE (chkM rx cx n xs) rx cx i j 1 1 = t) := ⟨_, rfl⟩
  rw [hRWe.out] at HRE HNE HROW HRZ
  rw [hCLe.out] at HCE HNE HCOL HCZ
  rw [hNNe.out] at HNE HOE HOZ HGET HWTH HATV HSAME HPUT HPNZ
  rw [hE.out] at HCHK
  obtain ⟨OO, hOOe⟩ : ∃ t, Hid (withE NN x = t) := ⟨_, rfl⟩
  rw [hOOe.out] at HOE HOZ HWTH
  obtain ⟨PK, hPK⟩ : ∃ t, Hid (i.toNat * cx.toNat + j.toNat = t) := ⟨_, rfl⟩
  rw [hPK.out] at HATV HSAME HPUT HPNZ HGET HWTH
  obtain ⟨V, hV⟩ : ∃ V, Hid (w.alloc (BBox rx cx sa n ka) = V) := ⟨_, rfl⟩
  rw [hV.out] at HB HXB
  have hV' := hV.out
  unfold BBox at hV'
  obtain ⟨p0, hp0⟩ : ∃ t, Hid (w.heap.size = t) := ⟨_, rfl⟩
  rw [hp0.out] at HXB
  have hp0' := hp0.out
  clear hu hn hx
  go_enter Try.func4, Try.ntmps4
  obtain ⟨xb0, xb1, xb2⟩ := bcells_of HXB.out
  go_wp2_with fail
  refine (HOX.out _ HB.out).mono ?_
  rintro e u1 ⟨⟨t0, c0, rfl, hfo⟩, hb⟩
  have HB := hid (HB.out.trans (hb.mono HB.out.size))
  have HXB := hid (blkM HXB.out hb)
  have HFA := hid hfo.1
  unfold MV
  clear hfo
  clear hb
  go_wp2_with fail
  refine (HCHK.out _ _ _ HFA.out).mono ?_
  rintro e u2 ⟨rfl, hb⟩
  have HB := hid (HB.out.trans (hb.mono HB.out.size))
  have HXB := hid (blkM HXB.out hb)
  have HFA := hid (HFA.out.below hb)
  clear hb
  clear HFA HCHK
  go_upto_region 2 with fail
  go_cut [10] from 20 (fun s10 W => s10 = .int .i64 RW ∧ Hid (Below u2.heap.size u2 W))
  case first =>
    obtain ⟨xb0, xb1, xb2⟩ := bcells_of HXB.out
    by_cases d1 : i < 0
    · have hO : outE i rx = 1 := by unfold outE; rw [if_pos (Or.inl d1)]
      rw [hO] at HRE
      clear hO
      go_wp2_with fail
      refine (If_yes 1 _).mono ?_
      rintro e ww ⟨rfl, hw⟩
      subst hw
      go_wp2_with fail
      refine (First_two _ E 1 _ (nblkM _ _)).mono ?_
      rintro e ww ⟨rfl, hw⟩
      subst hw
      go_wp2_with fail
      go_meet
      exact ⟨by rw [HRE.out], hid ((Below.refl _ _).alloc (Nat.le_refl _) _)⟩
    by_cases d2 : rx ≤ i
    · have hO : outE i rx = 1 := by unfold outE; rw [if_pos (Or.inr d2)]
      rw [hO] at HRE
      clear hO
      go_wp2_with fail
      refine (If_yes 1 _).mono ?_
      rintro e ww ⟨rfl, hw⟩
      subst hw
      go_wp2_with fail
      refine (First_two _ E 1 _ (nblkM _ _)).mono ?_
      rintro e ww ⟨rfl, hw⟩
      subst hw
      go_wp2_with fail
      go_meet
      exact ⟨by rw [HRE.out], hid ((Below.refl _ _).alloc (Nat.le_refl _) _)⟩
    have hO : outE i rx = 0 := by unfold outE; rw [if_neg (fun h => by rcases h with h | h <;> contradiction)]
    rw [hO] at HRE
    clear hO
    go_wp2_with fail
    refine (If_no 1 _).mono ?_
    rintro e ww ⟨rfl, hw⟩
    subst hw
    go_wp2_with fail
    refine (First_two _ E 0 _ (nblkM _ _)).mono ?_
    rintro e ww ⟨rfl, hw⟩
    subst hw
    go_wp2_with fail
    go_meet
    exact ⟨by rw [HRE.out], hid ((Below.refl _ _).alloc (Nat.le_refl _) _)⟩
  case rest =>
    obtain ⟨rfl, HBC⟩ := hcut
    have HB := hid (HB.out.trans (HBC.out.mono HB.out.size))
    have HXB := hid (blkM HXB.out HBC.out)
    clear HBC
    go_upto_region 3 with fail
    go_cut [11] from 20 (fun s11 W => s11 = .int .i64 CL ∧ Hid (Below wc.heap.size wc W))
    case first =>
      obtain ⟨xb0, xb1, xb2⟩ := bcells_of HXB.out
      by_cases d1 : j < 0
      · have hO : outE j cx = 1 := by unfold outE; rw [if_pos (Or.inl d1)]
        rw [hO] at HCE
        clear hO
        go_wp2_with fail
        refine (If_yes 1 _).mono ?_
        rintro e ww ⟨rfl, hw⟩
        subst hw
        go_wp2_with fail
        refine (First_two _ E 1 _ (nblkM _ _)).mono ?_
        rintro e ww ⟨rfl, hw⟩
        subst hw
        go_wp2_with fail
        go_meet
        exact ⟨by rw [HCE.out], hid ((Below.refl _ _).alloc (Nat.le_refl _) _)⟩
      by_cases d2 : cx ≤ j
      · have hO : outE j cx = 1 := by unfold outE; rw [if_pos (Or.inr d2)]
        rw [hO] at HCE
        clear hO
        go_wp2_with fail
        refine (If_yes 1 _).mono ?_
        rintro e ww ⟨rfl, hw⟩
        subst hw
        go_wp2_with fail
        refine (First_two _ E 1 _ (nblkM _ _)).mono ?_
        rintro e ww ⟨rfl, hw⟩
        subst hw
        go_wp2_with fail
        go_meet
        exact ⟨by rw [HCE.out], hid ((Below.refl _ _).alloc (Nat.le_refl _) _)⟩
      have hO : outE j cx = 0 := by unfold outE; rw [if_neg (fun h => by rcases h with h | h <;> contradiction)]
      rw [hO] at HCE
      clear hO
      go_wp2_with fail
      refine (If_no 1 _).mono ?_
      rintro e ww ⟨rfl, hw⟩
      subst hw
      go_wp2_with fail
      refine (First_two _ E 0 _ (nblkM _ _)).mono ?_
      rintro e ww ⟨rfl, hw⟩
      subst hw
      go_wp2_with fail
      go_meet
      exact ⟨by rw [HCE.out], hid ((Below.refl _ _).alloc (Nat.le_refl _) _)⟩
    case rest =>
      obtain ⟨rfl, HBC⟩ := hcut
      have HB := hid (HB.out.trans (HBC.out.mono HB.out.size))
      have HXB := hid (blkM HXB.out HBC.out)
      clear HBC
      go_wp2_with fail
      refine (First_two _ RW CL _ (nblkM _ _)).mono ?_
      rintro e ww ⟨rfl, hw⟩
      subst hw
      rw [HNE.out]
      have hal : Below wc.heap.size wc (wc.alloc (I2 RW CL)) := (Below.refl _ _).alloc (Nat.le_refl _) _
      have HB := hid (HB.out.trans (hal.mono HB.out.size))
      have HXB := hid (blkM HXB.out hal)
      obtain ⟨V5, hV5⟩ : ∃ V, Hid (wc.alloc (I2 RW CL) = V) := ⟨_, rfl⟩
      rw [hV5.out] at HB HXB
      rw [hV5.out]
      clear hal
      obtain ⟨xb0, xb1, xb2⟩ := bcells_of HXB.out
      go_wp2_with fail
      refine (HOX.out _ HB.out).mono ?_
      rintro e u6 ⟨⟨tg, cg, rfl, hfo⟩, hb⟩
      have HB := hid (HB.out.trans (hb.mono HB.out.size))
      have HXB := hid (blkM HXB.out hb)
      have HFG := hid hfo.1
      unfold MV
      clear hfo
      clear hb
      go_wp2_with fail
      refine (HGET.out _ _ _ HFG.out).mono ?_
      rintro e u7 ⟨⟨v, rfl, hgv⟩, hb⟩
      have HB := hid (HB.out.trans (hb.mono HB.out.size))
      have HXB := hid (blkM HXB.out hb)
      have HFG := hid (HFG.out.below hb)
      have HGV := hid hgv
      clear hgv
      clear hb
      clear HFG HGET
      by_cases hN0 : NN = 0
      · subst hN0
        have hvv := HGV.out.2 rfl
        subst hvv
        have HAT2 := hid (HATV.out rfl)
        have HSA2 := hid (HSAME.out rfl)
        have HPU2 := hid (HPUT.out rfl)
        have HPN := hid (HPNZ.out rfl)
        clear HGV HPNZ HATV HSAME HPUT
        obtain ⟨xb0, xb1, xb2⟩ := bcells_of HXB.out
        go_wp2_with fail
        refine (HOX.out _ HB.out).mono ?_
        rintro e u8 ⟨⟨ta, ca, rfl, hfo⟩, hb⟩
        have HB := hid (HB.out.trans (hb.mono HB.out.size))
        have HXB := hid (blkM HXB.out hb)
        have HFA2 := hid hfo.1
        unfold MV
        clear hfo
        clear hb
        go_wp2_with fail
        refine (HAT2.out _ _ _ HFA2.out).mono ?_
        rintro e u9 ⟨rfl, hb⟩
        have HB := hid (HB.out.trans (hb.mono HB.out.size))
        have HXB := hid (blkM HXB.out hb)
        have HFA2 := hid (HFA2.out.below hb)
        clear hb
        go_wp2_with fail
        refine (HSA2.out _).mono ?_
        rintro e ww ⟨rfl, hw⟩
        subst hw
        go_wp2_with fail
        refine (awake8_any _).mono ?_
        rintro e u10 ⟨rfl, hb⟩
        have HB := hid (HB.out.trans (hb.mono HB.out.size))
        have HXB := hid (blkM HXB.out hb)
        clear hb
        clear HFA2
        obtain ⟨xb0, xb1, xb2⟩ := bcells_of HXB.out
        go_wp2_with fail
        refine (HOX.out _ HB.out).mono ?_
        rintro e u11 ⟨⟨tw, cw, rfl, hfo⟩, hb⟩
        have HB := hid (HB.out.trans (hb.mono HB.out.size))
        have HXB := hid (blkM HXB.out hb)
        have HOW := hid hfo
        unfold MV
        clear hfo
        clear hb
        have hal : Below u11.heap.size u11 (u11.alloc (MBox rx cx tw n cw)) := (Below.refl _ _).alloc (Nat.le_refl _) _
        have HB := hid (HB.out.trans (hal.mono HB.out.size))
        have HXB := hid (blkM HXB.out hal)
        have HOW := hid (HOW.out.below hal)
        have HIW : Hid ((u11.alloc (MBox rx cx tw n cw)).heap[u11.heap.size]? = some (MBox rx cx tw n cw)) := nblkM _ _
        obtain ⟨V12, hV12⟩ : ∃ V, Hid ((u11.alloc (MBox rx cx tw n cw)) = V) := ⟨_, rfl⟩
        rw [hV12.out] at HB HIW HXB HOW
        have hV12' := hV12.out
        unfold MBox at hV12'
        obtain ⟨iw, hiw⟩ : ∃ t, Hid (u11.heap.size = t) := ⟨_, rfl⟩
        rw [hiw.out] at HIW
        have hiw' := hiw.out
        clear hal
        go_upto_region 9 with fail
        go_cut [16] from 20 (fun s16 W => s16 = .int .i64 OO ∧ Hid (Below V12.heap.size V12 W))
        case first =>
          go_wp2_with fail
          cases hfb : finB x with
          | false =>
            rw [hfb, if_neg (by decide)] at HOE
            rw [hfb] at HFB0
            refine (fq_any x _).mono ?_
            rintro e ww ⟨rfl, hw⟩
            subst hw
            go_wp2_with fail
            refine (HFB0.out _).mono ?_
            rintro e ww ⟨rfl, hw⟩
            subst hw
            go_wp2_with fail
            refine (If_yes 4 _).mono ?_
            rintro e ww ⟨rfl, hw⟩
            subst hw
            go_wp2_with fail
            refine (First_two _ 0 4 _ (nblkM _ _)).mono ?_
            rintro e ww ⟨rfl, hw⟩
            subst hw
            go_wp2_with fail
            go_meet
            exact ⟨by rw [HOE.out], hid ((Below.refl _ _).alloc (Nat.le_refl _) _)⟩
          | true =>
            rw [hfb, if_pos rfl] at HOE
            rw [hfb] at HFB0
            refine (fq_any x _).mono ?_
            rintro e ww ⟨rfl, hw⟩
            subst hw
            go_wp2_with fail
            refine (HFB0.out _).mono ?_
            rintro e ww ⟨rfl, hw⟩
            subst hw
            go_wp2_with fail
            refine (If_no 4 _).mono ?_
            rintro e ww ⟨rfl, hw⟩
            subst hw
            go_wp2_with fail
            refine (First_two _ 0 0 _ (nblkM _ _)).mono ?_
            rintro e ww ⟨rfl, hw⟩
            subst hw
            go_wp2_with fail
            go_meet
            exact ⟨by rw [HOE.out], hid ((Below.refl _ _).alloc (Nat.le_refl _) _)⟩
        case rest =>
          obtain ⟨rfl, HBC⟩ := hcut
          have HB := hid (HB.out.trans (HBC.out.mono HB.out.size))
          have HXB := hid (blkM HXB.out HBC.out)
          have HIW := hid (blkM HIW.out HBC.out)
          have HOW := hid (HOW.out.below HBC.out)
          clear HBC
          by_cases hO0 : OO = 0
          · subst hO0
            have hnz : n ≠ 0 := by have := HPN.out; omega
            obtain ⟨g, hg1, hg2, hg3⟩ : ∃ g, tw = some ⟨g, 0, none⟩ ∧ w.heap.size ≤ g ∧ ∀ k, wc.frozen? ⟨g, k, none⟩ = false := by
              rcases HOW.out.2 with h | ⟨g, h1, h2, h3⟩
              · exact absurd h hnz
              · exact ⟨g, h1, h2, h3⟩
            subst hg1
            have hgl := fl_lt HOW.out.1
            have hgi := fl_ne HOW.out.1 hnz HIW.out
            have hgx := fl_neB HOW.out.1 hnz HXB.out
            have hcg : wc.cell? ⟨g, PK, none⟩ = some (.float .f64 (xs.getD PK 0)) := by
              rcases HOW.out.1.2.2 with ⟨h1, _⟩ | ⟨b, off, h1, _, _, _, h2⟩
              · cases h1
              · simp only [Option.some.injEq, Addr.mk.injEq, and_true] at h1
                obtain ⟨rfl, rfl⟩ := h1
                have := h2 PK HPN.out
                rw [Nat.zero_add] at this
                exact this
            have hdr : Below wc.heap.size wc wc.drew := (Below.refl _ _).drew
            have hal : Below wc.drew.heap.size wc.drew (wc.drew.alloc (MBox rx cx (some ⟨g, 0, none⟩) n cw)) := (Below.refl _ _).alloc (Nat.le_refl _) _
            have HB5 : Hid (Below w.heap.size w ((wc.drew.alloc (MBox rx cx (some ⟨g, 0, none⟩) n cw)).setCell ⟨g, PK, none⟩ (.float .f64 x))) := (HB.out.drew.trans (hal.mono HB.out.size)).setCell (p := ⟨g, PK, none⟩) hg2 _
            have HX5 : Hid (((wc.drew.alloc (MBox rx cx (some ⟨g, 0, none⟩) n cw)).setCell ⟨g, PK, none⟩ (.float .f64 x)).heap[p0]? = some (BBox rx cx sa n ka)) := (set_keepM (Ne.symm hgx) _).trans (blkM (A := wc.drew) HXB.out hal)
            have HI5 : Hid (((wc.drew.alloc (MBox rx cx (some ⟨g, 0, none⟩) n cw)).setCell ⟨g, PK, none⟩ (.float .f64 x)).heap[iw]? = some (MBox rx cx (some ⟨g, 0, none⟩) n cw)) := (set_keepM (Ne.symm hgi) _).trans (blkM (A := wc.drew) HIW.out hal)
            have HF5 : Hid (FnM ((wc.drew.alloc (MBox rx cx (some ⟨g, 0, none⟩) n cw)).setCell ⟨g, PK, none⟩ (.float .f64 x)) (some ⟨g, 0, none⟩) n cw (fun k => if k = PK then x else xs.getD k 0)) := put_fn (HOW.out.1.below (hdr.trans hal)) HXL.out
            have HPU := hid (HPU2.out wc.drew g cw (xs.getD PK 0) hcg (hg3 _) hgl)
            have HKT : Hid (∀ (W : World), Hid (W.heap[iw]? = some (MBox rx cx (some ⟨g, 0, none⟩) n cw)) → (W.cell? ⟨iw, 0, none⟩ = some (.int .i64 rx) ∧ W.cell? ⟨iw, 1, none⟩ = some (.int .i64 cx) ∧ W.cell? ⟨iw, 2, none⟩ = some (.slice (some ⟨g, 0, none⟩) n cw)) ∧ Hid (W.heap[iw]? = some (MBox rx cx (some ⟨g, 0, none⟩) n cw))) := fun W hW => ⟨mcells_of hW.out, hW⟩
            have HQ0 : Hid (wc.drew.heap[iw]? = some (MBox rx cx (some ⟨g, 0, none⟩) n cw)) := HIW.out
            clear hgl hgi hgx hcg hdr hal hg2 hg3 hnz
            go_wp2_with fail
            refine wp_region_held_drew (S := fun W => (W.cell? ⟨iw, 0, none⟩ = some (.int .i64 rx) ∧ W.cell? ⟨iw, 1, none⟩ = some (.int .i64 cx) ∧ W.cell? ⟨iw, 2, none⟩ = some (.slice (some ⟨g, 0, none⟩) n cw)) ∧ Hid (W.heap[iw]? = some (MBox rx cx (some ⟨g, 0, none⟩) n cw))) (by kernel_rfl) (HKT.out _ HQ0) (fun hHeld => ?_)
            refine take_at 0 101 (.agg #[.int .i64 rx, .int .i64 cx, .slice (some ⟨g, 0, none⟩) n cw]) rfl rfl (by kernel_rfl) (by kernel_rfl) (by kernel_rfl) (fun _ _ _ h => h) (Or.inl ⟨by rfl, fun w hSw => by (try dsimp only at hSw); go_simp⟩) (by assumption) ?_
            simp only [Act.put, List.setIfInBounds_toArray, List.set_cons_zero, List.set_cons_succ]
            refine take_at 1 102 (.int .i64 i) rfl rfl (by kernel_rfl) (by kernel_rfl) (by kernel_rfl) (fun _ _ _ h => h) (Or.inl ⟨by rfl, fun w hSw => by (try dsimp only at hSw); go_simp⟩) (by assumption) ?_
            simp only [Act.put, List.setIfInBounds_toArray, List.set_cons_zero, List.set_cons_succ]
            refine take_at 2 103 (.int .i64 j) rfl rfl (by kernel_rfl) (by kernel_rfl) (by kernel_rfl) (fun _ _ _ h => h) (Or.inl ⟨by rfl, fun w hSw => by (try dsimp only at hSw); go_simp⟩) (by assumption) ?_
            simp only [Act.put, List.setIfInBounds_toArray, List.set_cons_zero, List.set_cons_succ]
            refine take_at 3 104 (.int .u64 x) rfl rfl (by kernel_rfl) (by kernel_rfl) (by kernel_rfl) (fun _ _ _ h => h) (Or.inl ⟨by rfl, fun w hSw => by (try dsimp only at hSw); go_simp⟩) (by assumption) ?_
            simp only [Act.put, List.setIfInBounds_toArray, List.set_cons_zero, List.set_cons_succ]
            refine wpAnyH_ready (rs := [4]) (by kernel_rfl) (by simp) ?_
            refine AllReadyH.cons (o := _) rfl (fun K hK => ?_) AllReadyH.nil
            go_simp
            refine (fq_any x _).mono ?_
            rintro e ww ⟨rfl, hw⟩
            subst hw
            go_wp2_with fail
            refine hK.out _ _ (HKT.out _ HQ0) (fun hHeld1 => ?_)
            clear hK K
            try simp only [Act.put, List.setIfInBounds_toArray, List.set_cons_zero, List.set_cons_succ]
            refine wpAnyH_ready (rs := [5]) (by kernel_rfl) (by simp) ?_
            refine AllReadyH.cons (o := _) rfl (fun K hK => ?_) AllReadyH.nil
            go_simp
            refine HPU.out.mono ?_
            rintro e t5 ⟨rfl, ht5⟩
            rw [← ht5] at HB5 HX5 HI5 HF5
            clear ht5
            go_wp2_with fail
            refine hK.out _ _ (HKT.out _ HI5) (fun hHeld2 => ?_)
            clear hK K
            try simp only [Act.put, List.setIfInBounds_toArray, List.set_cons_zero, List.set_cons_succ]
            refine wpAnyH_done (by kernel_rfl) ?_ _
            have HB := HB5
            have HXB := HX5
            have HIW := HI5
            have HFW := HF5
            clear HB5 HX5 HI5 HF5 HKT HQ0 hHeld hHeld1 hHeld2 HPU HOW
            obtain ⟨xb0, xb1, xb2⟩ := bcells_of HXB.out
            go_wp2_with fail
            refine (HOX.out _ HB.out).mono ?_
            rintro e u14 ⟨⟨tb, cb, rfl, hfo⟩, hb⟩
            have HB := hid (HB.out.trans (hb.mono HB.out.size))
            have HXB := hid (blkM HXB.out hb)
            have HIW := hid (blkM HIW.out hb)
            have HFW := hid (HFW.out.below hb)
            have HFB := hid hfo.1
            unfold MV
            clear hfo
            clear hb
            go_wp2_with fail
            refine (fq_any x _).mono ?_
            rintro e ww ⟨rfl, hw⟩
            subst hw
            go_wp2_with fail
            refine (HWTH.out _ _ _ HFB.out).mono ?_
            rintro e u15 ⟨⟨X0, X1, X2, X3, X4, rfl, hws⟩, hb⟩
            have HB := hid (HB.out.trans (hb.mono HB.out.size))
            have HXB := hid (blkM HXB.out hb)
            have HIW := hid (blkM HIW.out hb)
            have HFW := hid (HFW.out.below hb)
            have HFB := hid (HFB.out.below hb)
            have HWR := hid hws
            clear hws
            clear hb
            have hal : Below u15.heap.size u15 (u15.alloc (MBox X0 X1 X2 X3 X4)) := (Below.refl _ _).alloc (Nat.le_refl _) _
            have HB := hid (HB.out.trans (hal.mono HB.out.size))
            have HXB := hid (blkM HXB.out hal)
            have HIW := hid (blkM HIW.out hal)
            have HFW := hid (HFW.out.below hal)
            have HWR := hid (HWR.out.below hal)
            have HIB : Hid ((u15.alloc (MBox X0 X1 X2 X3 X4)).heap[u15.heap.size]? = some (MBox X0 X1 X2 X3 X4)) := nblkM _ _
            obtain ⟨V16, hV16⟩ : ∃ V, Hid ((u15.alloc (MBox X0 X1 X2 X3 X4)) = V) := ⟨_, rfl⟩
            rw [hV16.out] at HB HIB HXB HIW HFW HWR
            have hV16' := hV16.out
            unfold MBox at hV16'
            obtain ⟨ib, hib⟩ : ∃ t, Hid (u15.heap.size = t) := ⟨_, rfl⟩
            rw [hib.out] at HIB
            have hib' := hib.out
            clear hal
            obtain ⟨x0, x1, x3, ow, how, hok⟩ : rx = X0 ∧ cx = X1 ∧ n = X3 ∧ ∃ o : Nat → Nat, FnM V16 X2 X3 X4 o ∧ ∀ k, k < n → o k = if k = PK then x else xs.getD k 0 := by
              rcases HWR.out with ⟨_, h1, h2, h3, o, h4, h5⟩ | ⟨h, _⟩
              · exact ⟨h1.symm, h2.symm, h3.symm, o, h4, h5⟩
              · exact absurd rfl h
            subst x0 x1 x3
            have HFO := hid how
            have HKO : Hid (∀ k, k < n → canonOf (ow k) = canonOf (if k = PK then x else xs.getD k 0)) := fun k hk => by rw [hok k hk]
            clear how hok HWR
            obtain ⟨c00, c01, c02⟩ := mcells_of HIB.out
            obtain ⟨c10, c11, c12⟩ := mcells_of HIW.out
            go_wp2_with fail
            refine (told_yes8 _ _ _ _ _ _ _ _ _ _ HFO.out HFW.out HKO.out).mono ?_
            rintro e u17 ⟨rfl, hb⟩
            have HB := hid (HB.out.trans (hb.mono HB.out.size))
            have HXB := hid (blkM HXB.out hb)
            have HIW := hid (blkM HIW.out hb)
            have HIB := hid (blkM HIB.out hb)
            have HFW := hid (HFW.out.below hb)
            have HFO := hid (HFO.out.below hb)
            clear hb
            clear HIB HIW
            obtain ⟨xb0, xb1, xb2⟩ := bcells_of HXB.out
            go_wp2_with fail
            refine (HOX.out _ HB.out).mono ?_
            rintro e u18 ⟨⟨tr, cr, rfl, hfo⟩, hb⟩
            have HB := hid (HB.out.trans (hb.mono HB.out.size))
            have HXB := hid (blkM HXB.out hb)
            have HFR := hid hfo.1
            unfold MV
            clear hfo
            clear hb
            go_wp2_with fail
            refine (HROW.out _ _ _ HFR.out).mono ?_
            rintro e u19 ⟨⟨sr, kr, lr, rfl, hls⟩, hb⟩
            have HB := hid (HB.out.trans (hb.mono HB.out.size))
            have HXB := hid (blkM HXB.out hb)
            have HFR := hid (HFR.out.below hb)
            have HLR := hid hls
            clear hls
            clear hb
            by_cases hRW : RW = 0
            · obtain ⟨kr1, hfc⟩ : kr = cx.toNat ∧ FnM u19 sr kr lr (fun t => xs.getD (i.toNat * cx.toNat + t) 0) := by
                rcases HLR.out with ⟨_, h1, h2⟩ | ⟨h1, _⟩
                · exact ⟨h1, h2⟩
                · exact absurd hRW h1
              subst kr1
              have HFC := hid hfc
              clear hfc HLR
              have HRP := hid (HRZ.out hRW)
              have hRe : (RW == 0) = true := by simpa using hRW
              obtain ⟨xb0, xb1, xb2⟩ := bcells_of HXB.out
              go_wp2_with fail
              refine (HOX.out _ HB.out).mono ?_
              rintro e u20 ⟨⟨ty, cy, rfl, hfo⟩, hb⟩
              have HB := hid (HB.out.trans (hb.mono HB.out.size))
              have HXB := hid (blkM HXB.out hb)
              have HFC := hid (HFC.out.below hb)
              have HFZ := hid hfo.1
              unfold MV
              clear hfo
              clear hb
              go_wp2_with fail
              refine (HRP.out _ _ _ HFZ.out).mono ?_
              rintro e u21 ⟨⟨sd, ld, rfl, hfd⟩, hb⟩
              have HB := hid (HB.out.trans (hb.mono HB.out.size))
              have HXB := hid (blkM HXB.out hb)
              have HFC := hid (HFC.out.below hb)
              have HFZ := hid (HFZ.out.below hb)
              have HFD := hid hfd
              clear hfd
              clear hb
              subst hRW
              go_wp2_with fail
              refine (list_yes _ _ _ _ _ _ _ _ HFC.out HFD.out (fun _ _ => rfl)).mono ?_
              rintro e u22 ⟨rfl, hb⟩
              have HB := hid (HB.out.trans (hb.mono HB.out.size))
              have HXB := hid (blkM HXB.out hb)
              have HFC := hid (HFC.out.below hb)
              have HFZ := hid (HFZ.out.below hb)
              have HFD := hid (HFD.out.below hb)
              clear hb
              clear HFC HFD HFZ HRP
              obtain ⟨xb0, xb1, xb2⟩ := bcells_of HXB.out
              go_wp2_with fail
              refine (HOX.out _ HB.out).mono ?_
              rintro e u23 ⟨⟨tk, ck, rfl, hfo⟩, hb⟩
              have HB := hid (HB.out.trans (hb.mono HB.out.size))
              have HXB := hid (blkM HXB.out hb)
              have HFK := hid hfo.1
              unfold MV
              clear hfo
              clear hb
              go_wp2_with fail
              refine (HCOL.out _ _ _ HFK.out).mono ?_
              rintro e u24 ⟨⟨sc, kc, lc, rfl, hls⟩, hb⟩
              have HB := hid (HB.out.trans (hb.mono HB.out.size))
              have HXB := hid (blkM HXB.out hb)
              have HFK := hid (HFK.out.below hb)
              have HLC := hid hls
              clear hls
              clear hb
              by_cases hCL : CL = 0
              · obtain ⟨kc1, hfc⟩ : kc = rx.toNat ∧ FnM u24 sc kc lc (fun t => xs.getD (t * cx.toNat + j.toNat) 0) := by
                  rcases HLC.out with ⟨_, h1, h2⟩ | ⟨h1, _⟩
                  · exact ⟨h1, h2⟩
                  · exact absurd hCL h1
                subst kc1
                have HFC := hid hfc
                clear hfc HLC
                have HCP := hid (HCZ.out hCL)
                have hCe : (CL == 0) = true := by simpa using hCL
                obtain ⟨xb0, xb1, xb2⟩ := bcells_of HXB.out
                go_wp2_with fail
                refine (HOX.out _ HB.out).mono ?_
                rintro e u25 ⟨⟨tz, cz, rfl, hfo⟩, hb⟩
                have HB := hid (HB.out.trans (hb.mono HB.out.size))
                have HXB := hid (blkM HXB.out hb)
                have HFC := hid (HFC.out.below hb)
                have HFZ := hid hfo.1
                unfold MV
                clear hfo
                clear hb
                go_wp2_with fail
                refine (HCP.out _ _ _ HFZ.out).mono ?_
                rintro e u26 ⟨⟨sd, ld, rfl, hfd⟩, hb⟩
                have HB := hid (HB.out.trans (hb.mono HB.out.size))
                have HXB := hid (blkM HXB.out hb)
                have HFC := hid (HFC.out.below hb)
                have HFZ := hid (HFZ.out.below hb)
                have HFD := hid hfd
                clear hfd
                clear hb
                subst hCL
                go_wp2_with fail
                refine (list_yes _ _ _ _ _ _ _ _ HFC.out HFD.out (fun _ _ => rfl)).mono ?_
                rintro e u27 ⟨rfl, hb⟩
                have HB := hid (HB.out.trans (hb.mono HB.out.size))
                have HXB := hid (blkM HXB.out hb)
                have HFC := hid (HFC.out.below hb)
                have HFZ := hid (HFZ.out.below hb)
                have HFD := hid (HFD.out.below hb)
                clear hb
                go_wp2_with fail
                go_ret
                exact ⟨rfl, HB.out⟩
              · obtain ⟨c1, c2, c3⟩ : sc = none ∧ kc = 0 ∧ lc = 0 := by
                  rcases HLC.out with ⟨h1, _⟩ | ⟨_, h2⟩
                  · exact absurd h1 hCL
                  · exact h2
                subst c1 c2 c3
                have hCe : (CL == 0) = false := by simpa using hCL
                have HCN := hid hCL
                clear hCL HLC
                go_wp2_with fail
                refine (list_no CL HCN.out _ _ _ _).mono ?_
                rintro e u25 ⟨rfl, hb⟩
                have HB := hid (HB.out.trans (hb.mono HB.out.size))
                have HXB := hid (blkM HXB.out hb)
                clear hb
                go_wp2_with fail
                go_ret
                exact ⟨rfl, HB.out⟩
            · obtain ⟨c1, c2, c3⟩ : sr = none ∧ kr = 0 ∧ lr = 0 := by
                rcases HLR.out with ⟨h1, _⟩ | ⟨_, h2⟩
                · exact absurd h1 hRW
                · exact h2
              subst c1 c2 c3
              have hRe : (RW == 0) = false := by simpa using hRW
              have HRN := hid hRW
              clear hRW HLR
              go_wp2_with fail
              refine (list_no RW HRN.out _ _ _ _).mono ?_
              rintro e u20 ⟨rfl, hb⟩
              have HB := hid (HB.out.trans (hb.mono HB.out.size))
              have HXB := hid (blkM HXB.out hb)
              clear hb
              obtain ⟨xb0, xb1, xb2⟩ := bcells_of HXB.out
              go_wp2_with fail
              refine (HOX.out _ HB.out).mono ?_
              rintro e u21 ⟨⟨tk, ck, rfl, hfo⟩, hb⟩
              have HB := hid (HB.out.trans (hb.mono HB.out.size))
              have HXB := hid (blkM HXB.out hb)
              have HFK := hid hfo.1
              unfold MV
              clear hfo
              clear hb
              go_wp2_with fail
              refine (HCOL.out _ _ _ HFK.out).mono ?_
              rintro e u22 ⟨⟨sc, kc, lc, rfl, hls⟩, hb⟩
              have HB := hid (HB.out.trans (hb.mono HB.out.size))
              have HXB := hid (blkM HXB.out hb)
              have HFK := hid (HFK.out.below hb)
              have HLC := hid hls
              clear hls
              clear hb
              by_cases hCL : CL = 0
              · obtain ⟨kc1, hfc⟩ : kc = rx.toNat ∧ FnM u22 sc kc lc (fun t => xs.getD (t * cx.toNat + j.toNat) 0) := by
                  rcases HLC.out with ⟨_, h1, h2⟩ | ⟨h1, _⟩
                  · exact ⟨h1, h2⟩
                  · exact absurd hCL h1
                subst kc1
                have HFC := hid hfc
                clear hfc HLC
                have HCP := hid (HCZ.out hCL)
                have hCe : (CL == 0) = true := by simpa using hCL
                obtain ⟨xb0, xb1, xb2⟩ := bcells_of HXB.out
                go_wp2_with fail
                refine (HOX.out _ HB.out).mono ?_
                rintro e u23 ⟨⟨tz, cz, rfl, hfo⟩, hb⟩
                have HB := hid (HB.out.trans (hb.mono HB.out.size))
                have HXB := hid (blkM HXB.out hb)
                have HFC := hid (HFC.out.below hb)
                have HFZ := hid hfo.1
                unfold MV
                clear hfo
                clear hb
                go_wp2_with fail
                refine (HCP.out _ _ _ HFZ.out).mono ?_
                rintro e u24 ⟨⟨sd, ld, rfl, hfd⟩, hb⟩
                have HB := hid (HB.out.trans (hb.mono HB.out.size))
                have HXB := hid (blkM HXB.out hb)
                have HFC := hid (HFC.out.below hb)
                have HFZ := hid (HFZ.out.below hb)
                have HFD := hid hfd
                clear hfd
                clear hb
                subst hCL
                go_wp2_with fail
                refine (list_yes _ _ _ _ _ _ _ _ HFC.out HFD.out (fun _ _ => rfl)).mono ?_
                rintro e u25 ⟨rfl, hb⟩
                have HB := hid (HB.out.trans (hb.mono HB.out.size))
                have HXB := hid (blkM HXB.out hb)
                have HFC := hid (HFC.out.below hb)
                have HFZ := hid (HFZ.out.below hb)
                have HFD := hid (HFD.out.below hb)
                clear hb
                go_wp2_with fail
                go_ret
                exact ⟨rfl, HB.out⟩
              · obtain ⟨c1, c2, c3⟩ : sc = none ∧ kc = 0 ∧ lc = 0 := by
                  rcases HLC.out with ⟨h1, _⟩ | ⟨_, h2⟩
                  · exact absurd h1 hCL
                  · exact h2
                subst c1 c2 c3
                have hCe : (CL == 0) = false := by simpa using hCL
                have HCN := hid hCL
                clear hCL HLC
                go_wp2_with fail
                refine (list_no CL HCN.out _ _ _ _).mono ?_
                rintro e u23 ⟨rfl, hb⟩
                have HB := hid (HB.out.trans (hb.mono HB.out.size))
                have HXB := hid (blkM HXB.out hb)
                clear hb
                go_wp2_with fail
                go_ret
                exact ⟨rfl, HB.out⟩
          · have hOe : (OO == 0) = false := by simpa using hO0
            have HON := hid hO0
            clear hO0 HOW
            obtain ⟨xb0, xb1, xb2⟩ := bcells_of HXB.out
            go_wp2_with fail
            refine (HOX.out _ HB.out).mono ?_
            rintro e u14 ⟨⟨tb, cb, rfl, hfo⟩, hb⟩
            have HB := hid (HB.out.trans (hb.mono HB.out.size))
            have HXB := hid (blkM HXB.out hb)
            have HIW := hid (blkM HIW.out hb)
            have HFB := hid hfo.1
            unfold MV
            clear hfo
            clear hb
            go_wp2_with fail
            refine (fq_any x _).mono ?_
            rintro e ww ⟨rfl, hw⟩
            subst hw
            go_wp2_with fail
            refine (HWTH.out _ _ _ HFB.out).mono ?_
            rintro e u15 ⟨⟨X0, X1, X2, X3, X4, rfl, hws⟩, hb⟩
            have HB := hid (HB.out.trans (hb.mono HB.out.size))
            have HXB := hid (blkM HXB.out hb)
            have HIW := hid (blkM HIW.out hb)
            have HFB := hid (HFB.out.below hb)
            have HWR := hid hws
            clear hws
            clear hb
            have hal : Below u15.heap.size u15 (u15.alloc (MBox X0 X1 X2 X3 X4)) := (Below.refl _ _).alloc (Nat.le_refl _) _
            have HB := hid (HB.out.trans (hal.mono HB.out.size))
            have HXB := hid (blkM HXB.out hal)
            have HIW := hid (blkM HIW.out hal)
            have HWR := hid (HWR.out.below hal)
            have HIB : Hid ((u15.alloc (MBox X0 X1 X2 X3 X4)).heap[u15.heap.size]? = some (MBox X0 X1 X2 X3 X4)) := nblkM _ _
            obtain ⟨V16, hV16⟩ : ∃ V, Hid ((u15.alloc (MBox X0 X1 X2 X3 X4)) = V) := ⟨_, rfl⟩
            rw [hV16.out] at HB HIB HXB HIW HWR
            have hV16' := hV16.out
            unfold MBox at hV16'
            obtain ⟨ib, hib⟩ : ∃ t, Hid (u15.heap.size = t) := ⟨_, rfl⟩
            rw [hib.out] at HIB
            have hib' := hib.out
            clear hal
            obtain ⟨c00, c01, c02⟩ := mcells_of HIB.out
            obtain ⟨c10, c11, c12⟩ := mcells_of HIW.out
            go_wp2_with fail
            obtain ⟨x0, x1, x2, x3, x4⟩ : X0 = 0 ∧ X1 = 0 ∧ X2 = none ∧ X3 = 0 ∧ X4 = 0 := by
              rcases HWR.out with ⟨h, _⟩ | ⟨_, h⟩
              · exact absurd h HON.out
              · exact h
            subst x0 x1 x2 x3 x4
            clear HWR
            refine (told_no OO HON.out _ _ _ _ _ _).mono ?_
            rintro e u17 ⟨rfl, hb⟩
            have HB := hid (HB.out.trans (hb.mono HB.out.size))
            have HXB := hid (blkM HXB.out hb)
            have HIW := hid (blkM HIW.out hb)
            have HIB := hid (blkM HIB.out hb)
            clear hb
            clear HIB HIW
            obtain ⟨xb0, xb1, xb2⟩ := bcells_of HXB.out
            go_wp2_with fail
            refine (HOX.out _ HB.out).mono ?_
            rintro e u18 ⟨⟨tr, cr, rfl, hfo⟩, hb⟩
            have HB := hid (HB.out.trans (hb.mono HB.out.size))
            have HXB := hid (blkM HXB.out hb)
            have HFR := hid hfo.1
            unfold MV
            clear hfo
            clear hb
            go_wp2_with fail
            refine (HROW.out _ _ _ HFR.out).mono ?_
            rintro e u19 ⟨⟨sr, kr, lr, rfl, hls⟩, hb⟩
            have HB := hid (HB.out.trans (hb.mono HB.out.size))
            have HXB := hid (blkM HXB.out hb)
            have HFR := hid (HFR.out.below hb)
            have HLR := hid hls
            clear hls
            clear hb
            by_cases hRW : RW = 0
            · obtain ⟨kr1, hfc⟩ : kr = cx.toNat ∧ FnM u19 sr kr lr (fun t => xs.getD (i.toNat * cx.toNat + t) 0) := by
                rcases HLR.out with ⟨_, h1, h2⟩ | ⟨h1, _⟩
                · exact ⟨h1, h2⟩
                · exact absurd hRW h1
              subst kr1
              have HFC := hid hfc
              clear hfc HLR
              have HRP := hid (HRZ.out hRW)
              have hRe : (RW == 0) = true := by simpa using hRW
              obtain ⟨xb0, xb1, xb2⟩ := bcells_of HXB.out
              go_wp2_with fail
              refine (HOX.out _ HB.out).mono ?_
              rintro e u20 ⟨⟨ty, cy, rfl, hfo⟩, hb⟩
              have HB := hid (HB.out.trans (hb.mono HB.out.size))
              have HXB := hid (blkM HXB.out hb)
              have HFC := hid (HFC.out.below hb)
              have HFZ := hid hfo.1
              unfold MV
              clear hfo
              clear hb
              go_wp2_with fail
              refine (HRP.out _ _ _ HFZ.out).mono ?_
              rintro e u21 ⟨⟨sd, ld, rfl, hfd⟩, hb⟩
              have HB := hid (HB.out.trans (hb.mono HB.out.size))
              have HXB := hid (blkM HXB.out hb)
              have HFC := hid (HFC.out.below hb)
              have HFZ := hid (HFZ.out.below hb)
              have HFD := hid hfd
              clear hfd
              clear hb
              subst hRW
              go_wp2_with fail
              refine (list_yes _ _ _ _ _ _ _ _ HFC.out HFD.out (fun _ _ => rfl)).mono ?_
              rintro e u22 ⟨rfl, hb⟩
              have HB := hid (HB.out.trans (hb.mono HB.out.size))
              have HXB := hid (blkM HXB.out hb)
              have HFC := hid (HFC.out.below hb)
              have HFZ := hid (HFZ.out.below hb)
              have HFD := hid (HFD.out.below hb)
              clear hb
              clear HFC HFD HFZ HRP
              obtain ⟨xb0, xb1, xb2⟩ := bcells_of HXB.out
              go_wp2_with fail
              refine (HOX.out _ HB.out).mono ?_
              rintro e u23 ⟨⟨tk, ck, rfl, hfo⟩, hb⟩
              have HB := hid (HB.out.trans (hb.mono HB.out.size))
              have HXB := hid (blkM HXB.out hb)
              have HFK := hid hfo.1
              unfold MV
              clear hfo
              clear hb
              go_wp2_with fail
              refine (HCOL.out _ _ _ HFK.out).mono ?_
              rintro e u24 ⟨⟨sc, kc, lc, rfl, hls⟩, hb⟩
              have HB := hid (HB.out.trans (hb.mono HB.out.size))
              have HXB := hid (blkM HXB.out hb)
              have HFK := hid (HFK.out.below hb)
              have HLC := hid hls
              clear hls
              clear hb
              by_cases hCL : CL = 0
              · obtain ⟨kc1, hfc⟩ : kc = rx.toNat ∧ FnM u24 sc kc lc (fun t => xs.getD (t * cx.toNat + j.toNat) 0) := by
                  rcases HLC.out with ⟨_, h1, h2⟩ | ⟨h1, _⟩
                  · exact ⟨h1, h2⟩
                  · exact absurd hCL h1
                subst kc1
                have HFC := hid hfc
                clear hfc HLC
                have HCP := hid (HCZ.out hCL)
                have hCe : (CL == 0) = true := by simpa using hCL
                obtain ⟨xb0, xb1, xb2⟩ := bcells_of HXB.out
                go_wp2_with fail
                refine (HOX.out _ HB.out).mono ?_
                rintro e u25 ⟨⟨tz, cz, rfl, hfo⟩, hb⟩
                have HB := hid (HB.out.trans (hb.mono HB.out.size))
                have HXB := hid (blkM HXB.out hb)
                have HFC := hid (HFC.out.below hb)
                have HFZ := hid hfo.1
                unfold MV
                clear hfo
                clear hb
                go_wp2_with fail
                refine (HCP.out _ _ _ HFZ.out).mono ?_
                rintro e u26 ⟨⟨sd, ld, rfl, hfd⟩, hb⟩
                have HB := hid (HB.out.trans (hb.mono HB.out.size))
                have HXB := hid (blkM HXB.out hb)
                have HFC := hid (HFC.out.below hb)
                have HFZ := hid (HFZ.out.below hb)
                have HFD := hid hfd
                clear hfd
                clear hb
                subst hCL
                go_wp2_with fail
                refine (list_yes _ _ _ _ _ _ _ _ HFC.out HFD.out (fun _ _ => rfl)).mono ?_
                rintro e u27 ⟨rfl, hb⟩
                have HB := hid (HB.out.trans (hb.mono HB.out.size))
                have HXB := hid (blkM HXB.out hb)
                have HFC := hid (HFC.out.below hb)
                have HFZ := hid (HFZ.out.below hb)
                have HFD := hid (HFD.out.below hb)
                clear hb
                go_wp2_with fail
                go_ret
                exact ⟨rfl, HB.out⟩
              · obtain ⟨c1, c2, c3⟩ : sc = none ∧ kc = 0 ∧ lc = 0 := by
                  rcases HLC.out with ⟨h1, _⟩ | ⟨_, h2⟩
                  · exact absurd h1 hCL
                  · exact h2
                subst c1 c2 c3
                have hCe : (CL == 0) = false := by simpa using hCL
                have HCN := hid hCL
                clear hCL HLC
                go_wp2_with fail
                refine (list_no CL HCN.out _ _ _ _).mono ?_
                rintro e u25 ⟨rfl, hb⟩
                have HB := hid (HB.out.trans (hb.mono HB.out.size))
                have HXB := hid (blkM HXB.out hb)
                clear hb
                go_wp2_with fail
                go_ret
                exact ⟨rfl, HB.out⟩
            · obtain ⟨c1, c2, c3⟩ : sr = none ∧ kr = 0 ∧ lr = 0 := by
                rcases HLR.out with ⟨h1, _⟩ | ⟨_, h2⟩
                · exact absurd h1 hRW
                · exact h2
              subst c1 c2 c3
              have hRe : (RW == 0) = false := by simpa using hRW
              have HRN := hid hRW
              clear hRW HLR
              go_wp2_with fail
              refine (list_no RW HRN.out _ _ _ _).mono ?_
              rintro e u20 ⟨rfl, hb⟩
              have HB := hid (HB.out.trans (hb.mono HB.out.size))
              have HXB := hid (blkM HXB.out hb)
              clear hb
              obtain ⟨xb0, xb1, xb2⟩ := bcells_of HXB.out
              go_wp2_with fail
              refine (HOX.out _ HB.out).mono ?_
              rintro e u21 ⟨⟨tk, ck, rfl, hfo⟩, hb⟩
              have HB := hid (HB.out.trans (hb.mono HB.out.size))
              have HXB := hid (blkM HXB.out hb)
              have HFK := hid hfo.1
              unfold MV
              clear hfo
              clear hb
              go_wp2_with fail
              refine (HCOL.out _ _ _ HFK.out).mono ?_
              rintro e u22 ⟨⟨sc, kc, lc, rfl, hls⟩, hb⟩
              have HB := hid (HB.out.trans (hb.mono HB.out.size))
              have HXB := hid (blkM HXB.out hb)
              have HFK := hid (HFK.out.below hb)
              have HLC := hid hls
              clear hls
              clear hb
              by_cases hCL : CL = 0
              · obtain ⟨kc1, hfc⟩ : kc = rx.toNat ∧ FnM u22 sc kc lc (fun t => xs.getD (t * cx.toNat + j.toNat) 0) := by
                  rcases HLC.out with ⟨_, h1, h2⟩ | ⟨h1, _⟩
                  · exact ⟨h1, h2⟩
                  · exact absurd hCL h1
                subst kc1
                have HFC := hid hfc
                clear hfc HLC
                have HCP := hid (HCZ.out hCL)
                have hCe : (CL == 0) = true := by simpa using hCL
                obtain ⟨xb0, xb1, xb2⟩ := bcells_of HXB.out
                go_wp2_with fail
                refine (HOX.out _ HB.out).mono ?_
                rintro e u23 ⟨⟨tz, cz, rfl, hfo⟩, hb⟩
                have HB := hid (HB.out.trans (hb.mono HB.out.size))
                have HXB := hid (blkM HXB.out hb)
                have HFC := hid (HFC.out.below hb)
                have HFZ := hid hfo.1
                unfold MV
                clear hfo
                clear hb
                go_wp2_with fail
                refine (HCP.out _ _ _ HFZ.out).mono ?_
                rintro e u24 ⟨⟨sd, ld, rfl, hfd⟩, hb⟩
                have HB := hid (HB.out.trans (hb.mono HB.out.size))
                have HXB := hid (blkM HXB.out hb)
                have HFC := hid (HFC.out.below hb)
                have HFZ := hid (HFZ.out.below hb)
                have HFD := hid hfd
                clear hfd
                clear hb
                subst hCL
                go_wp2_with fail
                refine (list_yes _ _ _ _ _ _ _ _ HFC.out HFD.out (fun _ _ => rfl)).mono ?_
                rintro e u25 ⟨rfl, hb⟩
                have HB := hid (HB.out.trans (hb.mono HB.out.size))
                have HXB := hid (blkM HXB.out hb)
                have HFC := hid (HFC.out.below hb)
                have HFZ := hid (HFZ.out.below hb)
                have HFD := hid (HFD.out.below hb)
                clear hb
                go_wp2_with fail
                go_ret
                exact ⟨rfl, HB.out⟩
              · obtain ⟨c1, c2, c3⟩ : sc = none ∧ kc = 0 ∧ lc = 0 := by
                  rcases HLC.out with ⟨h1, _⟩ | ⟨_, h2⟩
                  · exact absurd h1 hCL
                  · exact h2
                subst c1 c2 c3
                have hCe : (CL == 0) = false := by simpa using hCL
                have HCN := hid hCL
                clear hCL HLC
                go_wp2_with fail
                refine (list_no CL HCN.out _ _ _ _).mono ?_
                rintro e u23 ⟨rfl, hb⟩
                have HB := hid (HB.out.trans (hb.mono HB.out.size))
                have HXB := hid (blkM HXB.out hb)
                clear hb
                go_wp2_with fail
                go_ret
                exact ⟨rfl, HB.out⟩
      · have hvv := HGV.out.1 hN0
        subst hvv
        have hNe : (NN == 0) = false := by simpa using hN0
        have hNn : (NN != 0) = true := by simpa using hN0
        have hNN : (NN != NN) = false := by simp
        have HON : Hid (OO ≠ 0) := fun hc => hN0 (HOZ.out hc)
        clear hN0 HGV
        go_wp2_with fail
        refine (same_zero _).mono ?_
        rintro e ww ⟨rfl, hw⟩
        subst hw
        go_wp2_with fail
        refine (awake8_any _).mono ?_
        rintro e u8 ⟨rfl, hb⟩
        have HB := hid (HB.out.trans (hb.mono HB.out.size))
        have HXB := hid (blkM HXB.out hb)
        clear hb
        obtain ⟨xb0, xb1, xb2⟩ := bcells_of HXB.out
        go_wp2_with fail
        refine (HOX.out _ HB.out).mono ?_
        rintro e u9 ⟨⟨tw, cw, rfl, hfo⟩, hb⟩
        have HB := hid (HB.out.trans (hb.mono HB.out.size))
        have HXB := hid (blkM HXB.out hb)
        have HOW := hid hfo
        unfold MV
        clear hfo
        clear hb
        have hal : Below u9.heap.size u9 (u9.alloc (MBox rx cx tw n cw)) := (Below.refl _ _).alloc (Nat.le_refl _) _
        have HB := hid (HB.out.trans (hal.mono HB.out.size))
        have HXB := hid (blkM HXB.out hal)
        have HOW := hid (HOW.out.below hal)
        have HIW : Hid ((u9.alloc (MBox rx cx tw n cw)).heap[u9.heap.size]? = some (MBox rx cx tw n cw)) := nblkM _ _
        obtain ⟨V10, hV10⟩ : ∃ V, Hid ((u9.alloc (MBox rx cx tw n cw)) = V) := ⟨_, rfl⟩
        rw [hV10.out] at HB HIW HXB HOW
        have hV10' := hV10.out
        unfold MBox at hV10'
        obtain ⟨iw, hiw⟩ : ∃ t, Hid (u9.heap.size = t) := ⟨_, rfl⟩
        rw [hiw.out] at HIW
        have hiw' := hiw.out
        clear hal
        go_upto_region 9 with fail
        go_cut [16] from 20 (fun s16 W => s16 = .int .i64 OO ∧ Hid (Below V10.heap.size V10 W))
        case first =>
          go_wp2_with fail
          cases hfb : finB x with
          | false =>
            rw [hfb, if_neg (by decide)] at HOE
            rw [hfb] at HFB0
            refine (fq_any x _).mono ?_
            rintro e ww ⟨rfl, hw⟩
            subst hw
            go_wp2_with fail
            refine (HFB0.out _).mono ?_
            rintro e ww ⟨rfl, hw⟩
            subst hw
            go_wp2_with fail
            refine (If_yes 4 _).mono ?_
            rintro e ww ⟨rfl, hw⟩
            subst hw
            go_wp2_with fail
            refine (First_two _ NN 4 _ (nblkM _ _)).mono ?_
            rintro e ww ⟨rfl, hw⟩
            subst hw
            go_wp2_with fail
            go_meet
            exact ⟨by rw [HOE.out], hid ((Below.refl _ _).alloc (Nat.le_refl _) _)⟩
          | true =>
            rw [hfb, if_pos rfl] at HOE
            rw [hfb] at HFB0
            refine (fq_any x _).mono ?_
            rintro e ww ⟨rfl, hw⟩
            subst hw
            go_wp2_with fail
            refine (HFB0.out _).mono ?_
            rintro e ww ⟨rfl, hw⟩
            subst hw
            go_wp2_with fail
            refine (If_no 4 _).mono ?_
            rintro e ww ⟨rfl, hw⟩
            subst hw
            go_wp2_with fail
            refine (First_two _ NN 0 _ (nblkM _ _)).mono ?_
            rintro e ww ⟨rfl, hw⟩
            subst hw
            go_wp2_with fail
            go_meet
            exact ⟨by rw [HOE.out], hid ((Below.refl _ _).alloc (Nat.le_refl _) _)⟩
        case rest =>
          obtain ⟨rfl, HBC⟩ := hcut
          have HB := hid (HB.out.trans (HBC.out.mono HB.out.size))
          have HXB := hid (blkM HXB.out HBC.out)
          have HIW := hid (blkM HIW.out HBC.out)
          have HOW := hid (HOW.out.below HBC.out)
          clear HBC
          have hOe : (OO == 0) = false := by simpa using HON.out
          clear HOW
          obtain ⟨xb0, xb1, xb2⟩ := bcells_of HXB.out
          go_wp2_with fail
          refine (HOX.out _ HB.out).mono ?_
          rintro e u12 ⟨⟨tb, cb, rfl, hfo⟩, hb⟩
          have HB := hid (HB.out.trans (hb.mono HB.out.size))
          have HXB := hid (blkM HXB.out hb)
          have HIW := hid (blkM HIW.out hb)
          have HFB := hid hfo.1
          unfold MV
          clear hfo
          clear hb
          go_wp2_with fail
          refine (fq_any x _).mono ?_
          rintro e ww ⟨rfl, hw⟩
          subst hw
          go_wp2_with fail
          refine (HWTH.out _ _ _ HFB.out).mono ?_
          rintro e u13 ⟨⟨X0, X1, X2, X3, X4, rfl, hws⟩, hb⟩
          have HB := hid (HB.out.trans (hb.mono HB.out.size))
          have HXB := hid (blkM HXB.out hb)
          have HIW := hid (blkM HIW.out hb)
          have HFB := hid (HFB.out.below hb)
          have HWR := hid hws
          clear hws
          clear hb
          have hal : Below u13.heap.size u13 (u13.alloc (MBox X0 X1 X2 X3 X4)) := (Below.refl _ _).alloc (Nat.le_refl _) _
          have HB := hid (HB.out.trans (hal.mono HB.out.size))
          have HXB := hid (blkM HXB.out hal)
          have HIW := hid (blkM HIW.out hal)
          have HWR := hid (HWR.out.below hal)
          have HIB : Hid ((u13.alloc (MBox X0 X1 X2 X3 X4)).heap[u13.heap.size]? = some (MBox X0 X1 X2 X3 X4)) := nblkM _ _
          obtain ⟨V14, hV14⟩ : ∃ V, Hid ((u13.alloc (MBox X0 X1 X2 X3 X4)) = V) := ⟨_, rfl⟩
          rw [hV14.out] at HB HIB HXB HIW HWR
          have hV14' := hV14.out
          unfold MBox at hV14'
          obtain ⟨ib, hib⟩ : ∃ t, Hid (u13.heap.size = t) := ⟨_, rfl⟩
          rw [hib.out] at HIB
          have hib' := hib.out
          clear hal
          obtain ⟨c00, c01, c02⟩ := mcells_of HIB.out
          obtain ⟨c10, c11, c12⟩ := mcells_of HIW.out
          go_wp2_with fail
          obtain ⟨x0, x1, x2, x3, x4⟩ : X0 = 0 ∧ X1 = 0 ∧ X2 = none ∧ X3 = 0 ∧ X4 = 0 := by
            rcases HWR.out with ⟨h, _⟩ | ⟨_, h⟩
            · exact absurd h HON.out
            · exact h
          subst x0 x1 x2 x3 x4
          clear HWR
          refine (told_no OO HON.out _ _ _ _ _ _).mono ?_
          rintro e u15 ⟨rfl, hb⟩
          have HB := hid (HB.out.trans (hb.mono HB.out.size))
          have HXB := hid (blkM HXB.out hb)
          have HIW := hid (blkM HIW.out hb)
          have HIB := hid (blkM HIB.out hb)
          clear hb
          clear HIB HIW
          obtain ⟨xb0, xb1, xb2⟩ := bcells_of HXB.out
          go_wp2_with fail
          refine (HOX.out _ HB.out).mono ?_
          rintro e u16 ⟨⟨tr, cr, rfl, hfo⟩, hb⟩
          have HB := hid (HB.out.trans (hb.mono HB.out.size))
          have HXB := hid (blkM HXB.out hb)
          have HFR := hid hfo.1
          unfold MV
          clear hfo
          clear hb
          go_wp2_with fail
          refine (HROW.out _ _ _ HFR.out).mono ?_
          rintro e u17 ⟨⟨sr, kr, lr, rfl, hls⟩, hb⟩
          have HB := hid (HB.out.trans (hb.mono HB.out.size))
          have HXB := hid (blkM HXB.out hb)
          have HFR := hid (HFR.out.below hb)
          have HLR := hid hls
          clear hls
          clear hb
          by_cases hRW : RW = 0
          · obtain ⟨kr1, hfc⟩ : kr = cx.toNat ∧ FnM u17 sr kr lr (fun t => xs.getD (i.toNat * cx.toNat + t) 0) := by
              rcases HLR.out with ⟨_, h1, h2⟩ | ⟨h1, _⟩
              · exact ⟨h1, h2⟩
              · exact absurd hRW h1
            subst kr1
            have HFC := hid hfc
            clear hfc HLR
            have HRP := hid (HRZ.out hRW)
            have hRe : (RW == 0) = true := by simpa using hRW
            obtain ⟨xb0, xb1, xb2⟩ := bcells_of HXB.out
            go_wp2_with fail
            refine (HOX.out _ HB.out).mono ?_
            rintro e u18 ⟨⟨ty, cy, rfl, hfo⟩, hb⟩
            have HB := hid (HB.out.trans (hb.mono HB.out.size))
            have HXB := hid (blkM HXB.out hb)
            have HFC := hid (HFC.out.below hb)
            have HFZ := hid hfo.1
            unfold MV
            clear hfo
            clear hb
            go_wp2_with fail
            refine (HRP.out _ _ _ HFZ.out).mono ?_
            rintro e u19 ⟨⟨sd, ld, rfl, hfd⟩, hb⟩
            have HB := hid (HB.out.trans (hb.mono HB.out.size))
            have HXB := hid (blkM HXB.out hb)
            have HFC := hid (HFC.out.below hb)
            have HFZ := hid (HFZ.out.below hb)
            have HFD := hid hfd
            clear hfd
            clear hb
            subst hRW
            go_wp2_with fail
            refine (list_yes _ _ _ _ _ _ _ _ HFC.out HFD.out (fun _ _ => rfl)).mono ?_
            rintro e u20 ⟨rfl, hb⟩
            have HB := hid (HB.out.trans (hb.mono HB.out.size))
            have HXB := hid (blkM HXB.out hb)
            have HFC := hid (HFC.out.below hb)
            have HFZ := hid (HFZ.out.below hb)
            have HFD := hid (HFD.out.below hb)
            clear hb
            clear HFC HFD HFZ HRP
            obtain ⟨xb0, xb1, xb2⟩ := bcells_of HXB.out
            go_wp2_with fail
            refine (HOX.out _ HB.out).mono ?_
            rintro e u21 ⟨⟨tk, ck, rfl, hfo⟩, hb⟩
            have HB := hid (HB.out.trans (hb.mono HB.out.size))
            have HXB := hid (blkM HXB.out hb)
            have HFK := hid hfo.1
            unfold MV
            clear hfo
            clear hb
            go_wp2_with fail
            refine (HCOL.out _ _ _ HFK.out).mono ?_
            rintro e u22 ⟨⟨sc, kc, lc, rfl, hls⟩, hb⟩
            have HB := hid (HB.out.trans (hb.mono HB.out.size))
            have HXB := hid (blkM HXB.out hb)
            have HFK := hid (HFK.out.below hb)
            have HLC := hid hls
            clear hls
            clear hb
            by_cases hCL : CL = 0
            · obtain ⟨kc1, hfc⟩ : kc = rx.toNat ∧ FnM u22 sc kc lc (fun t => xs.getD (t * cx.toNat + j.toNat) 0) := by
                rcases HLC.out with ⟨_, h1, h2⟩ | ⟨h1, _⟩
                · exact ⟨h1, h2⟩
                · exact absurd hCL h1
              subst kc1
              have HFC := hid hfc
              clear hfc HLC
              have HCP := hid (HCZ.out hCL)
              have hCe : (CL == 0) = true := by simpa using hCL
              obtain ⟨xb0, xb1, xb2⟩ := bcells_of HXB.out
              go_wp2_with fail
              refine (HOX.out _ HB.out).mono ?_
              rintro e u23 ⟨⟨tz, cz, rfl, hfo⟩, hb⟩
              have HB := hid (HB.out.trans (hb.mono HB.out.size))
              have HXB := hid (blkM HXB.out hb)
              have HFC := hid (HFC.out.below hb)
              have HFZ := hid hfo.1
              unfold MV
              clear hfo
              clear hb
              go_wp2_with fail
              refine (HCP.out _ _ _ HFZ.out).mono ?_
              rintro e u24 ⟨⟨sd, ld, rfl, hfd⟩, hb⟩
              have HB := hid (HB.out.trans (hb.mono HB.out.size))
              have HXB := hid (blkM HXB.out hb)
              have HFC := hid (HFC.out.below hb)
              have HFZ := hid (HFZ.out.below hb)
              have HFD := hid hfd
              clear hfd
              clear hb
              subst hCL
              go_wp2_with fail
              refine (list_yes _ _ _ _ _ _ _ _ HFC.out HFD.out (fun _ _ => rfl)).mono ?_
              rintro e u25 ⟨rfl, hb⟩
              have HB := hid (HB.out.trans (hb.mono HB.out.size))
              have HXB := hid (blkM HXB.out hb)
              have HFC := hid (HFC.out.below hb)
              have HFZ := hid (HFZ.out.below hb)
              have HFD := hid (HFD.out.below hb)
              clear hb
              go_wp2_with fail
              go_ret
              exact ⟨rfl, HB.out⟩
            · obtain ⟨c1, c2, c3⟩ : sc = none ∧ kc = 0 ∧ lc = 0 := by
                rcases HLC.out with ⟨h1, _⟩ | ⟨_, h2⟩
                · exact absurd h1 hCL
                · exact h2
              subst c1 c2 c3
              have hCe : (CL == 0) = false := by simpa using hCL
              have HCN := hid hCL
              clear hCL HLC
              go_wp2_with fail
              refine (list_no CL HCN.out _ _ _ _).mono ?_
              rintro e u23 ⟨rfl, hb⟩
              have HB := hid (HB.out.trans (hb.mono HB.out.size))
              have HXB := hid (blkM HXB.out hb)
              clear hb
              go_wp2_with fail
              go_ret
              exact ⟨rfl, HB.out⟩
          · obtain ⟨c1, c2, c3⟩ : sr = none ∧ kr = 0 ∧ lr = 0 := by
              rcases HLR.out with ⟨h1, _⟩ | ⟨_, h2⟩
              · exact absurd h1 hRW
              · exact h2
            subst c1 c2 c3
            have hRe : (RW == 0) = false := by simpa using hRW
            have HRN := hid hRW
            clear hRW HLR
            go_wp2_with fail
            refine (list_no RW HRN.out _ _ _ _).mono ?_
            rintro e u18 ⟨rfl, hb⟩
            have HB := hid (HB.out.trans (hb.mono HB.out.size))
            have HXB := hid (blkM HXB.out hb)
            clear hb
            obtain ⟨xb0, xb1, xb2⟩ := bcells_of HXB.out
            go_wp2_with fail
            refine (HOX.out _ HB.out).mono ?_
            rintro e u19 ⟨⟨tk, ck, rfl, hfo⟩, hb⟩
            have HB := hid (HB.out.trans (hb.mono HB.out.size))
            have HXB := hid (blkM HXB.out hb)
            have HFK := hid hfo.1
            unfold MV
            clear hfo
            clear hb
            go_wp2_with fail
            refine (HCOL.out _ _ _ HFK.out).mono ?_
            rintro e u20 ⟨⟨sc, kc, lc, rfl, hls⟩, hb⟩
            have HB := hid (HB.out.trans (hb.mono HB.out.size))
            have HXB := hid (blkM HXB.out hb)
            have HFK := hid (HFK.out.below hb)
            have HLC := hid hls
            clear hls
            clear hb
            by_cases hCL : CL = 0
            · obtain ⟨kc1, hfc⟩ : kc = rx.toNat ∧ FnM u20 sc kc lc (fun t => xs.getD (t * cx.toNat + j.toNat) 0) := by
                rcases HLC.out with ⟨_, h1, h2⟩ | ⟨h1, _⟩
                · exact ⟨h1, h2⟩
                · exact absurd hCL h1
              subst kc1
              have HFC := hid hfc
              clear hfc HLC
              have HCP := hid (HCZ.out hCL)
              have hCe : (CL == 0) = true := by simpa using hCL
              obtain ⟨xb0, xb1, xb2⟩ := bcells_of HXB.out
              go_wp2_with fail
              refine (HOX.out _ HB.out).mono ?_
              rintro e u21 ⟨⟨tz, cz, rfl, hfo⟩, hb⟩
              have HB := hid (HB.out.trans (hb.mono HB.out.size))
              have HXB := hid (blkM HXB.out hb)
              have HFC := hid (HFC.out.below hb)
              have HFZ := hid hfo.1
              unfold MV
              clear hfo
              clear hb
              go_wp2_with fail
              refine (HCP.out _ _ _ HFZ.out).mono ?_
              rintro e u22 ⟨⟨sd, ld, rfl, hfd⟩, hb⟩
              have HB := hid (HB.out.trans (hb.mono HB.out.size))
              have HXB := hid (blkM HXB.out hb)
              have HFC := hid (HFC.out.below hb)
              have HFZ := hid (HFZ.out.below hb)
              have HFD := hid hfd
              clear hfd
              clear hb
              subst hCL
              go_wp2_with fail
              refine (list_yes _ _ _ _ _ _ _ _ HFC.out HFD.out (fun _ _ => rfl)).mono ?_
              rintro e u23 ⟨rfl, hb⟩
              have HB := hid (HB.out.trans (hb.mono HB.out.size))
              have HXB := hid (blkM HXB.out hb)
              have HFC := hid (HFC.out.below hb)
              have HFZ := hid (HFZ.out.below hb)
              have HFD := hid (HFD.out.below hb)
              clear hb
              go_wp2_with fail
              go_ret
              exact ⟨rfl, HB.out⟩
            · obtain ⟨c1, c2, c3⟩ : sc = none ∧ kc = 0 ∧ lc = 0 := by
                rcases HLC.out with ⟨h1, _⟩ | ⟨_, h2⟩
                · exact absurd h1 hCL
                · exact h2
              subst c1 c2 c3
              have hCe : (CL == 0) = false := by simpa using hCL
              have HCN := hid hCL
              clear hCL HLC
              go_wp2_with fail
              refine (list_no CL HCN.out _ _ _ _).mono ?_
              rintro e u21 ⟨rfl, hb⟩
              have HB := hid (HB.out.trans (hb.mono HB.out.size))
              have HXB := hid (blkM HXB.out hb)
              clear hb
              go_wp2_with fail
              go_ret
              exact ⟨rfl, HB.out⟩
end Go.Proofs.Ytfkpdjieiifldaa
