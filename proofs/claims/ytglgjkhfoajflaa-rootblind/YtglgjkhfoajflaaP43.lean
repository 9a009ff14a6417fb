
/- root.Update of any root: refused as Check says; with a row that may be as updated says. (Written by mkrtg.py.) -/
import Derived.Test.YtglgjkhfoajflaaP42
namespace Go.Proofs.Ytglgjkhfoajflaa
open Go.RowKit Go.IntWalk

set_option maxRecDepth 8000 in
set_option maxHeartbeats 4000000 in
theorem Update_bad (xa : Option Addr) (k kx : Nat) (zs : List Nat) (r c : Int) (sa : Option Addr) (m ka : Nat) (xs : List Nat) (ha : Option Addr) (q kh x z : Nat) (w : World) (hX : FlM w xa k kx zs) (hk : k ≤ 17592186043904) (hA : FlM w sa m ka xs) (hm : m ≤ 17592186043904) (hb : rootE zs k r c m xs ≠ 0) :
    Calls Try.prog 13 #[.agg #[.slice xa k kx, .int .i64 r, .int .i64 c, .slice sa m ka], .slice ha q kh, .float .f64 x, .float .f64 z] w fun e w' => e = .returned (.tuple #[.agg #[.slice none 0 0, .int .i64 0, .int .i64 0, .slice none 0 0], .agg #[.float .f64 0, .float .f64 0, .float .f64 0, .slice none 0 0], .int .i64 (rootE zs k r c m xs)]) ∧ Below w.heap.size w w' := by
  have HC := hid (fun W (hW : Below w.heap.size w W) => rcheck_any xa k kx zs r c sa m ka xs W (hX.below hW) hk (hA.below hW) hm)
  obtain ⟨E, hE⟩ : ∃ t, Hid (rootE zs k r c m xs = t) := ⟨_, rfl⟩
  rw [hE.out] at HC hb ⊢
  have hne : (E != 0) = true := by simpa using hb
  unfold RV at HC
  obtain ⟨t1, t2, t3, t4, t5⟩ := three_b w (RBox xa k kx r c sa m ka) (RBox none 0 0 0 0 none 0 0) (StBox 0 0 0 none 0 0)
  obtain ⟨V, hV⟩ : ∃ t, Hid (((w.alloc (RBox xa k kx r c sa m ka)).alloc (RBox none 0 0 0 0 none 0 0)).alloc (StBox 0 0 0 none 0 0) = t) := ⟨_, rfl⟩
  rw [hV.out] at t1 t2 t3 t4 t5
  have hV' := hV.out
  unfold RBox StBox at hV'
  obtain ⟨p0, hp0⟩ : ∃ t, Hid (w.heap.size = t) := ⟨_, rfl⟩
  obtain ⟨p1, hp1⟩ : ∃ t, Hid (p0 + 1 = t) := ⟨_, rfl⟩
  obtain ⟨p2, hp2⟩ : ∃ t, Hid (p1 + 1 = t) := ⟨_, rfl⟩
  rw [hp0.out] at t1 t2 t3
  rw [hp1.out] at t2 t3
  rw [hp2.out] at t3
  have e0 := hp0.out
  have e1 := hp1.out
  have e2 := hp2.out
  have HT := hid (And.intro t1 (And.intro t2 (And.intro t3 t4)))
  have HPW : Hid (w.heap.size ≤ p1 ∧ w.heap.size ≤ p2 ∧ p1 < V.heap.size ∧ p2 < V.heap.size ∧ w.heap.size ≤ V.heap.size) := by show _ ∧ _ ∧ _ ∧ _ ∧ _; rw [t5]; omega
  have hst := fstoreM
  have HREF := hid (fun E W => refRow_any E W)
  obtain ⟨x0, x1, x2, x3⟩ := rcells_of t1
  clear t1 t2 t3 t4 t5
  clear hX hA hk hm hb
  go_enter Try.func13, Try.ntmps13
  go_wp2_with fail
  refine (HC.out V HT.out.2.2.2).mono ?_
  rintro e w1 ⟨rfl, hb1⟩
  have HB1 := hid hb1
  clear hb1
  go_wp2_with fail
  refine (HREF.out E _).mono ?_
  rintro e w2 ⟨rfl, hb2⟩
  have HB2 := hid (HB1.out.trans (hb2.mono HB1.out.size))
  clear hb2
  obtain ⟨c0, c1, c2, c3⟩ := rcells_of (blkM HT.out.2.1 HB2.out)
  obtain ⟨d0, d1, d2, d3⟩ := scells_of (blkM HT.out.2.2.1 HB2.out)
  have fz1 := rfrz (blkM HT.out.2.1 HB2.out)
  have fz2 := sfrz (blkM HT.out.2.2.1 HB2.out)
  go_wp2_with fail
  refine bodyPost_ret (v := .tuple #[.agg #[.slice none 0 0, .int .i64 0, .int .i64 0, .slice none 0 0], .agg #[.float .f64 0, .float .f64 0, .float .f64 0, .slice none 0 0], .int .i64 E]) (by simp [results, Try.results13, go_sem, c0, c1, c2, c3, d0, d1, d2, d3]) rfl ⟨rfl, ?_⟩
  first | exact ssto_below (rsto_below (HT.out.2.2.2.trans (HB2.out.mono HPW.out.2.2.2.2)) HPW.out.1 _ _ _ _) HPW.out.2.1 _ _ _ _ | (rw [← hp0.out]; exact ssto_below (rsto_below (HT.out.2.2.2.trans (HB2.out.mono HPW.out.2.2.2.2)) HPW.out.1 _ _ _ _) HPW.out.2.1 _ _ _ _) | (have hh := ssto_below (rsto_below (HT.out.2.2.2.trans (HB2.out.mono HPW.out.2.2.2.2)) HPW.out.1 (.int .i64 0) (.int .i64 0) (.int .i64 0) (.int .i64 0)) HPW.out.2.1 (.int .i64 0) (.int .i64 0) (.int .i64 0) (.int .i64 0); rw [hp0.out] at hh; exact ssto_below (rsto_below (hp0.out ▸ (HT.out.2.2.2.trans (HB2.out.mono HPW.out.2.2.2.2))) (hp0.out ▸ HPW.out.1) _ _ _ _) (hp0.out ▸ HPW.out.2.1) _ _ _ _)
set_option maxRecDepth 8000 in
set_option maxHeartbeats 4000000 in
theorem Update_fine (n m ka kx kh x z : Nat) (xa sa ha : Option Addr) (zs hs xs : List Nat) (w : World) (hX : FlM w xa n kx zs) (hA : FlM w sa m ka xs) (hH : FlM w ha n kh hs) (hm : m ≤ 144 ∧ n ≤ 12) (hb : rootE zs n n n m xs = 0) (hx : x < 18446744073709551616) (fx : finM [x] = true) (hp1 : (FloatKind.f64.format.order x 0 == some .lt) = false) (hp2 : (FloatKind.f64.format.order x 0 == some .eq) = false) (hp : x ≤ 9218868437227405312) (hz : z < 18446744073709551616) (fzz : finM [z] = true) (fh : finM hs = true) :
    Calls Try.prog 13 #[.agg #[.slice xa n kx, .int .i64 n, .int .i64 n, .slice sa m ka], .slice ha n kh, .float .f64 x, .float .f64 z] w fun e w' => UpR (updE (fun j => xs.getD j 0) hs zs n x z) (fun j => xs.getD j 0) hs zs n x z w.heap.size w' e ∧ Below w.heap.size w w' := by
  have HC := hid (fun W (hW : Below w.heap.size w W) => rcheck_any xa n kx zs n n sa m ka xs W (hX.below hW) (by omega) (hA.below hW) (by omega))
  rw [hb] at HC
  unfold RV at HC
  obtain ⟨_, _, hc1, hc2, _, _⟩ := rootE_zero hb
  have HUP := hid (fun W (hW : Below w.heap.size w W) => updated_fine n m ka kx kh x z xa sa ha zs hs (fun j => xs.getD j 0) W (hX.below hW) (gd_own_r (hA.below hW) hc1) (hH.below hW) hx fx hp1 hp2 hp hz fzz hc2 fh)
  clear hc1 hc2
  obtain ⟨t1, t2, t3, t4, t5⟩ := three_b w (RBox xa n kx n n sa m ka) (RBox none 0 0 0 0 none 0 0) (StBox 0 0 0 none 0 0)
  obtain ⟨V, hV⟩ : ∃ t, Hid (((w.alloc (RBox xa n kx n n sa m ka)).alloc (RBox none 0 0 0 0 none 0 0)).alloc (StBox 0 0 0 none 0 0) = t) := ⟨_, rfl⟩
  rw [hV.out] at t1 t2 t3 t4 t5
  have hV' := hV.out
  unfold RBox StBox at hV'
  obtain ⟨p0, hp0⟩ : ∃ t, Hid (w.heap.size = t) := ⟨_, rfl⟩
  obtain ⟨p1, hq1⟩ : ∃ t, Hid (p0 + 1 = t) := ⟨_, rfl⟩
  obtain ⟨p2, hq2⟩ : ∃ t, Hid (p1 + 1 = t) := ⟨_, rfl⟩
  rw [hp0.out] at t1 t2 t3
  rw [hq1.out] at t2 t3
  rw [hq2.out] at t3
  have e0 := hp0.out
  have e1 := hq1.out
  have e2 := hq2.out
  have HT := hid (And.intro t1 (And.intro t2 (And.intro t3 t4)))
  have HPW : Hid (w.heap.size ≤ p1 ∧ w.heap.size ≤ p2 ∧ p1 < V.heap.size ∧ p2 < V.heap.size ∧ w.heap.size ≤ V.heap.size) := by show _ ∧ _ ∧ _ ∧ _ ∧ _; rw [t5]; omega
  have hst := fstoreM
  have HREF := hid (fun E W => refRow_any E W)
  obtain ⟨x0, x1, x2, x3⟩ := rcells_of t1
  clear t1 t2 t3 t4 t5
  clear hX hA hm hb hH hx fx hp hz fzz fh hp1 hp2
  go_enter Try.func13, Try.ntmps13
  go_wp2_with fail
  refine (HC.out V HT.out.2.2.2).mono ?_
  rintro e w1 ⟨rfl, hb1⟩
  have HB1 := hid hb1
  obtain ⟨x0, x1, x2, x3⟩ := rcells_of (blkM HT.out.1 hb1)
  clear hb1
  go_wp2_with fail
  refine (HUP.out w1 (HT.out.2.2.2.trans (HB1.out.mono HPW.out.2.2.2.2))).mono ?_
  rintro e w2 ⟨hU, hb2⟩
  have HB2 := hid (HB1.out.trans (hb2.mono HB1.out.size))
  have HS1 := hid HB1.out.size
  clear hb2
  rcases hU with ⟨hE0, gx, gl, gg, Y, A, S, xo, lo, go, rfl, b1, b2, b3, hx1, hl1, hg1, k1, k2, k3, k4, k5, k6⟩ | ⟨hE0, rfl⟩
  · obtain ⟨c0, c1, c2, c3⟩ := rcells_of (blkM HT.out.2.1 HB2.out)
    obtain ⟨d0, d1, d2, d3⟩ := scells_of (blkM HT.out.2.2.1 HB2.out)
    have fz1 := rfrz (blkM HT.out.2.1 HB2.out)
    have fz2 := sfrz (blkM HT.out.2.2.1 HB2.out)
    have HKK := hid (And.intro k1 (And.intro k2 (And.intro k3 (And.intro k4 (And.intro k5 k6)))))
    have HXF := hid (And.intro hx1 (And.intro hl1 hg1))
    have HBB := hid (And.intro b1 (And.intro b2 b3))
    have HE0 := hid hE0
    clear k1 k2 k3 k4 k5 k6 hx1 hl1 hg1 b1 b2 b3 hE0
    go_wp2_with fail
    refine bodyPost_ret (v := .tuple #[.agg #[.slice (some ⟨gx, 0, none⟩) n n, .int .i64 n, .int .i64 n, .slice (some ⟨gl, 0, none⟩) (n * n) (n * n)], .agg #[.float .f64 Y, .float .f64 A, .float .f64 S, .slice (some ⟨gg, 0, none⟩) n n], .int .i64 0]) (by simp [results, Try.results13, go_sem, c0, c1, c2, c3, d0, d1, d2, d3]) rfl ⟨?_, ?_⟩
    · obtain ⟨k1, k2, k3, k4, k5, k6⟩ := HKK.out
      refine Or.inl ⟨HE0.out, gx, gl, gg, Y, A, S, xo, lo, go, rfl, ?_, ?_, ?_, ?_, ?_, ?_, k1, k2, k3, k4, k5, k6⟩
      · have := HBB.out.1; have := HS1.out; have := HPW.out.2.2.2.2; omega
      · have := HBB.out.2.1; have := HS1.out; have := HPW.out.2.2.2.2; omega
      · have := HBB.out.2.2; have := HS1.out; have := HPW.out.2.2.2.2; omega
      · exact (HXF.out.1.rsto (by have := HBB.out.1; have := HS1.out; have := HPW.out.2.2.1; omega) _ _ _ _).rsto (by have := HBB.out.1; have := HS1.out; have := HPW.out.2.2.2.1; omega) _ _ _ _
      · exact (HXF.out.2.1.rsto (by have := HBB.out.2.1; have := HS1.out; have := HPW.out.2.2.1; omega) _ _ _ _).rsto (by have := HBB.out.2.1; have := HS1.out; have := HPW.out.2.2.2.1; omega) _ _ _ _
      · exact (HXF.out.2.2.rsto (by have := HBB.out.2.2; have := HS1.out; have := HPW.out.2.2.1; omega) _ _ _ _).rsto (by have := HBB.out.2.2; have := HS1.out; have := HPW.out.2.2.2.1; omega) _ _ _ _
    · first | exact ssto_below (rsto_below (HT.out.2.2.2.trans (HB2.out.mono HPW.out.2.2.2.2)) HPW.out.1 _ _ _ _) HPW.out.2.1 _ _ _ _ | (rw [← hp0.out]; exact ssto_below (rsto_below (HT.out.2.2.2.trans (HB2.out.mono HPW.out.2.2.2.2)) HPW.out.1 _ _ _ _) HPW.out.2.1 _ _ _ _) | (have hh := ssto_below (rsto_below (HT.out.2.2.2.trans (HB2.out.mono HPW.out.2.2.2.2)) HPW.out.1 (.int .i64 0) (.int .i64 0) (.int .i64 0) (.int .i64 0)) HPW.out.2.1 (.int .i64 0) (.int .i64 0) (.int .i64 0) (.int .i64 0); rw [hp0.out] at hh; exact ssto_below (rsto_below (hp0.out ▸ (HT.out.2.2.2.trans (HB2.out.mono HPW.out.2.2.2.2))) (hp0.out ▸ HPW.out.1) _ _ _ _) (hp0.out ▸ HPW.out.2.1) _ _ _ _)
  · obtain ⟨c0, c1, c2, c3⟩ := rcells_of (blkM HT.out.2.1 HB2.out)
    obtain ⟨d0, d1, d2, d3⟩ := scells_of (blkM HT.out.2.2.1 HB2.out)
    have fz1 := rfrz (blkM HT.out.2.1 HB2.out)
    have fz2 := sfrz (blkM HT.out.2.2.1 HB2.out)
    have HE0 := hid hE0
    obtain ⟨E, hE⟩ : ∃ t, Hid (updE (fun j => xs.getD j 0) hs zs n x z = t) := ⟨_, rfl⟩
    rw [hE.out] at HE0 ⊢
    clear hE0
    go_wp2_with fail
    refine bodyPost_ret (v := .tuple #[.agg #[.slice none 0 0, .int .i64 0, .int .i64 0, .slice none 0 0], .agg #[.float .f64 0, .float .f64 0, .float .f64 0, .slice none 0 0], .int .i64 E]) (by simp [results, Try.results13, go_sem, c0, c1, c2, c3, d0, d1, d2, d3]) rfl ⟨?_, ?_⟩
    · rw [hE.out]; exact Or.inr ⟨HE0.out, rfl⟩
    · first | exact ssto_below (rsto_below (HT.out.2.2.2.trans (HB2.out.mono HPW.out.2.2.2.2)) HPW.out.1 _ _ _ _) HPW.out.2.1 _ _ _ _ | (rw [← hp0.out]; exact ssto_below (rsto_below (HT.out.2.2.2.trans (HB2.out.mono HPW.out.2.2.2.2)) HPW.out.1 _ _ _ _) HPW.out.2.1 _ _ _ _) | (have hh := ssto_below (rsto_below (HT.out.2.2.2.trans (HB2.out.mono HPW.out.2.2.2.2)) HPW.out.1 (.int .i64 0) (.int .i64 0) (.int .i64 0) (.int .i64 0)) HPW.out.2.1 (.int .i64 0) (.int .i64 0) (.int .i64 0) (.int .i64 0); rw [hp0.out] at hh; exact ssto_below (rsto_below (hp0.out ▸ (HT.out.2.2.2.trans (HB2.out.mono HPW.out.2.2.2.2))) (hp0.out ▸ HPW.out.1) _ _ _ _) (hp0.out ▸ HPW.out.2.1) _ _ _ _)
end Go.Proofs.Ytglgjkhfoajflaa
