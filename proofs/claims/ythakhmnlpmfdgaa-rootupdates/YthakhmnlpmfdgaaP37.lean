
/- root.Update of any root: refused as Check says; with a row that may be as updated says. (Written by mkrtg.py.) -/
import Derived.Test.YthakhmnlpmfdgaaP36
namespace Go.Proofs.Ythakhmnlpmfdgaa
open Go.RowKit Go.IntWalk

set_option maxRecDepth 8000 in
set_option maxHeartbeats 4000000 in
theorem Update_bad (xa : Option Addr) (k kx : Nat) (zs : List Nat) (r c : Int) (sa : Option Addr) (m ka : Nat) (xs : List Nat) (ha : Option Addr) (q kh x z : Nat) (w : World) (hX : FlM w xa k kx zs) (hk : k ≤ 17592186043904) (hA : FlM w sa m ka xs) (hm : m ≤ 17592186043904) (hb : rootE zs k r c m xs ≠ 0) :
    Calls Try.prog 12 #[.agg #[.slice xa k kx, .int .i64 r, .int .i64 c, .slice sa m ka], .slice ha q kh, .float .f64 x, .float .f64 z] w fun e w' => e = .returned (.tuple #[.agg #[.slice none 0 0, .int .i64 0, .int .i64 0, .slice none 0 0], .agg #[.float .f64 0, .float .f64 0, .float .f64 0, .slice none 0 0], .int .i64 (rootE zs k r c m xs)]) ∧ Below w.heap.size w w' := by
  have HC := hid (fun W (hW : Below w.heap.size w W) => rcheck_any xa k kx zs r c sa m ka xs W (hX.below hW) hk (hA.below hW) hm)
  obtain ⟨E, hE⟩ : ∃ t, Hid (rootE zs k r c m xs = t) := ⟨_, rfl⟩
  rw [hE.out] at HC hb ⊢
  have hne : (E != 0) = true := by simpa using hb
  unfold RV at HC
  obtain ⟨t1, t2, t3, t4, t5⟩ := three_b w (RBox xa k kx r c sa m ka) (RBox none 0 0 0 0 none 0 0) (StBox 0 0 0 none 0 0)
  obtain ⟨V, hV⟩ : ∃ t, Hid (((w.alloc (RBox xa k kx r c sa m ka)).alloc (RBox none 0 0 0 0 none 0 0)).alloc (StBox 0 0 0 none 0 0) = t) := ⟨_, rfl⟩
  rw [hV.out] at t1 t2 t3 t4 t5
  have hV' := hV.out
  unfold RBox StBox at hV'
  obtain ⟨p0, hp0⟩ : ∃ t, Hid (w.heap.size = t) := ⟨_, rfl⟩
  obtain ⟨p1, hp1⟩ : ∃ t, Hid (p0 + 1 = t) := ⟨_, rfl⟩
  obtain ⟨p2, hp2⟩ : ∃ t, Hid (p1 + 1 = t) := ⟨_, rfl⟩
  rw [hp0.out] at t1 t2 t3
  rw [hp1.out] at t2 t3
  rw [hp2.out] at t3
  have e0 := hp0.out
  have e1 := hp1.out
  have e2 := hp2.out
  have HT := hid (And.intro t1 (And.intro t2 (And.intro t3 t4)))
  have HPW : Hid (w.heap.size ≤ p1 ∧ w.heap.size ≤ p2 ∧ p1 < V.heap.size ∧ p2 < V.heap.size ∧ w.heap.size ≤ V.heap.size) := by show _ ∧ _ ∧ _ ∧ _ ∧ _; rw [t5]; omega
  have hst := fstoreM
  have HREF := hid (fun E W => refRow_any E W)
  obtain ⟨x0, x1, x2, x3⟩ := rcells_of t1
  clear t1 t2 t3 t4 t5
  clear hX hA hk hm hb
  go_enter Try.func12, Try.ntmps12
  go_wp2_with fail
  refine (HC.out V HT.out.2.2.2).mono ?_
  rintro e w1 ⟨rfl, hb1⟩
  have HB1 := hid hb1
  clear hb1
  go_wp2_with fail
  refine (HREF.out E _).mono ?_
  rintro e w2 ⟨rfl, hb2⟩
  have HB2 := hid (HB1.out.trans (hb2.mono HB1.out.size))
  clear hb2
  obtain ⟨c0, c1, c2, c3⟩ := rcells_of (blkM HT.out.2.1 HB2.out)
  obtain ⟨d0, d1, d2, d3⟩ := scells_of (blkM HT.out.2.2.1 HB2.out)
  have fz1 := rfrz (blkM HT.out.2.1 HB2.out)
  have fz2 := sfrz (blkM HT.out.2.2.1 HB2.out)
  go_wp2_with fail
  refine bodyPost_ret (v := .tuple #[.agg #[.slice none 0 0, .int .i64 0, .int .i64 0, .slice none 0 0], .agg #[.float .f64 0, .float .f64 0, .float .f64 0, .slice none 0 0], .int .i64 E]) (by simp [results, Try.results12, go_sem, c0, c1, c2, c3, d0, d1, d2, d3]) rfl ⟨rfl, ?_⟩
  first | exact ssto_below (rsto_below (HT.out.2.2.2.trans (HB2.out.mono HPW.out.2.2.2.2)) HPW.out.1 _ _ _ _) HPW.out.2.1 _ _ _ _ | (rw [← hp0.out]; exact ssto_below (rsto_below (HT.out.2.2.2.trans (HB2.out.mono HPW.out.2.2.2.2)) HPW.out.1 _ _ _ _) HPW.out.2.1 _ _ _ _) | (have hh := ssto_below (rsto_below (HT.out.2.2.2.trans (HB2.out.mono HPW.out.2.2.2.2)) HPW.out.1 (.int .i64 0) (.int .i64 0) (.int .i64 0) (.int .i64 0)) HPW.out.2.1 (.int .i64 0) (.int .i64 0) (.int .i64 0) (.int .i64 0); rw [hp0.out] at hh; exact ssto_below (rsto_below (hp0.out ▸ (HT.out.2.2.2.trans (HB2.out.mono HPW.out.2.2.2.2))) (hp0.out ▸ HPW.out.1) _ _ _ _) (hp0.out ▸ HPW.out.2.1) _ _ _ _)
set_option maxRecDepth 8000 in
set_option maxHeartbeats 4000000 in
theorem Update_fine (n m ka kx kh x z : Nat) (xa sa ha : Option Addr) (zs hs xs : List Nat) (w : World) (hX : FlM w xa n kx zs) (hA : FlM w sa m ka xs) (hH : FlM w ha n kh hs) (hm : m ≤ 144 ∧ n ≤ 12) (hb : rootE zs n n n m xs = 0) (hx : x < 18446744073709551616) (fx : finM [x] = true) (hp1 : (FloatKind.f64.format.order x 0 == some .lt) = false) (hp2 : (FloatKind.f64.format.order x 0 == some .eq) = false) (hp : x ≤ 9218868437227405312) (hz : z < 18446744073709551616) (fzz : finM [z] = true) (fh : finM hs = true) :
    Calls Try.prog 12 #[.agg #[.slice xa n kx, .int .i64 n, .int .i64 n, .slice sa m ka], .slice ha n kh, .float .f64 x, .float .f64 z] w fun e w' => UpR (updE (fun j => xs.getD j 0) hs zs n x z) (fun j => xs.getD j 0) hs zs n x z w.heap.size w' e ∧ Below w.heap.size w w' := by
  have HC := hid (fun W (hW : Below w.heap.size w W) => rcheck_any xa n kx zs n n sa m ka xs W (hX.below hW) (by omega) (hA.below hW) (by omega))
  rw [hb] at HC
  unfold RV at HC
  obtain ⟨_, _, hc1, hc2, _, _⟩ := rootE_zero hb
  have HUP := hid (fun W (hW : Below w.heap.size w W) => updated_fine n m ka kx kh x z xa sa ha zs hs (fun j => xs.getD j 0) W (hX.below hW) (gd_own_r (hA.below hW) hc1) (hH.below hW) hx fx hp1 hp2 hp hz fzz hc2 fh)
  clear hc1 hc2
  obtain ⟨t1, t2, t3, t4, t5⟩ := three_b w (RBox xa n kx n n sa m ka) (RBox none 0 0 0 0 none 0 0) (StBox 0 0 0 none 0 0)
  obtain ⟨V, hV⟩ : ∃ t, Hid (((w.alloc (RBox xa n kx n n sa m ka)).alloc (RBox none 0 0 0 0 none 0 0)).alloc (StBox 0 0 0 none 0 0) = t) := ⟨_, rfl⟩
  rw [hV.out] at t1 t2 t3 t4 t5
  have hV' := hV.out
  unfold RBox StBox at hV'
  obtain ⟨p0, hp0⟩ : ∃ t, Hid (w.heap.size = t) := ⟨_, rfl⟩
  obtain ⟨p1, hq1⟩ : ∃ t, Hid (p0 + 1 = t) := ⟨_, rfl⟩
  obtain ⟨p2, hq2⟩ : ∃ t, Hid (p1 + 1 = t) := ⟨_, rfl⟩
  rw [hp0.out] at t1 t2 t3
  rw [hq1.out] at t2 t3
  rw [hq2.out] at t3
  have e0 := hp0.out
  have e1 := hq1.out
  have e2 := hq2.out
  have HT := hid (And.intro t1 (And.intro t2 (And.intro t3 t4)))
  have HPW : Hid (w.heap.size ≤ p1 ∧ w.heap.size ≤ p2 ∧ p1 < V.heap.size ∧ p2 < V.heap.size ∧ w.heap.size ≤ V.heap.size) := by show _ ∧ _ ∧ _ ∧ _ ∧ _; rw [t5]; omega
  have hst := fstoreM
  have HREF := hid (fun E W => refRow_any E W)
  obtain ⟨x0, x1, x2, x3⟩ := rcells_of t1
  clear t1 t2 t3 t4 t5
  clear hX hA hm hb hH hx fx hp hz fzz fh hp1 hp2
  go_enter Try.func12, Try.ntmps12
  go_wp2_with fail
  refine (HC.out V HT.out.2.2.2).mono ?_
  rintro e w1 ⟨rfl, hb1⟩
  have HB1 := hid hb1
  obtain ⟨x0, x1, x2, x3⟩ := rcells_of (blkM HT.out.1 hb1)
  clear hb1
  go_wp2_with fail
  refine (HUP.out w1 (HT.out.2.2.2.trans (HB1.out.mono HPW.out.2.2.2.2))).mono ?_
  rintro e w2 ⟨hU, hb2⟩
  have HB2 := hid (HB1.out.trans (hb2.mono HB1.out.size))
  have HS1 := hid HB1.out.size
  clear hb2
  rcases hU with ⟨hE0, gx, gl, gg, Y, A, S, xo, lo, go, rfl, b1, b2, b3, hx1, hl1, hg1, k1, k2, k3, k4, k5, k6⟩ | ⟨hE0, rfl⟩
  · obtain ⟨c0, c1, c2, c3⟩ := rcells_of (blkM HT.out.2.1 HB2.out)
    obtain ⟨d0, d1, d2, d3⟩ := scells_of (blkM HT.out.2.2.1 HB2.out)
    have fz1 := rfrz (blkM HT.out.2.1 HB2.out)
    have fz2 := sfrz (blkM HT.out.2.2.1 HB2.out)
    have HKK := hid (And.intro k1 (And.intro k2 (And.intro k3 (And.intro k4 (And.intro k5 k6)))))
    have HXF := hid (And.intro hx1 (And.intro hl1 hg1))
    have HBB := hid (And.intro b1 (And.intro b2 b3))
    have HE0 := hid hE0
    clear k1 k2 k3 k4 k5 k6 hx1 hl1 hg1 b1 b2 b3 hE0
    go_wp2_with fail
    refine bodyPost_ret (v := .tuple #[.agg #[.slice (some ⟨gx, 0, none⟩) n n, .int .i64 n, .int .i64 n, .slice (some ⟨gl, 0, none⟩) (n * n) (n * n)], .agg #[.float .f64 Y, .float .f64 A, .float .f64 S, .slice (some ⟨gg, 0, none⟩) n n], .int .i64 0]) (by simp [results, Try.results12, go_sem, c0, c1, c2, c3, d0, d1, d2, d3]) rfl ⟨?_, ?_⟩
    · obtain ⟨k1, k2, k3, k4, k5, k6⟩ := HKK.out
      refine Or.inl ⟨HE0.out, gx, gl, gg, Y, A, S, xo, lo, go, rfl, ?_, ?_, ?_, ?_, ?_, ?_, k1, k2, k3, k4, k5, k6⟩
      · have := HBB.out.1; have := HS1.out; have := HPW.out.2.2.2.2; omega
      · have := HBB.out.2.1; have := HS1.out; have := HPW.out.2.2.2.2; omega
      · have := HBB.out.2.2; have := HS1.out; have := HPW.out.2.2.2.2; omega
      · exact (HXF.out.1.rsto (by have := HBB.out.1; have := HS1.out; have := HPW.out.2.2.1; omega) _ _ _ _).rsto (by have := HBB.out.1; have := HS1.out; have := HPW.out.2.2.2.1; omega) _ _ _ _
      · exact (HXF.out.2.1.rsto (by have := HBB.out.2.1; have := HS1.out; have := HPW.out.2.2.1; omega) _ _ _ _).rsto (by have := HBB.out.2.1; have := HS1.out; have := HPW.out.2.2.2.1; omega) _ _ _ _
      · exact (HXF.out.2.2.rsto (by have := HBB.out.2.2; have := HS1.out; have := HPW.out.2.2.1; omega) _ _ _ _).rsto (by have := HBB.out.2.2; have := HS1.out; have := HPW.out.2.2.2.1; omega) _ _ _ _
    · first | exact ssto_below (rsto_below (HT.out.2.2.2.trans (HB2.out.mono HPW.out.2.2.2.2)) HPW.out.1 _ _ _ _) HPW.out.2.1 _ _ _ _ | (rw [← hp0.out]; exact ssto_below (rsto_below (HT.out.2.2.2.trans (HB2.out.mono HPW.out.2.2.2.2)) HPW.out.1 _ _ _ _) HPW.out.2.1 _ _ _ _) | (have hh := ssto_below (rsto_below (HT.out.2.2.2.trans (HB2.out.mono HPW.out.2.2.2.2)) HPW.out.1 (.int .i64 0) (.int .i64 0) (.int .i64 0) (.int .i64 0)) HPW.out.2.1 (.int .i64 0) (.int .i64 0) (.int .i64 0) (.int .i64 0); rw [hp0.out] at hh; exact ssto_below (rsto_below (hp0.out ▸ (HT.out.2.2.2.trans (HB2.out.mono HPW.out.2.2.2.2))) (hp0.out ▸ HPW.out.1) _ _ _ _) (hp0.out ▸ HPW.out.2.1) _ _ _ _)
  · obtain ⟨c0, c1, c2, c3⟩ := rcells_of (blkM HT.out.2.1 HB2.out)
    obtain ⟨d0, d1, d2, d3⟩ := scells_of (blkM HT.out.2.2.1 HB2.out)
    have fz1 := rfrz (blkM HT.out.2.1 HB2.out)
    have fz2 := sfrz (blkM HT.out.2.2.1 HB2.out)
    have HE0 := hid hE0
    obtain ⟨E, hE⟩ : ∃ t, Hid (updE (fun j => xs.getD j 0) hs zs n x z = t) := ⟨_, rfl⟩
    rw [hE.out] at HE0 ⊢
    clear hE0
    go_wp2_with fail
    refine bodyPost_ret (v := .tuple #[.agg #[.slice none 0 0, .int .i64 0, .int .i64 0, .slice none 0 0], .agg #[.float .f64 0, .float .f64 0, .float .f64 0, .slice none 0 0], .int .i64 E]) (by simp [results, Try.results12, go_sem, c0, c1, c2, c3, d0, d1, d2, d3]) rfl ⟨?_, ?_⟩
    · rw [hE.out]; exact Or.inr ⟨HE0.out, rfl⟩
    · first | exact ssto_below (rsto_below (HT.out.2.2.2.trans (HB2.out.mono HPW.out.2.2.2.2)) HPW.out.1 _ _ _ _) HPW.out.2.1 _ _ _ _ | (rw [← hp0.out]; exact ssto_below (rsto_below (HT.out.2.2.2.trans (HB2.out.mono HPW.out.2.2.2.2)) HPW.out.1 _ _ _ _) HPW.out.2.1 _ _ _ _) | (have hh := ssto_below (rsto_below (HT.out.2.2.2.trans (HB2.out.mono HPW.out.2.2.2.2)) HPW.out.1 (.int .i64 0) (.int .i64 0) (.int .i64 0) (.int .i64 0)) HPW.out.2.1 (.int .i64 0) (.int .i64 0) (.int .i64 0) (.int .i64 0); rw [hp0.out] at hh; exact ssto_below (rsto_below (hp0.out ▸ (HT.out.2.2.2.trans (HB2.out.mono HPW.out.2.2.2.2))) (hp0.out ▸ HPW.out.1) _ _ _ _) (hp0.out ▸ HPW.out.2.1) _ _ _ _)
end Go.Proofs.Ythakhmnlpmfdgaa

namespace Go.Proofs.Ythakhmnlpmfdgaa
open Go.RowKit Go.IntWalk

/-- Does a row go with a root? -/
def rrowE (n : Nat) (xs : List Nat) (d : Int) (x : Nat) : Int := if lsE n xs d = 0 then (if finM [x] = true then (if (FloatKind.f64.format.order x 0 == some .lt) = true ∨ (FloatKind.f64.format.order x 0 == some .eq) = true then 152 else 0) else 4) else lsE n xs d
set_option maxRecDepth 4000 in
set_option maxHeartbeats 2000000 in
theorem rrow_any (sa : Option Addr) (n ka : Nat) (xs : List Nat) (x : Nat) (d : Int) (w : World) (ha : FlM w sa n ka xs) (hn : n ≤ 17592186043904) (hx : x < 18446744073709551616) :
    Calls Try.prog 19 #[.slice sa n ka, .float .f64 x, .int .i64 d] w fun e w' => e = .returned (.int .i64 (rrowE n xs d x)) ∧ Below w.heap.size w w' := by
  have HL := hid (rls_any sa n ka xs d w ha hn)
  have HX := hid hx
  have HA := hid (fun W sb (h : FlM W sb 1 1 [x]) => areFin_any sb 1 1 [x] W h (by decide))
  unfold rrowE
  obtain ⟨L, hL⟩ : ∃ t, Hid (lsE n xs d = t) := ⟨_, rfl⟩
  obtain ⟨F, hF⟩ : ∃ t, Hid (finM [x] = t) := ⟨_, rfl⟩
  obtain ⟨A, hA⟩ : ∃ t, Hid ((FloatKind.f64.format.order x 0 == some .lt) = t) := ⟨_, rfl⟩
  obtain ⟨B, hB⟩ : ∃ t, Hid ((FloatKind.f64.format.order x 0 == some .eq) = t) := ⟨_, rfl⟩
  rw [hL.out] at HL ⊢
  rw [hF.out] at HA ⊢
  have hlt := hA.out
  have heq := hB.out
  rw [hlt, heq]
  clear ha hn hx
  go_enter Try.func19, Try.ntmps19
  go_wp2_with fail
  refine HL.out.mono ?_
  rintro e w1 ⟨rfl, hb⟩
  have HB := hid hb
  clear hb
  have HB2 : Hid (Below w.heap.size w (w1.alloc (.cells #[.float .f64 x] 28))) := HB.out.alloc HB.out.size _
  have HO := hid (one_fl (w := w1.alloc (.cells #[.float .f64 x] 28)) (b := w1.heap.size) HX.out (by have h := nblkM w1 (.cells #[.float .f64 x] 28); unfold World.cell?; simp only []; rw [h]; rfl) (by simp))
  obtain ⟨V, hV⟩ : ∃ V, Hid (w1.alloc (.cells #[.float .f64 x] 28) = V) := ⟨_, rfl⟩
  rw [hV.out] at HB2 HO
  have hV' := hV.out
  by_cases hl : L = 0
  · subst hl
    have h1 : ((0 : Int) != 0) = false := by decide
    go_wp2_with fail
    refine (HA.out _ _ HO.out).mono ?_
    rintro e w2 ⟨rfl, hb⟩
    have HB3 := hid (HB2.out.trans (hb.mono HB2.out.size))
    clear hb
    cases F with
    | false =>
      go_wp2_with fail
      go_ret
      exact ⟨rfl, HB3.out⟩
    | true =>
      cases A with
      | true =>
        go_wp2_with fail
        go_ret
        exact ⟨rfl, HB3.out⟩
      | false =>
        cases B with
        | true =>
          go_wp2_with fail
          go_ret
          exact ⟨rfl, HB3.out⟩
        | false =>
          go_wp2_with fail
          go_ret
          exact ⟨rfl, HB3.out⟩
  · have h1 : (L != 0) = true := by simpa using hl
    go_wp2_with fail
    go_ret
    exact ⟨rfl, HB.out⟩
end Go.Proofs.Ythakhmnlpmfdgaa

namespace Go.Proofs.Ythakhmnlpmfdgaa
open Go.RowKit Go.IntWalk

set_option maxRecDepth 8000 in
set_option maxHeartbeats 4000000 in
theorem updated_row (xa : Option Addr) (k kx : Nat) (r c : Int) (sa : Option Addr) (m ka : Nat) (ha : Option Addr) (q kh x z : Nat) (hs : List Nat) (w : World) (hH : FlM w ha q kh hs) (hq : q ≤ 17592186043904) (hx : x < 18446744073709551616) (hb : rrowE q hs (k : Int) x ≠ 0) :
    Calls Try.prog 32 #[.agg #[.slice xa k kx, .int .i64 r, .int .i64 c, .slice sa m ka], .slice ha q kh, .float .f64 x, .float .f64 z] w fun e w' => e = .returned (.tuple #[.agg #[.slice none 0 0, .int .i64 0, .int .i64 0, .slice none 0 0], .agg #[.float .f64 0, .float .f64 0, .float .f64 0, .slice none 0 0], .int .i64 (rrowE q hs (k : Int) x)]) ∧ Below w.heap.size w w' := by
  have HC := hid (fun W (hW : Below w.heap.size w W) => rrow_any ha q kh hs x (k : Int) W (hH.below hW) hq hx)
  obtain ⟨E, hE⟩ : ∃ t, Hid (rrowE q hs (k : Int) x = t) := ⟨_, rfl⟩
  rw [hE.out] at HC hb ⊢
  have hne : (E != 0) = true := by simpa using hb
  obtain ⟨t1, t2, t3, t4, t5⟩ := three_b w (RBox xa k kx r c sa m ka) (RBox none 0 0 0 0 none 0 0) (StBox 0 0 0 none 0 0)
  obtain ⟨V, hV⟩ : ∃ t, Hid (((w.alloc (RBox xa k kx r c sa m ka)).alloc (RBox none 0 0 0 0 none 0 0)).alloc (StBox 0 0 0 none 0 0) = t) := ⟨_, rfl⟩
  rw [hV.out] at t1 t2 t3 t4 t5
  have hV' := hV.out
  unfold RBox StBox at hV'
  obtain ⟨p0, hp0⟩ : ∃ t, Hid (w.heap.size = t) := ⟨_, rfl⟩
  obtain ⟨p1, hp1⟩ : ∃ t, Hid (p0 + 1 = t) := ⟨_, rfl⟩
  obtain ⟨p2, hp2⟩ : ∃ t, Hid (p1 + 1 = t) := ⟨_, rfl⟩
  rw [hp0.out] at t1 t2 t3
  rw [hp1.out] at t2 t3
  rw [hp2.out] at t3
  have e0 := hp0.out
  have e1 := hp1.out
  have e2 := hp2.out
  have HT := hid (And.intro t1 (And.intro t2 (And.intro t3 t4)))
  have HPW : Hid (w.heap.size ≤ p1 ∧ w.heap.size ≤ p2 ∧ p1 < V.heap.size ∧ p2 < V.heap.size ∧ w.heap.size ≤ V.heap.size) := by show _ ∧ _ ∧ _ ∧ _ ∧ _; rw [t5]; omega
  have hst := fstoreM
  have HREF := hid (fun E W => refRow_any E W)
  obtain ⟨x0, x1, x2, x3⟩ := rcells_of t1
  clear t1 t2 t3 t4 t5
  clear hH hq hx hb
  go_enter Try.func32, Try.ntmps32
  go_wp2_with fail
  refine (HC.out V HT.out.2.2.2).mono ?_
  rintro e w1 ⟨rfl, hb1⟩
  have HB1 := hid hb1
  clear hb1
  go_wp2_with fail
  refine (HREF.out E _).mono ?_
  rintro e w2 ⟨rfl, hb2⟩
  have HB2 := hid (HB1.out.trans (hb2.mono HB1.out.size))
  clear hb2
  obtain ⟨c0, c1, c2, c3⟩ := rcells_of (blkM HT.out.2.1 HB2.out)
  obtain ⟨d0, d1, d2, d3⟩ := scells_of (blkM HT.out.2.2.1 HB2.out)
  have fz1 := rfrz (blkM HT.out.2.1 HB2.out)
  have fz2 := sfrz (blkM HT.out.2.2.1 HB2.out)
  go_wp2_with fail
  refine bodyPost_ret (v := .tuple #[.agg #[.slice none 0 0, .int .i64 0, .int .i64 0, .slice none 0 0], .agg #[.float .f64 0, .float .f64 0, .float .f64 0, .slice none 0 0], .int .i64 E]) (by simp [results, Try.results32, go_sem, c0, c1, c2, c3, d0, d1, d2, d3]) rfl ⟨rfl, ?_⟩
  first | exact ssto_below (rsto_below (HT.out.2.2.2.trans (HB2.out.mono HPW.out.2.2.2.2)) HPW.out.1 _ _ _ _) HPW.out.2.1 _ _ _ _ | (rw [← hp0.out]; exact ssto_below (rsto_below (HT.out.2.2.2.trans (HB2.out.mono HPW.out.2.2.2.2)) HPW.out.1 _ _ _ _) HPW.out.2.1 _ _ _ _) | (have hh := ssto_below (rsto_below (HT.out.2.2.2.trans (HB2.out.mono HPW.out.2.2.2.2)) HPW.out.1 (.int .i64 0) (.int .i64 0) (.int .i64 0) (.int .i64 0)) HPW.out.2.1 (.int .i64 0) (.int .i64 0) (.int .i64 0) (.int .i64 0); rw [hp0.out] at hh; exact ssto_below (rsto_below (hp0.out ▸ (HT.out.2.2.2.trans (HB2.out.mono HPW.out.2.2.2.2))) (hp0.out ▸ HPW.out.1) _ _ _ _) (hp0.out ▸ HPW.out.2.1) _ _ _ _)
set_option maxRecDepth 8000 in
set_option maxHeartbeats 4000000 in
theorem updated_z (xa : Option Addr) (k kx : Nat) (r c : Int) (sa : Option Addr) (m ka : Nat) (ha : Option Addr) (q kh x z : Nat) (hs : List Nat) (w : World) (hH : FlM w ha q kh hs) (hq : q ≤ 17592186043904) (hx : x < 18446744073709551616) (hz : z < 18446744073709551616) (hb : rrowE q hs (k : Int) x = 0) (fz : finM [z] = false) :
    Calls Try.prog 32 #[.agg #[.slice xa k kx, .int .i64 r, .int .i64 c, .slice sa m ka], .slice ha q kh, .float .f64 x, .float .f64 z] w fun e w' => e = .returned (.tuple #[.agg #[.slice none 0 0, .int .i64 0, .int .i64 0, .slice none 0 0], .agg #[.float .f64 0, .float .f64 0, .float .f64 0, .slice none 0 0], .int .i64 4]) ∧ Below w.heap.size w w' := by
  have HC := hid (fun W (hW : Below w.heap.size w W) => rrow_any ha q kh hs x (k : Int) W (hH.below hW) hq hx)
  rw [hb] at HC
  have HZL := hid hz
  have HAF := hid (fun W sb (h : FlM W sb 1 1 [z]) => areFin_any sb 1 1 [z] W h (by decide))
  rw [fz] at HAF
  obtain ⟨t1, t2, t3, t4, t5⟩ := three_b w (RBox xa k kx r c sa m ka) (RBox none 0 0 0 0 none 0 0) (StBox 0 0 0 none 0 0)
  obtain ⟨V, hV⟩ : ∃ t, Hid (((w.alloc (RBox xa k kx r c sa m ka)).alloc (RBox none 0 0 0 0 none 0 0)).alloc (StBox 0 0 0 none 0 0) = t) := ⟨_, rfl⟩
  rw [hV.out] at t1 t2 t3 t4 t5
  have hV' := hV.out
  unfold RBox StBox at hV'
  obtain ⟨p0, hp0⟩ : ∃ t, Hid (w.heap.size = t) := ⟨_, rfl⟩
  obtain ⟨p1, hp1⟩ : ∃ t, Hid (p0 + 1 = t) := ⟨_, rfl⟩
  obtain ⟨p2, hp2⟩ : ∃ t, Hid (p1 + 1 = t) := ⟨_, rfl⟩
  rw [hp0.out] at t1 t2 t3
  rw [hp1.out] at t2 t3
  rw [hp2.out] at t3
  have e0 := hp0.out
  have e1 := hp1.out
  have e2 := hp2.out
  have HT := hid (And.intro t1 (And.intro t2 (And.intro t3 t4)))
  have HPW : Hid (w.heap.size ≤ p1 ∧ w.heap.size ≤ p2 ∧ p1 < V.heap.size ∧ p2 < V.heap.size ∧ w.heap.size ≤ V.heap.size) := by show _ ∧ _ ∧ _ ∧ _ ∧ _; rw [t5]; omega
  have hst := fstoreM
  have HREF := hid (fun E W => refRow_any E W)
  obtain ⟨x0, x1, x2, x3⟩ := rcells_of t1
  clear t1 t2 t3 t4 t5
  clear hH hq hx hb hz fz
  go_enter Try.func32, Try.ntmps32
  go_wp2_with fail
  refine (HC.out V HT.out.2.2.2).mono ?_
  rintro e w1 ⟨rfl, hb1⟩
  have HB1 := hid hb1
  clear hb1
  have HB0 : Hid (Below V.heap.size V (w1.alloc (.cells #[.float .f64 z] 28))) := HB1.out.alloc HB1.out.size _
  have HO := hid (one_fl (w := w1.alloc (.cells #[.float .f64 z] 28)) (b := w1.heap.size) HZL.out (by have h := nblkM w1 (.cells #[.float .f64 z] 28); unfold World.cell?; simp only []; rw [h]; rfl) (by simp))
  obtain ⟨V1, hV1⟩ : ∃ t, Hid (w1.alloc (.cells #[.float .f64 z] 28) = t) := ⟨_, rfl⟩
  rw [hV1.out] at HB0 HO
  have hV1' := hV1.out
  go_wp2_with fail
  refine (HAF.out _ _ HO.out).mono ?_
  rintro e w3 ⟨rfl, hb3⟩
  have HB3 := hid (HB0.out.trans (hb3.mono HB0.out.size))
  clear hb3
  go_wp2_with fail
  refine (HREF.out 4 _).mono ?_
  rintro e w2 ⟨rfl, hb2⟩
  have HB2 := hid (HB3.out.trans (hb2.mono HB3.out.size))
  clear hb2
  obtain ⟨c0, c1, c2, c3⟩ := rcells_of (blkM HT.out.2.1 HB2.out)
  obtain ⟨d0, d1, d2, d3⟩ := scells_of (blkM HT.out.2.2.1 HB2.out)
  have fz1 := rfrz (blkM HT.out.2.1 HB2.out)
  have fz2 := sfrz (blkM HT.out.2.2.1 HB2.out)
  go_wp2_with fail
  refine bodyPost_ret (v := .tuple #[.agg #[.slice none 0 0, .int .i64 0, .int .i64 0, .slice none 0 0], .agg #[.float .f64 0, .float .f64 0, .float .f64 0, .slice none 0 0], .int .i64 4]) (by simp [results, Try.results32, go_sem, c0, c1, c2, c3, d0, d1, d2, d3]) rfl ⟨rfl, ?_⟩
  first | exact ssto_below (rsto_below (HT.out.2.2.2.trans (HB2.out.mono HPW.out.2.2.2.2)) HPW.out.1 _ _ _ _) HPW.out.2.1 _ _ _ _ | (rw [← hp0.out]; exact ssto_below (rsto_below (HT.out.2.2.2.trans (HB2.out.mono HPW.out.2.2.2.2)) HPW.out.1 _ _ _ _) HPW.out.2.1 _ _ _ _) | (have hh := ssto_below (rsto_below (HT.out.2.2.2.trans (HB2.out.mono HPW.out.2.2.2.2)) HPW.out.1 (.int .i64 0) (.int .i64 0) (.int .i64 0) (.int .i64 0)) HPW.out.2.1 (.int .i64 0) (.int .i64 0) (.int .i64 0) (.int .i64 0); rw [hp0.out] at hh; exact ssto_below (rsto_below (hp0.out ▸ (HT.out.2.2.2.trans (HB2.out.mono HPW.out.2.2.2.2))) (hp0.out ▸ HPW.out.1) _ _ _ _) (hp0.out ▸ HPW.out.2.1) _ _ _ _)
end Go.Proofs.Ythakhmnlpmfdgaa

namespace Go.Proofs.Ythakhmnlpmfdgaa
open Go.RowKit Go.IntWalk

set_option maxRecDepth 8000 in
set_option maxHeartbeats 4000000 in
theorem Update_no (xa : Option Addr) (k kx : Nat) (zs : List Nat) (r c : Int) (sa : Option Addr) (m ka : Nat) (xs : List Nat) (ha : Option Addr) (q kh x z : Nat) (E : Int) (w : World) (hX : FlM w xa k kx zs) (hk : k ≤ 17592186043904) (hA : FlM w sa m ka xs) (hm : m ≤ 17592186043904) (hb : rootE zs k r c m xs = 0) (hU : ∀ W, Below w.heap.size w W → Calls Try.prog 32 #[.agg #[.slice xa k kx, .int .i64 r, .int .i64 c, .slice sa m ka], .slice ha q kh, .float .f64 x, .float .f64 z] W fun e w' => e = .returned (.tuple #[.agg #[.slice none 0 0, .int .i64 0, .int .i64 0, .slice none 0 0], .agg #[.float .f64 0, .float .f64 0, .float .f64 0, .slice none 0 0], .int .i64 E]) ∧ Below W.heap.size W w') :
    Calls Try.prog 12 #[.agg #[.slice xa k kx, .int .i64 r, .int .i64 c, .slice sa m ka], .slice ha q kh, .float .f64 x, .float .f64 z] w fun e w' => e = .returned (.tuple #[.agg #[.slice none 0 0, .int .i64 0, .int .i64 0, .slice none 0 0], .agg #[.float .f64 0, .float .f64 0, .float .f64 0, .slice none 0 0], .int .i64 E]) ∧ Below w.heap.size w w' := by
  have HC := hid (fun W (hW : Below w.heap.size w W) => rcheck_any xa k kx zs r c sa m ka xs W (hX.below hW) hk (hA.below hW) hm)
  rw [hb] at HC
  have HU := hid hU
  unfold RV at HC
  obtain ⟨t1, t2, t3, t4, t5⟩ := three_b w (RBox xa k kx r c sa m ka) (RBox none 0 0 0 0 none 0 0) (StBox 0 0 0 none 0 0)
  obtain ⟨V, hV⟩ : ∃ t, Hid (((w.alloc (RBox xa k kx r c sa m ka)).alloc (RBox none 0 0 0 0 none 0 0)).alloc (StBox 0 0 0 none 0 0) = t) := ⟨_, rfl⟩
  rw [hV.out] at t1 t2 t3 t4 t5
  have hV' := hV.out
  unfold RBox StBox at hV'
  obtain ⟨p0, hp0⟩ : ∃ t, Hid (w.heap.size = t) := ⟨_, rfl⟩
  obtain ⟨p1, hp1⟩ : ∃ t, Hid (p0 + 1 = t) := ⟨_, rfl⟩
  obtain ⟨p2, hp2⟩ : ∃ t, Hid (p1 + 1 = t) := ⟨_, rfl⟩
  rw [hp0.out] at t1 t2 t3
  rw [hp1.out] at t2 t3
  rw [hp2.out] at t3
  have e0 := hp0.out
  have e1 := hp1.out
  have e2 := hp2.out
  have HT := hid (And.intro t1 (And.intro t2 (And.intro t3 t4)))
  have HPW : Hid (w.heap.size ≤ p1 ∧ w.heap.size ≤ p2 ∧ p1 < V.heap.size ∧ p2 < V.heap.size ∧ w.heap.size ≤ V.heap.size) := by show _ ∧ _ ∧ _ ∧ _ ∧ _; rw [t5]; omega
  have hst := fstoreM
  obtain ⟨x0, x1, x2, x3⟩ := rcells_of t1
  clear t1 t2 t3 t4 t5
  clear hX hA hk hm hb hU
  go_enter Try.func12, Try.ntmps12
  go_wp2_with fail
  refine (HC.out V HT.out.2.2.2).mono ?_
  rintro e w1 ⟨rfl, hb1⟩
  have HB1 := hid hb1
  clear hb1
  obtain ⟨x0, x1, x2, x3⟩ := rcells_of (blkM HT.out.1 HB1.out)
  go_wp2_with fail
  refine (HU.out w1 (by have h := HT.out.2.2.2.trans (HB1.out.mono HPW.out.2.2.2.2); first | exact h | (rw [hp0.out]; exact h) | (rw [← hp0.out] at h; exact h))).mono ?_
  rintro e w2 ⟨rfl, hb2⟩
  have HB2 := hid (HB1.out.trans (hb2.mono HB1.out.size))
  clear hb2
  obtain ⟨c0, c1, c2, c3⟩ := rcells_of (blkM HT.out.2.1 HB2.out)
  obtain ⟨d0, d1, d2, d3⟩ := scells_of (blkM HT.out.2.2.1 HB2.out)
  have fz1 := rfrz (blkM HT.out.2.1 HB2.out)
  have fz2 := sfrz (blkM HT.out.2.2.1 HB2.out)
  go_wp2_with fail
  refine bodyPost_ret (v := .tuple #[.agg #[.slice none 0 0, .int .i64 0, .int .i64 0, .slice none 0 0], .agg #[.float .f64 0, .float .f64 0, .float .f64 0, .slice none 0 0], .int .i64 E]) (by simp [results, Try.results12, go_sem, c0, c1, c2, c3, d0, d1, d2, d3]) rfl ⟨rfl, ?_⟩
  first | exact ssto_below (rsto_below (HT.out.2.2.2.trans (HB2.out.mono HPW.out.2.2.2.2)) HPW.out.1 _ _ _ _) HPW.out.2.1 _ _ _ _ | (rw [← hp0.out]; exact ssto_below (rsto_below (HT.out.2.2.2.trans (HB2.out.mono HPW.out.2.2.2.2)) HPW.out.1 _ _ _ _) HPW.out.2.1 _ _ _ _) | (have hh := ssto_below (rsto_below (HT.out.2.2.2.trans (HB2.out.mono HPW.out.2.2.2.2)) HPW.out.1 (.int .i64 0) (.int .i64 0) (.int .i64 0) (.int .i64 0)) HPW.out.2.1 (.int .i64 0) (.int .i64 0) (.int .i64 0) (.int .i64 0); rw [hp0.out] at hh; exact ssto_below (rsto_below (hp0.out ▸ (HT.out.2.2.2.trans (HB2.out.mono HPW.out.2.2.2.2))) (hp0.out ▸ HPW.out.1) _ _ _ _) (hp0.out ▸ HPW.out.2.1) _ _ _ _)
end Go.Proofs.Ythakhmnlpmfdgaa
