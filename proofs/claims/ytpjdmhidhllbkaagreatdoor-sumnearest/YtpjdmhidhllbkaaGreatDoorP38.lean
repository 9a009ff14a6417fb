
/- The document's exact numbers: Add. -/
import Derived.Test.YtpjdmhidhllbkaaGreatDoorP37
namespace Go.Proofs.YtpjdmhidhllbkaaGreatDoor
open Go.RowKit Go.IntWalk

theorem zok_bl {z : Nat} {W W' : World} (h : ZOk z W W) (hb : Below W.heap.size W W') : ZOk z W' W' := by
  obtain ⟨_, n0, a0, k0, c0, ho⟩ := h
  exact ⟨But.refl _ _, n0, a0, k0, c0, by rw [hb.block z (Array.getElem?_eq_some_iff.1 ho).1]; exact ho⟩
theorem dr_size (W : World) : W.drew.heap.size = W.heap.size := rfl
theorem al_size (W : World) (o : Obj) : (W.alloc o).heap.size = W.heap.size + 1 := by simp
/-- What Low leaves; what Add wants. -/
def LowF (w W w' : World) (p q : Nat) (v : Int) (bd : Nat) : Prop := (q = p ∨ W.heap.size ≤ q) ∧ NumAt w' q v bd ∧ Below W.heap.size W w' ∧ Below w.heap.size w w'
def AddOk (W0 W : World) (z q1 q2 : Nat) (a1 a2 : Int) (d1 d2 : Nat) : Prop := ZOk z W W ∧ W0.heap.size ≤ z ∧ q1 ≠ z ∧ q2 ≠ z ∧ NumAt W q1 a1 d1 ∧ NumAt W q2 a2 d2
theorem side1 {w W0 w3 w4 : World} {p1 p2 q1 q2 d1 d2 : Nat} {a1 a2 : Int} (h1 : Hid (LowF w (W0.alloc (.cells #[.bool false, .slice none 0 0] 92)).drew w3 p1 q1 a1 d1)) (h2 : Hid (LowF w w3 w4 p2 q2 a2 d2)) (hp : Hid (p1 < w.heap.size ∧ p2 < w.heap.size)) (hs : Hid (W0.heap.size = w.heap.size + 3)) : AddOk W0 w4 W0.heap.size q1 q2 a1 a2 d1 d2 := by
  obtain ⟨f1, f2, f3, f4⟩ := h1.out
  obtain ⟨k1, k2, k3, k4⟩ := h2.out
  have hp := hp.out
  have hs := hs.out
  have s3 := f3.size
  rw [dr_size, al_size] at f1 s3
  exact ⟨zok_bl (zok_bl (zok_dr (fresh_zok W0)) f3) k3, Nat.le_refl _, by omega, by omega, f2.below k3, k2⟩
theorem side2 {w W0 w3 w4 : World} {p1 p2 q1 q2 d1 d2 : Nat} {a1 a2 : Int} (h1 : Hid (LowF w W0.drew w3 p1 q1 a1 d1)) (h2 : Hid (LowF w (w3.alloc (.cells #[.bool false, .slice none 0 0] 92)) w4 p2 q2 a2 d2)) (hp : Hid (p1 < w.heap.size ∧ p2 < w.heap.size)) (hs : Hid (W0.heap.size = w.heap.size + 3)) : AddOk W0 w4 w3.heap.size q1 q2 a1 a2 d1 d2 := by
  obtain ⟨f1, f2, f3, f4⟩ := h1.out
  obtain ⟨k1, k2, k3, k4⟩ := h2.out
  have hp := hp.out
  have hs := hs.out
  have s3 := f3.size
  have l2 := f2.lt
  rw [dr_size] at s3
  rw [al_size] at k1
  exact ⟨zok_bl (fresh_zok w3) k3, s3, by omega, by omega, (f2.al _).below k3, k2⟩
theorem side3 {w W0 w3 w4 : World} {p1 p2 q1 q2 d1 d2 : Nat} {a1 a2 : Int} (h1 : Hid (LowF w W0.drew w3 p1 q1 a1 d1)) (h2 : Hid (LowF w w3 w4 p2 q2 a2 d2)) : AddOk W0 (w4.alloc (.cells #[.bool false, .slice none 0 0] 92)) w4.heap.size q1 q2 a1 a2 d1 d2 := by
  obtain ⟨f1, f2, f3, f4⟩ := h1.out
  obtain ⟨k1, k2, k3, k4⟩ := h2.out
  have s3 := f3.size
  have s4 := k3.size
  have l2 := f2.lt
  have l4 := k2.lt
  rw [dr_size] at s3
  exact ⟨fresh_zok w4, by omega, by omega, by omega, (f2.below k3).al _, k2.al _⟩
theorem xfield (q : Option Addr) (e : Int) (w : World) : (Instr.field 48 (.agg #[.pointer q, .int .i64 e]) 0).run Tryz.prog w = .ok (.pointer q) w := by kernel_rfl
set_option maxRecDepth 4000 in
set_option maxHeartbeats 8000000 in
/-- Add of two that are not 0. -/
theorem xAdd_two (p1 p2 b1 b2 n1 n2 : Nat) (v1 v2 e1 e2 e : Int) (w : World) (h1 : NumAt w p1 v1 b1) (h2 : NumAt w p2 v2 b2) (hb1 : b1 ≤ 400000) (hb2 : b2 ≤ 400000) (hv1 : v1 ≠ 0) (hv2 : v2 ≠ 0) (he : min e1 e2 = e) (hn1 : e1 - e = (n1 : Int)) (hn2 : e2 - e = (n2 : Int)) (hm1 : n1 ≤ 1000000) (hm2 : n2 ≤ 1000000) :
    Calls Tryz.prog 31 #[.agg #[.pointer (some ⟨p1, 0, none⟩), .int .i64 e1], .agg #[.pointer (some ⟨p2, 0, none⟩), .int .i64 e2]] w fun r w' => ∃ q, r = .returned (.agg #[.pointer (some ⟨q, 0, none⟩), .int .i64 e]) ∧ w.heap.size ≤ q ∧ NumAt w' q (v1 * 2 ^ n1 + v2 * 2 ^ n2) (max (n1 / 32 + b1 + 1) (n2 / 32 + b2 + 1) + 1) ∧ Below w.heap.size w w' := by
  obtain ⟨W0, hW0⟩ : ∃ V, Hid (((w.alloc (XBox (some ⟨p1, 0, none⟩) e1)).alloc (XBox (some ⟨p2, 0, none⟩) e2)).alloc (XBox none 0) = V) := ⟨_, rfl⟩
  obtain ⟨g1, g2, g3⟩ := three_blk w (XBox (some ⟨p1, 0, none⟩) e1) (XBox (some ⟨p2, 0, none⟩) e2) (XBox none 0)
  have HS0 : Hid (W0.heap.size = w.heap.size + 3) := by
    show W0.heap.size = w.heap.size + 3
    rw [← hW0.out]; simp
  have HB0 : Hid (Below w.heap.size w W0) := by
    rw [← hW0.out]
    exact (((Below.refl _ _).alloc (Nat.le_refl _) _).alloc (by simp) _).alloc (by simp; omega) _
  rw [hW0.out] at g1 g2 g3
  have HK : Hid (∀ W, Hid (XRes (w.heap.size + 2) W0 W) → ((W.cell? ⟨w.heap.size, 0, none⟩ = some (.pointer (some ⟨p1, 0, none⟩)) ∧ W.cell? ⟨w.heap.size, 1, none⟩ = some (.int .i64 e1)) ∧ (W.cell? ⟨w.heap.size + 1, 0, none⟩ = some (.pointer (some ⟨p2, 0, none⟩)) ∧ W.cell? ⟨w.heap.size + 1, 1, none⟩ = some (.int .i64 e2))) ∧ Hid (XRes (w.heap.size + 2) W0 W)) := fun W hW => by
    have t1 := xcells_of ((hW.out.1.block _ (by rw [HS0.out]; omega) (by omega)).trans g1)
    have t2 := xcells_of ((hW.out.1.block _ (by rw [HS0.out]; omega) (by omega)).trans g2)
    exact ⟨⟨⟨t1.1, t1.2.1⟩, ⟨t2.1, t2.2.1⟩⟩, hW⟩
  have HQR : Hid (XRes (w.heap.size + 2) W0 W0) := ⟨But.refl _ _, _, _, g3⟩
  have HG1 : Hid (∀ W, Below W0.heap.size W0 W → Calls Tryz.prog 35 #[.pointer (some ⟨p1, 0, none⟩)] W fun r w' => r = .returned (.int .i64 (sgnZ v1)) ∧ w' = W) := fun W hW => NSign p1 v1 b1 W ((h1.below HB0.out).below hW)
  have HG2 : Hid (∀ W, Below W0.heap.size W0 W → Calls Tryz.prog 35 #[.pointer (some ⟨p2, 0, none⟩)] W fun r w' => r = .returned (.int .i64 (sgnZ v2)) ∧ w' = W) := fun W hW => NSign p2 v2 b2 W ((h2.below HB0.out).below hW)
  have hs1 : ¬ sgnZ v1 = 0 := by unfold sgnZ; split <;> (try split) <;> omega
  have hs2 : ¬ sgnZ v2 = 0 := by unfold sgnZ; split <;> (try split) <;> omega
  obtain ⟨S1, hS1⟩ : ∃ S, Hid (sgnZ v1 = S) := ⟨_, rfl⟩
  obtain ⟨S2, hS2⟩ : ∃ S, Hid (sgnZ v2 = S) := ⟨_, rfl⟩
  rw [hS1.out] at HG1 hs1
  rw [hS2.out] at HG2 hs2
  have HL1 : Hid (∀ W, Hid (XRes (w.heap.size + 2) W0 W) → Below w.heap.size w W → Calls Tryz.prog 65 #[.agg #[.pointer (some ⟨p1, 0, none⟩), .int .i64 e1], .int .i64 e] W fun r w' => ∃ q, r = .returned (.agg #[.pointer (some ⟨q, 0, none⟩), .int .i64 e]) ∧ Hid (LowF w W w' p1 q (v1 * 2 ^ n1) (n1 / 32 + b1 + 1)) ∧ Hid (XRes (w.heap.size + 2) W0 w')) := fun W hX hW => by
    refine (xLow_core p1 b1 n1 v1 e1 e W (h1.below hW) (by omega) hn1 hm1).mono ?_
    rintro r w' ⟨q, rfl, f1, f2, f3⟩
    exact ⟨q, rfl, ⟨f1, f2, f3, hW.trans (f3.mono hW.size)⟩, hX.out.below f3⟩
  have HL2 : Hid (∀ W, Hid (XRes (w.heap.size + 2) W0 W) → Below w.heap.size w W → Calls Tryz.prog 65 #[.agg #[.pointer (some ⟨p2, 0, none⟩), .int .i64 e2], .int .i64 e] W fun r w' => ∃ q, r = .returned (.agg #[.pointer (some ⟨q, 0, none⟩), .int .i64 e]) ∧ Hid (LowF w W w' p2 q (v2 * 2 ^ n2) (n2 / 32 + b2 + 1)) ∧ Hid (XRes (w.heap.size + 2) W0 w')) := fun W hX hW => by
    refine (xLow_core p2 b2 n2 v2 e2 e W (h2.below hW) (by omega) hn2 hm2).mono ?_
    rintro r w' ⟨q, rfl, f1, f2, f3⟩
    exact ⟨q, rfl, ⟨f1, f2, f3, hW.trans (f3.mono hW.size)⟩, hX.out.below f3⟩
  have HADD : Hid (∀ W z q1 q2, Hid (XRes (w.heap.size + 2) W0 W) → AddOk W0 W z q1 q2 (v1 * 2 ^ n1) (v2 * 2 ^ n2) (n1 / 32 + b1 + 1) (n2 / 32 + b2 + 1) → Calls Tryz.prog 64 #[.pointer (some ⟨z, 0, none⟩), .pointer (some ⟨q1, 0, none⟩), .pointer (some ⟨q2, 0, none⟩)] W fun r w' => ∃ x0 y0, r = .returned (.pointer (some ⟨z, 0, none⟩)) ∧ Hid (NumAt w' z (v1 * 2 ^ n1 + v2 * 2 ^ n2) (max (n1 / 32 + b1 + 1) (n2 / 32 + b2 + 1) + 1) ∧ W0.heap.size ≤ z ∧ w'.heap[w.heap.size + 2]? = some (XBox x0 y0)) ∧ (∀ o, w'.frozen? ⟨w.heap.size + 1 + 1, o, none⟩ = false) ∧ w'.cell? ⟨w.heap.size + 1 + 1, 0, none⟩ = some (.pointer x0) ∧ w'.cell? ⟨w.heap.size + 1 + 1, 1, none⟩ = some (.int .i64 y0) ∧ Hid (XRes (w.heap.size + 2) W0 w')) := fun W z q1 q2 hX ⟨hz, hzl, hq1, hq2, k1, k2⟩ => by
    refine (NAdd z q1 q2 _ _ _ _ W hz (Or.inr ⟨hq1, hq2⟩) k1 k2 (by omega) (by omega)).mono ?_
    rintro r w' ⟨rfl, hn, hbt⟩
    have hB' := hX.out.but hbt hzl (by rw [HS0.out]; omega)
    obtain ⟨_, x0, y0, hr⟩ := hB'
    obtain ⟨f1, f2, f3⟩ := xcells_of (show w'.heap[w.heap.size + 2]? = some (.cells #[.pointer x0, .int .i64 y0] 48) from hr)
    exact ⟨x0, y0, rfl, ⟨hn, hzl, hr⟩, f3, f1, f2, hX.out.but hbt hzl (by rw [HS0.out]; omega)⟩
  have HP := hid (And.intro h1.lt h2.lt)
  have HBQ : Hid (∀ W, Hid (XRes (w.heap.size + 2) W0 W) → Below w.heap.size w W) := fun W h => HB0.out.trans (h.out.1.below HB0.out.size (by omega))
  have hfl := xfield
  obtain ⟨y0, y1⟩ := (HK.out _ HQR).1
  obtain ⟨y00, y01⟩ := y0
  obtain ⟨y10, y11⟩ := y1
  unfold XBox at hW0
  have hW0' := hW0.out
  clear hv1 hv2 h1 h2 hb1 hb2 hn1 hn2 hm1 hm2 g1 g2 g3
  go_enter Tryz.func31, Tryz.ntmps31
  go_wp2_with fail
  refine (HG1.out _ (Below.refl _ _)).mono ?_
  rintro r w1 ⟨rfl, rfl⟩
  go_wp2_with fail
  refine (HG2.out _ (Below.refl _ _)).mono ?_
  rintro r w1 ⟨rfl, rfl⟩
  go_wp2_with fail
  go_region_held3 (fun W => ((W.cell? ⟨w.heap.size, 0, none⟩ = some (.pointer (some ⟨p1, 0, none⟩)) ∧ W.cell? ⟨w.heap.size, 1, none⟩ = some (.int .i64 e1)) ∧ (W.cell? ⟨w.heap.size + 1, 0, none⟩ = some (.pointer (some ⟨p2, 0, none⟩)) ∧ W.cell? ⟨w.heap.size + 1, 1, none⟩ = some (.int .i64 e2))) ∧ Hid (XRes (w.heap.size + 2) w1 W))
    ((refine HK.out _ ?_; repeat' (first | with_reducible assumption | with_reducible exact HQR | with_reducible refine xr_al ?_ _ | with_reducible refine xr_dr ?_ | with_reducible refine xr_store ?_ _ _)))
    (first
      | (go_at_call 65; first
          | (with_reducible refine (HL1.out _ (And.right (by assumption)) (HBQ.out _ (And.right (by assumption)))).mono ?_; rintro r w3 ⟨q1, rfl, HF1, HX1⟩)
          | (with_reducible refine (HL2.out _ (And.right (by assumption)) (HBQ.out _ (And.right (by assumption)))).mono ?_; rintro r w4 ⟨q2, rfl, HF2, HX2⟩)
          | fail)
      | (go_at_call 64; first | (with_reducible refine (HADD.out _ _ _ _ (And.right (by assumption)) (side1 HF1 HF2 HP HS0)).mono ?_; rintro r w5 ⟨x0, y0, rfl, HF5, fz, c0, c1, HX5⟩) | (with_reducible refine (HADD.out _ _ _ _ (And.right (by assumption)) (side2 HF1 HF2 HP HS0)).mono ?_; rintro r w5 ⟨x0, y0, rfl, HF5, fz, c0, c1, HX5⟩) | (with_reducible refine (HADD.out _ _ _ _ (And.right (by assumption)) (side3 HF1 HF2)).mono ?_; rintro r w5 ⟨x0, y0, rfl, HF5, fz, c0, c1, HX5⟩) | fail)
      | fail)
  all_goals go_wp2
  · exact bodyPost_ret (v := .agg #[.pointer (some ⟨w1.heap.size, 0, none⟩), .int .i64 e]) (by simp [results, Tryz.results31, go_sem, c0, c1]) rfl ⟨w1.heap.size, rfl, by have := HS0.out; have := HF5.out.2.1; omega, HF5.out.1.stored (by have := HS0.out; have := HF5.out.2.1; omega) HF5.out.2.2 _ _, HB0.out.trans ((xr_store HX5 _ _).out.1.below HB0.out.size (by omega))⟩
  · exact bodyPost_ret (v := .agg #[.pointer (some ⟨w3.heap.size, 0, none⟩), .int .i64 e]) (by simp [results, Tryz.results31, go_sem, c0, c1]) rfl ⟨w3.heap.size, rfl, by have := HS0.out; have := HF5.out.2.1; omega, HF5.out.1.stored (by have := HS0.out; have := HF5.out.2.1; omega) HF5.out.2.2 _ _, HB0.out.trans ((xr_store HX5 _ _).out.1.below HB0.out.size (by omega))⟩
  · exact bodyPost_ret (v := .agg #[.pointer (some ⟨w4.heap.size, 0, none⟩), .int .i64 e]) (by simp [results, Tryz.results31, go_sem, c0, c1]) rfl ⟨w4.heap.size, rfl, by have := HS0.out; have := HF5.out.2.1; omega, HF5.out.1.stored (by have := HS0.out; have := HF5.out.2.1; omega) HF5.out.2.2 _ _, HB0.out.trans ((xr_store HX5 _ _).out.1.below HB0.out.size (by omega))⟩
set_option maxRecDepth 4000 in
set_option maxHeartbeats 1000000 in
/-- Add where the first is 0: the second; where the second is: the first. -/
theorem xAdd_left (p1 p2 b1 : Nat) (e1 e2 e : Int) (w : World) (h1 : NumAt w p1 0 b1) (he : min e1 e2 = e) :
    Calls Tryz.prog 31 #[.agg #[.pointer (some ⟨p1, 0, none⟩), .int .i64 e1], .agg #[.pointer (some ⟨p2, 0, none⟩), .int .i64 e2]] w fun r w' => r = .returned (.agg #[.pointer (some ⟨p2, 0, none⟩), .int .i64 e2]) ∧ ∃ W0, Below w.heap.size w W0 ∧ W0.heap.size = w.heap.size + 3 ∧ W0.heap[w.heap.size + 2]? = some (XBox none 0) ∧ w' = (W0.setCell ⟨w.heap.size + 2, 0, none⟩ (.pointer (some ⟨p2, 0, none⟩))).setCell ⟨w.heap.size + 2, 1, none⟩ (.int .i64 e2) := by
  obtain ⟨W0, hW0⟩ : ∃ V, Hid (((w.alloc (XBox (some ⟨p1, 0, none⟩) e1)).alloc (XBox (some ⟨p2, 0, none⟩) e2)).alloc (XBox none 0) = V) := ⟨_, rfl⟩
  obtain ⟨g1, g2, g3⟩ := three_blk w (XBox (some ⟨p1, 0, none⟩) e1) (XBox (some ⟨p2, 0, none⟩) e2) (XBox none 0)
  have HS0 : Hid (W0.heap.size = w.heap.size + 3) := by
    show W0.heap.size = w.heap.size + 3
    rw [← hW0.out]; simp
  have HB0 : Hid (Below w.heap.size w W0) := by
    rw [← hW0.out]
    exact (((Below.refl _ _).alloc (Nat.le_refl _) _).alloc (by simp) _).alloc (by simp; omega) _
  rw [hW0.out] at g1 g2 g3
  have HG1 : Hid (Calls Tryz.prog 35 #[.pointer (some ⟨p1, 0, none⟩)] W0 fun r w' => r = .returned (.int .i64 0) ∧ w' = W0) := NSign p1 0 b1 W0 (h1.below HB0.out)
  obtain ⟨y00, y01, _⟩ := xcells_of (show W0.heap[w.heap.size]? = some (.cells #[.pointer (some ⟨p1, 0, none⟩), .int .i64 e1] 48) from g1)
  obtain ⟨y10, y11, _⟩ := xcells_of (show W0.heap[w.heap.size + 1]? = some (.cells #[.pointer (some ⟨p2, 0, none⟩), .int .i64 e2] 48) from g2)
  obtain ⟨z0, z1, z2⟩ := xcells_of (show W0.heap[w.heap.size + 1 + 1]? = some (.cells #[.pointer none, .int .i64 0] 48) from g3)
  have HG3 := hid g3
  unfold XBox at hW0
  have hW0' := hW0.out
  clear h1 g1 g2 g3
  go_enter Tryz.func31, Tryz.ntmps31
  go_wp2_with fail
  refine HG1.out.mono ?_
  rintro r w1 ⟨rfl, rfl⟩
  go_wp2
  exact bodyPost_ret (v := .agg #[.pointer (some ⟨p2, 0, none⟩), .int .i64 e2]) (by simp [results, Tryz.results31, go_sem, z0, z1]) rfl ⟨rfl, w1, HB0.out, HS0.out, HG3.out, rfl⟩
set_option maxRecDepth 4000 in
set_option maxHeartbeats 1000000 in
theorem xAdd_right (p1 p2 b1 b2 : Nat) (v1 e1 e2 e : Int) (w : World) (h1 : NumAt w p1 v1 b1) (h2 : NumAt w p2 0 b2) (hv1 : v1 ≠ 0) (he : min e1 e2 = e) :
    Calls Tryz.prog 31 #[.agg #[.pointer (some ⟨p1, 0, none⟩), .int .i64 e1], .agg #[.pointer (some ⟨p2, 0, none⟩), .int .i64 e2]] w fun r w' => r = .returned (.agg #[.pointer (some ⟨p1, 0, none⟩), .int .i64 e1]) ∧ ∃ W0, Below w.heap.size w W0 ∧ W0.heap.size = w.heap.size + 3 ∧ W0.heap[w.heap.size + 2]? = some (XBox none 0) ∧ w' = (W0.setCell ⟨w.heap.size + 2, 0, none⟩ (.pointer (some ⟨p1, 0, none⟩))).setCell ⟨w.heap.size + 2, 1, none⟩ (.int .i64 e1) := by
  obtain ⟨W0, hW0⟩ : ∃ V, Hid (((w.alloc (XBox (some ⟨p1, 0, none⟩) e1)).alloc (XBox (some ⟨p2, 0, none⟩) e2)).alloc (XBox none 0) = V) := ⟨_, rfl⟩
  obtain ⟨g1, g2, g3⟩ := three_blk w (XBox (some ⟨p1, 0, none⟩) e1) (XBox (some ⟨p2, 0, none⟩) e2) (XBox none 0)
  have HS0 : Hid (W0.heap.size = w.heap.size + 3) := by
    show W0.heap.size = w.heap.size + 3
    rw [← hW0.out]; simp
  have HB0 : Hid (Below w.heap.size w W0) := by
    rw [← hW0.out]
    exact (((Below.refl _ _).alloc (Nat.le_refl _) _).alloc (by simp) _).alloc (by simp; omega) _
  rw [hW0.out] at g1 g2 g3
  have HG1 : Hid (Calls Tryz.prog 35 #[.pointer (some ⟨p1, 0, none⟩)] W0 fun r w' => r = .returned (.int .i64 (sgnZ v1)) ∧ w' = W0) := NSign p1 v1 b1 W0 (h1.below HB0.out)
  have HG2 : Hid (Calls Tryz.prog 35 #[.pointer (some ⟨p2, 0, none⟩)] W0 fun r w' => r = .returned (.int .i64 0) ∧ w' = W0) := NSign p2 0 b2 W0 (h2.below HB0.out)
  have hs1 : ¬ sgnZ v1 = 0 := by unfold sgnZ; split <;> (try split) <;> omega
  obtain ⟨S1, hS1⟩ : ∃ S, Hid (sgnZ v1 = S) := ⟨_, rfl⟩
  rw [hS1.out] at HG1 hs1
  obtain ⟨y00, y01, _⟩ := xcells_of (show W0.heap[w.heap.size]? = some (.cells #[.pointer (some ⟨p1, 0, none⟩), .int .i64 e1] 48) from g1)
  obtain ⟨y10, y11, _⟩ := xcells_of (show W0.heap[w.heap.size + 1]? = some (.cells #[.pointer (some ⟨p2, 0, none⟩), .int .i64 e2] 48) from g2)
  obtain ⟨z0, z1, z2⟩ := xcells_of (show W0.heap[w.heap.size + 1 + 1]? = some (.cells #[.pointer none, .int .i64 0] 48) from g3)
  have HG3 := hid g3
  unfold XBox at hW0
  have hW0' := hW0.out
  clear h1 h2 g1 g2 g3 hv1
  go_enter Tryz.func31, Tryz.ntmps31
  go_wp2_with fail
  refine HG1.out.mono ?_
  rintro r w1 ⟨rfl, rfl⟩
  go_wp2_with fail
  refine HG2.out.mono ?_
  rintro r w1 ⟨rfl, rfl⟩
  go_wp2
  exact bodyPost_ret (v := .agg #[.pointer (some ⟨p1, 0, none⟩), .int .i64 e1]) (by simp [results, Tryz.results31, go_sem, z0, z1]) rfl ⟨rfl, w1, HB0.out, HS0.out, HG3.out, rfl⟩
end Go.Proofs.YtpjdmhidhllbkaaGreatDoor
