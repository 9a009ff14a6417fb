
/- The law MatrixOne. (Written by mkmzd.py.) -/
import Derived.Test.YtfkpdjieiifldabP45
namespace Go.Proofs.Ytfkpdjieiifldab
open Go.RowKit Go.IntWalk

set_option maxRecDepth 8000 in
set_option maxHeartbeats 8000000 in
theorem mone_walk (rx cx : Int) (sa : Option Addr) (n ka : Nat) (xs : List Nat) (w : World) (hu : U64At w sa n xs) (hn : n ≤ 17592186043904) :
    Calls Try.prog 4 #[.agg #[.int .i64 rx, .int .i64 cx, .slice sa n ka]] w fun e w' => e = .returned (.bool true) ∧ Below w.heap.size w w' := by
  have HB0 : Hid (Below w.heap.size w (w.alloc (BBox rx cx sa n ka))) := (Below.refl _ _).alloc (Nat.le_refl _) _
  have HX0 : Hid ((w.alloc (BBox rx cx sa n ka)).heap[w.heap.size]? = some (BBox rx cx sa n ka)) := nblkM _ _
  have HOX := hid (fun W (hW : Below w.heap.size w W) => of_any rx cx sa n ka xs W (hu.below hW) hn)
  have HN := hid hn
  obtain ⟨V, hV⟩ : ∃ V, Hid (w.alloc (BBox rx cx sa n ka) = V) := ⟨_, rfl⟩
  rw [hV.out] at HB0 HX0
  have hV' := hV.out
  unfold BBox at hV'
  obtain ⟨p0, hp0⟩ : ∃ t, Hid (w.heap.size = t) := ⟨_, rfl⟩
  rw [hp0.out] at HX0
  have hp0' := hp0.out
  clear hu hn
  go_enter Try.func4, Try.ntmps4
  go_wp2_with fail
  refine (awake8_any _).mono ?_
  rintro e w1 ⟨rfl, hb1⟩
  have HB := hid (HB0.out.trans (hb1.mono HB0.out.size))
  have HXB := hid (blkM HX0.out hb1)
  clear hb1
  obtain ⟨xb0, xb1, xb2⟩ := bcells_of HXB.out
  go_wp2_with fail
  refine (HOX.out _ HB.out).mono ?_
  rintro e u1 ⟨⟨ta, ca, rfl, hfa⟩, hb⟩
  have HB := hid (HB.out.trans (hb.mono HB.out.size))
  have HFA := hid hfa
  unfold MV
  clear hfa
  clear hb
  have hal : Below u1.heap.size u1 (u1.alloc (MBox rx cx ta n ca)) := (Below.refl _ _).alloc (Nat.le_refl _) _
  have HB := hid (HB.out.trans (hal.mono HB.out.size))
  have HFA := hid (HFA.out.below hal)
  have HIA : Hid ((u1.alloc (MBox rx cx ta n ca)).heap[u1.heap.size]? = some (MBox rx cx ta n ca)) := nblkM _ _
  obtain ⟨V1, hV1⟩ : ∃ V, Hid ((u1.alloc (MBox rx cx ta n ca)) = V) := ⟨_, rfl⟩
  rw [hV1.out] at HB HIA HFA
  have hV1' := hV1.out
  unfold MBox at hV1'
  obtain ⟨ia, hia⟩ : ∃ t, Hid (u1.heap.size = t) := ⟨_, rfl⟩
  rw [hia.out] at HIA
  have hia' := hia.out
  clear hal
  have HCA := hid (Check_any rx cx ta n ca xs _ HFA.out HN.out)
  unfold MV at HCA
  by_cases hEa : chkM rx cx n xs = 0
  · rw [hEa] at HCA
    obtain ⟨r, c, hr, hc, hga⟩ := gd_of HFA.out hEa
    subst hr hc
    have hn1 := hga.2.2.1
    subst hn1
    obtain ⟨f, hf⟩ : ∃ f : Nat → Nat, Hid ((fun j => xs.getD j 0) = f) := ⟨_, rfl⟩
    rw [hf.out] at hga
    have HGA := hid hga
    have HPL := hid (fun W (h : Gd W r c ta (r * c) ca f) => plus_good r c _ ta ca f W h)
    have HSY := hid (fun W (h : Gd W r c ta (r * c) ca f) => Sym_good r c _ ta ca f W h)
    obtain ⟨v, hv⟩ : ∃ v, Hid (symB r c f = v) := ⟨_, rfl⟩
    rw [hv.out] at HSY
    have HE1 := hid (fun W => Eye_good r hga.1 W)
    have HE2 := hid (fun W => Eye_good c hga.2.1 W)
    have HL := hid (fun W g1 (ho : Gd W r r (some ⟨g1, 0, none⟩) (r * r) (r * r) (eyeF r)) (h : Gd W r c ta (r * c) ca f) => Mul_eyeL r c _ ta ca g1 f W ho h)
    have HR := hid (fun W g1 (h : Gd W r c ta (r * c) ca f) (ho : Gd W c c (some ⟨g1, 0, none⟩) (c * c) (c * c) (eyeF c)) => Mul_eyeR r c _ ta ca g1 f W h ho)
    clear hga hEa HFA
    obtain ⟨c00, c01, c02⟩ := mcells_of HIA.out
    go_wp2_with fail
    refine (HCA.out).mono ?_
    rintro e u2 ⟨rfl, hb⟩
    have HB := hid (HB.out.trans (hb.mono HB.out.size))
    have HIA := hid (blkM HIA.out hb)
    have HGA := hid (HGA.out.below hb)
    clear hb
    obtain ⟨c00, c01, c02⟩ := mcells_of HIA.out
    go_wp2_with fail
    refine (HE1.out _).mono ?_
    rintro e u3 ⟨⟨g1, rfl, hg⟩, hb⟩
    have HB := hid (HB.out.trans (hb.mono HB.out.size))
    have HIA := hid (blkM HIA.out hb)
    have HGA := hid (HGA.out.below hb)
    have HG1 := hid hg
    clear hg
    clear hb
    have hal : Below u3.heap.size u3 (u3.alloc (MBox r r (some ⟨g1, 0, none⟩) (r * r) (r * r))) := (Below.refl _ _).alloc (Nat.le_refl _) _
    have HB := hid (HB.out.trans (hal.mono HB.out.size))
    have HIA := hid (blkM HIA.out hal)
    have HGA := hid (HGA.out.below hal)
    have HG1 := hid (HG1.out.below hal)
    have HIO : Hid ((u3.alloc (MBox r r (some ⟨g1, 0, none⟩) (r * r) (r * r))).heap[u3.heap.size]? = some (MBox r r (some ⟨g1, 0, none⟩) (r * r) (r * r))) := nblkM _ _
    obtain ⟨V3, hV3⟩ : ∃ V, Hid ((u3.alloc (MBox r r (some ⟨g1, 0, none⟩) (r * r) (r * r))) = V) := ⟨_, rfl⟩
    rw [hV3.out] at HB HIO HIA HGA HG1
    have hV3' := hV3.out
    unfold MBox at hV3'
    obtain ⟨io, hio⟩ : ∃ t, Hid (u3.heap.size = t) := ⟨_, rfl⟩
    rw [hio.out] at HIO
    have hio' := hio.out
    clear hal
    obtain ⟨c00, c01, c02⟩ := mcells_of HIA.out
    go_wp2_with fail
    refine (HE2.out _).mono ?_
    rintro e u4 ⟨⟨g2, rfl, hg⟩, hb⟩
    have HB := hid (HB.out.trans (hb.mono HB.out.size))
    have HIA := hid (blkM HIA.out hb)
    have HIO := hid (blkM HIO.out hb)
    have HGA := hid (HGA.out.below hb)
    have HG1 := hid (HG1.out.below hb)
    have HG2 := hid hg
    clear hg
    clear hb
    have hal : Below u4.heap.size u4 (u4.alloc (MBox c c (some ⟨g2, 0, none⟩) (c * c) (c * c))) := (Below.refl _ _).alloc (Nat.le_refl _) _
    have HB := hid (HB.out.trans (hal.mono HB.out.size))
    have HIA := hid (blkM HIA.out hal)
    have HIO := hid (blkM HIO.out hal)
    have HGA := hid (HGA.out.below hal)
    have HG1 := hid (HG1.out.below hal)
    have HG2 := hid (HG2.out.below hal)
    have HIW : Hid ((u4.alloc (MBox c c (some ⟨g2, 0, none⟩) (c * c) (c * c))).heap[u4.heap.size]? = some (MBox c c (some ⟨g2, 0, none⟩) (c * c) (c * c))) := nblkM _ _
    obtain ⟨V4, hV4⟩ : ∃ V, Hid ((u4.alloc (MBox c c (some ⟨g2, 0, none⟩) (c * c) (c * c))) = V) := ⟨_, rfl⟩
    rw [hV4.out] at HB HIW HIA HIO HGA HG1 HG2
    have hV4' := hV4.out
    unfold MBox at hV4'
    obtain ⟨iw, hiw⟩ : ∃ t, Hid (u4.heap.size = t) := ⟨_, rfl⟩
    rw [hiw.out] at HIW
    have hiw' := hiw.out
    clear hal
    obtain ⟨c00, c01, c02⟩ := mcells_of HIO.out
    obtain ⟨c10, c11, c12⟩ := mcells_of HIA.out
    go_wp2_with fail
    refine (HL.out _ g1 HG1.out HGA.out).mono ?_
    rintro e u5 ⟨⟨gp, op, rfl, hf, hk⟩, hb⟩
    have HB := hid (HB.out.trans (hb.mono HB.out.size))
    have HIA := hid (blkM HIA.out hb)
    have HIO := hid (blkM HIO.out hb)
    have HIW := hid (blkM HIW.out hb)
    have HGA := hid (HGA.out.below hb)
    have HG1 := hid (HG1.out.below hb)
    have HG2 := hid (HG2.out.below hb)
    have HFP := hid hf
    have HKP := hid hk
    clear hf hk
    clear hb
    have hal : Below u5.heap.size u5 (u5.alloc (MBox r c (some ⟨gp, 0, none⟩) (r * c) (r * c))) := (Below.refl _ _).alloc (Nat.le_refl _) _
    have HB := hid (HB.out.trans (hal.mono HB.out.size))
    have HIA := hid (blkM HIA.out hal)
    have HIO := hid (blkM HIO.out hal)
    have HIW := hid (blkM HIW.out hal)
    have HGA := hid (HGA.out.below hal)
    have HG1 := hid (HG1.out.below hal)
    have HG2 := hid (HG2.out.below hal)
    have HFP := hid (HFP.out.below hal)
    have HIP : Hid ((u5.alloc (MBox r c (some ⟨gp, 0, none⟩) (r * c) (r * c))).heap[u5.heap.size]? = some (MBox r c (some ⟨gp, 0, none⟩) (r * c) (r * c))) := nblkM _ _
    obtain ⟨V5, hV5⟩ : ∃ V, Hid ((u5.alloc (MBox r c (some ⟨gp, 0, none⟩) (r * c) (r * c))) = V) := ⟨_, rfl⟩
    rw [hV5.out] at HB HIP HIA HIO HIW HGA HG1 HG2 HFP
    have hV5' := hV5.out
    unfold MBox at hV5'
    obtain ⟨ip, hip⟩ : ∃ t, Hid (u5.heap.size = t) := ⟨_, rfl⟩
    rw [hip.out] at HIP
    have hip' := hip.out
    clear hal
    obtain ⟨c00, c01, c02⟩ := mcells_of HIA.out
    obtain ⟨c10, c11, c12⟩ := mcells_of HIW.out
    go_wp2_with fail
    refine (HR.out _ g2 HGA.out HG2.out).mono ?_
    rintro e u6 ⟨⟨gq, oq, rfl, hf, hk⟩, hb⟩
    have HB := hid (HB.out.trans (hb.mono HB.out.size))
    have HIA := hid (blkM HIA.out hb)
    have HIO := hid (blkM HIO.out hb)
    have HIW := hid (blkM HIW.out hb)
    have HIP := hid (blkM HIP.out hb)
    have HGA := hid (HGA.out.below hb)
    have HG1 := hid (HG1.out.below hb)
    have HG2 := hid (HG2.out.below hb)
    have HFP := hid (HFP.out.below hb)
    have HFQ := hid hf
    have HKQ := hid hk
    clear hf hk
    clear hb
    have hal : Below u6.heap.size u6 (u6.alloc (MBox r c (some ⟨gq, 0, none⟩) (r * c) (r * c))) := (Below.refl _ _).alloc (Nat.le_refl _) _
    have HB := hid (HB.out.trans (hal.mono HB.out.size))
    have HIA := hid (blkM HIA.out hal)
    have HIO := hid (blkM HIO.out hal)
    have HIW := hid (blkM HIW.out hal)
    have HIP := hid (blkM HIP.out hal)
    have HGA := hid (HGA.out.below hal)
    have HG1 := hid (HG1.out.below hal)
    have HG2 := hid (HG2.out.below hal)
    have HFP := hid (HFP.out.below hal)
    have HFQ := hid (HFQ.out.below hal)
    have HIQ : Hid ((u6.alloc (MBox r c (some ⟨gq, 0, none⟩) (r * c) (r * c))).heap[u6.heap.size]? = some (MBox r c (some ⟨gq, 0, none⟩) (r * c) (r * c))) := nblkM _ _
    obtain ⟨V6, hV6⟩ : ∃ V, Hid ((u6.alloc (MBox r c (some ⟨gq, 0, none⟩) (r * c) (r * c))) = V) := ⟨_, rfl⟩
    rw [hV6.out] at HB HIQ HIA HIO HIW HIP HGA HG1 HG2 HFP HFQ
    have hV6' := hV6.out
    unfold MBox at hV6'
    obtain ⟨iq, hiq⟩ : ∃ t, Hid (u6.heap.size = t) := ⟨_, rfl⟩
    rw [hiq.out] at HIQ
    have hiq' := hiq.out
    clear hal
    have HKT : Hid (∀ W, Hid (Below V6.heap.size V6 W) → (W.cell? ⟨ip, 0, none⟩ = some (.int .i64 r) ∧ W.cell? ⟨ip, 1, none⟩ = some (.int .i64 c) ∧ W.cell? ⟨ip, 2, none⟩ = some (.slice (some ⟨gp, 0, none⟩) (r * c) (r * c)) ∧ W.cell? ⟨ia, 0, none⟩ = some (.int .i64 r) ∧ W.cell? ⟨ia, 1, none⟩ = some (.int .i64 c) ∧ W.cell? ⟨ia, 2, none⟩ = some (.slice ta (r * c) ca) ∧ W.cell? ⟨iq, 0, none⟩ = some (.int .i64 r) ∧ W.cell? ⟨iq, 1, none⟩ = some (.int .i64 c) ∧ W.cell? ⟨iq, 2, none⟩ = some (.slice (some ⟨gq, 0, none⟩) (r * c) (r * c))) ∧ Hid (Below V6.heap.size V6 W)) := fun W hW => by
      obtain ⟨a00, a01, a02⟩ := mcells_of (blkM HIP.out hW.out)
      obtain ⟨a10, a11, a12⟩ := mcells_of (blkM HIA.out hW.out)
      obtain ⟨a20, a21, a22⟩ := mcells_of (blkM HIQ.out hW.out)
      exact ⟨⟨a00, a01, a02, a10, a11, a12, a20, a21, a22⟩, hW⟩
    have HQ0 : Hid (Below V6.heap.size V6 V6.drew) := (Below.refl _ _).drew
    go_wp2_with fail
    refine wp_region_held_drew (S := fun W => (W.cell? ⟨ip, 0, none⟩ = some (.int .i64 r) ∧ W.cell? ⟨ip, 1, none⟩ = some (.int .i64 c) ∧ W.cell? ⟨ip, 2, none⟩ = some (.slice (some ⟨gp, 0, none⟩) (r * c) (r * c)) ∧ W.cell? ⟨ia, 0, none⟩ = some (.int .i64 r) ∧ W.cell? ⟨ia, 1, none⟩ = some (.int .i64 c) ∧ W.cell? ⟨ia, 2, none⟩ = some (.slice ta (r * c) ca) ∧ W.cell? ⟨iq, 0, none⟩ = some (.int .i64 r) ∧ W.cell? ⟨iq, 1, none⟩ = some (.int .i64 c) ∧ W.cell? ⟨iq, 2, none⟩ = some (.slice (some ⟨gq, 0, none⟩) (r * c) (r * c))) ∧ Hid (Below V6.heap.size V6 W)) (by kernel_rfl) (HKT.out _ HQ0) (fun hHeld => ?_)
    refine take_at 0 44 (.int .i64 0) rfl rfl (by kernel_rfl) (by kernel_rfl) (by kernel_rfl) (fun _ _ _ h => h) (Or.inl ⟨by rfl, fun w hSw => by (try dsimp only at hSw); go_simp⟩) (by assumption) ?_
    simp only [Act.put, List.setIfInBounds_toArray, List.set_cons_zero, List.set_cons_succ]
    refine take_at 1 45 (.bool false) rfl rfl (by kernel_rfl) (by kernel_rfl) (by kernel_rfl) (fun _ _ _ h => h) (Or.inl ⟨by rfl, fun w hSw => by (try dsimp only at hSw); go_simp⟩) (by assumption) ?_
    simp only [Act.put, List.setIfInBounds_toArray, List.set_cons_zero, List.set_cons_succ]
    refine take_at 2 46 (.bool false) rfl rfl (by kernel_rfl) (by kernel_rfl) (by kernel_rfl) (fun _ _ _ h => h) (Or.inl ⟨by rfl, fun w hSw => by (try dsimp only at hSw); go_simp⟩) (by assumption) ?_
    simp only [Act.put, List.setIfInBounds_toArray, List.set_cons_zero, List.set_cons_succ]
    refine take_at 3 47 (.int .i64 0) rfl rfl (by kernel_rfl) (by kernel_rfl) (by kernel_rfl) (fun _ _ _ h => h) (Or.inl ⟨by rfl, fun w hSw => by (try dsimp only at hSw); go_simp⟩) (by assumption) ?_
    simp only [Act.put, List.setIfInBounds_toArray, List.set_cons_zero, List.set_cons_succ]
    refine take_at 4 48 (.bool false) rfl rfl (by kernel_rfl) (by kernel_rfl) (by kernel_rfl) (fun _ _ _ h => h) (Or.inl ⟨by rfl, fun w hSw => by (try dsimp only at hSw); go_simp⟩) (by assumption) ?_
    simp only [Act.put, List.setIfInBounds_toArray, List.set_cons_zero, List.set_cons_succ]
    refine take_at 5 49 (.bool false) rfl rfl (by kernel_rfl) (by kernel_rfl) (by kernel_rfl) (fun _ _ _ h => h) (Or.inl ⟨by rfl, fun w hSw => by (try dsimp only at hSw); go_simp⟩) (by assumption) ?_
    simp only [Act.put, List.setIfInBounds_toArray, List.set_cons_zero, List.set_cons_succ]
    refine take_at 6 50 (.bool false) rfl rfl (by kernel_rfl) (by kernel_rfl) (by kernel_rfl) (fun _ _ _ h => h) (Or.inl ⟨by rfl, fun w hSw => by (try dsimp only at hSw); go_simp⟩) (by assumption) ?_
    simp only [Act.put, List.setIfInBounds_toArray, List.set_cons_zero, List.set_cons_succ]
    refine take_at 7 51 (.int .i64 0) rfl rfl (by kernel_rfl) (by kernel_rfl) (by kernel_rfl) (fun _ _ _ h => h) (Or.inl ⟨by rfl, fun w hSw => by (try dsimp only at hSw); go_simp⟩) (by assumption) ?_
    simp only [Act.put, List.setIfInBounds_toArray, List.set_cons_zero, List.set_cons_succ]
    refine take_at 8 52 (.bool false) rfl rfl (by kernel_rfl) (by kernel_rfl) (by kernel_rfl) (fun _ _ _ h => h) (Or.inl ⟨by rfl, fun w hSw => by (try dsimp only at hSw); go_simp⟩) (by assumption) ?_
    simp only [Act.put, List.setIfInBounds_toArray, List.set_cons_zero, List.set_cons_succ]
    refine take_at 9 53 (.bool false) rfl rfl (by kernel_rfl) (by kernel_rfl) (by kernel_rfl) (fun _ _ _ h => h) (Or.inl ⟨by rfl, fun w hSw => by (try dsimp only at hSw); go_simp⟩) (by assumption) ?_
    simp only [Act.put, List.setIfInBounds_toArray, List.set_cons_zero, List.set_cons_succ]
    refine take_at 10 54 (.bool false) rfl rfl (by kernel_rfl) (by kernel_rfl) (by kernel_rfl) (fun _ _ _ h => h) (Or.inl ⟨by rfl, fun w hSw => by (try dsimp only at hSw); go_simp⟩) (by assumption) ?_
    simp only [Act.put, List.setIfInBounds_toArray, List.set_cons_zero, List.set_cons_succ]
    refine take_at 11 55 (.int .i64 0) rfl rfl (by kernel_rfl) (by kernel_rfl) (by kernel_rfl) (fun _ _ _ h => h) (Or.inl ⟨by rfl, fun w hSw => by (try dsimp only at hSw); go_simp⟩) (by assumption) ?_
    simp only [Act.put, List.setIfInBounds_toArray, List.set_cons_zero, List.set_cons_succ]
    refine take_at 12 56 (.bool false) rfl rfl (by kernel_rfl) (by kernel_rfl) (by kernel_rfl) (fun _ _ _ h => h) (Or.inl ⟨by rfl, fun w hSw => by (try dsimp only at hSw); go_simp⟩) (by assumption) ?_
    simp only [Act.put, List.setIfInBounds_toArray, List.set_cons_zero, List.set_cons_succ]
    refine take_at 13 57 (.bool false) rfl rfl (by kernel_rfl) (by kernel_rfl) (by kernel_rfl) (fun _ _ _ h => h) (Or.inl ⟨by rfl, fun w hSw => by (try dsimp only at hSw); go_simp⟩) (by assumption) ?_
    simp only [Act.put, List.setIfInBounds_toArray, List.set_cons_zero, List.set_cons_succ]
    refine take_at 14 58 (.bool false) rfl rfl (by kernel_rfl) (by kernel_rfl) (by kernel_rfl) (fun _ _ _ h => h) (Or.inl ⟨by rfl, fun w hSw => by (try dsimp only at hSw); go_simp⟩) (by assumption) ?_
    simp only [Act.put, List.setIfInBounds_toArray, List.set_cons_zero, List.set_cons_succ]
    refine take_at 15 59 (.agg #[.int .i64 r, .int .i64 c, .slice (some ⟨gp, 0, none⟩) (r * c) (r * c)]) rfl rfl (by kernel_rfl) (by kernel_rfl) (by kernel_rfl) (fun _ _ _ h => h) (Or.inl ⟨by rfl, fun w hSw => by (try dsimp only at hSw); go_simp⟩) (by assumption) ?_
    simp only [Act.put, List.setIfInBounds_toArray, List.set_cons_zero, List.set_cons_succ]
    refine take_at 16 60 (.agg #[.int .i64 r, .int .i64 c, .slice ta (r * c) ca]) rfl rfl (by kernel_rfl) (by kernel_rfl) (by kernel_rfl) (fun _ _ _ h => h) (Or.inl ⟨by rfl, fun w hSw => by (try dsimp only at hSw); go_simp⟩) (by assumption) ?_
    simp only [Act.put, List.setIfInBounds_toArray, List.set_cons_zero, List.set_cons_succ]
    refine wpAnyH_ready (rs := [17]) (by kernel_rfl) (by simp) ?_
    refine AllReadyH.cons (o := _) rfl (fun K hK => ?_) AllReadyH.nil
    go_simp
    refine (HPL.out _ (HGA.out.below HQ0.out)).mono ?_
    rintro e t1 ⟨⟨s1, k1, rfl, hf⟩, hb⟩
    have HW1 : Hid (Below V6.heap.size V6 t1) := HQ0.out.trans (hb.mono HQ0.out.size)
    have HP1 := hid hf
    clear hf hb
    go_wp2_with fail
    refine hK.out _ _ (HKT.out _ HW1) (fun hHeld1 => ?_)
    clear hK K
    try simp only [Act.put, List.setIfInBounds_toArray, List.set_cons_zero, List.set_cons_succ]
    refine wpAnyH_ready (rs := [18]) (by kernel_rfl) (by simp) ?_
    refine AllReadyH.cons (o := _) rfl (fun K hK => ?_) AllReadyH.nil
    go_simp
    refine (alike_yes r c _ _ (r * c) (r * c) k1 op _ _ (HFP.out.below HW1.out) HP1.out HKP.out).mono ?_
    rintro e t2 ⟨rfl, hb⟩
    have HW2 : Hid (Below V6.heap.size V6 t2) := HW1.out.trans (hb.mono HW1.out.size)
    clear hb
    go_wp2_with fail
    refine hK.out _ _ (HKT.out _ HW2) (fun hHeld2 => ?_)
    clear hK K
    try simp only [Act.put, List.setIfInBounds_toArray, List.set_cons_zero, List.set_cons_succ]
    refine take_at 19 63 (.bool false) rfl rfl (by kernel_rfl) (by kernel_rfl) (by kernel_rfl) (fun _ _ _ h => h) (Or.inl ⟨by rfl, fun w hSw => by (try dsimp only at hSw); go_simp⟩) (by assumption) ?_
    simp only [Act.put, List.setIfInBounds_toArray, List.set_cons_zero, List.set_cons_succ]
    refine take_at 20 64 (.bool false) rfl rfl (by kernel_rfl) (by kernel_rfl) (by kernel_rfl) (fun _ _ _ h => h) (Or.inl ⟨by rfl, fun w hSw => by (try dsimp only at hSw); go_simp⟩) (by assumption) ?_
    simp only [Act.put, List.setIfInBounds_toArray, List.set_cons_zero, List.set_cons_succ]
    refine take_at 21 65 (.bool false) rfl rfl (by kernel_rfl) (by kernel_rfl) (by kernel_rfl) (fun _ _ _ h => h) (Or.inl ⟨by rfl, fun w hSw => by (try dsimp only at hSw); go_simp⟩) (by assumption) ?_
    simp only [Act.put, List.setIfInBounds_toArray, List.set_cons_zero, List.set_cons_succ]
    refine take_at 22 66 (.agg #[.int .i64 r, .int .i64 c, .slice (some ⟨gq, 0, none⟩) (r * c) (r * c)]) rfl rfl (by kernel_rfl) (by kernel_rfl) (by kernel_rfl) (fun _ _ _ h => h) (Or.inl ⟨by rfl, fun w hSw => by (try dsimp only at hSw); go_simp⟩) (by assumption) ?_
    simp only [Act.put, List.setIfInBounds_toArray, List.set_cons_zero, List.set_cons_succ]
    refine take_at 23 67 (.agg #[.int .i64 r, .int .i64 c, .slice ta (r * c) ca]) rfl rfl (by kernel_rfl) (by kernel_rfl) (by kernel_rfl) (fun _ _ _ h => h) (Or.inl ⟨by rfl, fun w hSw => by (try dsimp only at hSw); go_simp⟩) (by assumption) ?_
    simp only [Act.put, List.setIfInBounds_toArray, List.set_cons_zero, List.set_cons_succ]
    refine wpAnyH_ready (rs := [24]) (by kernel_rfl) (by simp) ?_
    refine AllReadyH.cons (o := _) rfl (fun K hK => ?_) AllReadyH.nil
    go_simp
    refine (HPL.out _ (HGA.out.below HW2.out)).mono ?_
    rintro e t3 ⟨⟨s3, k3, rfl, hf⟩, hb⟩
    have HW3 : Hid (Below V6.heap.size V6 t3) := HW2.out.trans (hb.mono HW2.out.size)
    have HP3 := hid hf
    clear hf hb
    go_wp2_with fail
    refine hK.out _ _ (HKT.out _ HW3) (fun hHeld3 => ?_)
    clear hK K
    try simp only [Act.put, List.setIfInBounds_toArray, List.set_cons_zero, List.set_cons_succ]
    refine wpAnyH_ready (rs := [25]) (by kernel_rfl) (by simp) ?_
    refine AllReadyH.cons (o := _) rfl (fun K hK => ?_) AllReadyH.nil
    go_simp
    refine (alike_yes r c _ _ (r * c) (r * c) k3 oq _ _ (HFQ.out.below HW3.out) HP3.out HKQ.out).mono ?_
    rintro e t4 ⟨rfl, hb⟩
    have HW4 : Hid (Below V6.heap.size V6 t4) := HW3.out.trans (hb.mono HW3.out.size)
    clear hb
    go_wp2_with fail
    refine hK.out _ _ (HKT.out _ HW4) (fun hHeld4 => ?_)
    clear hK K
    try simp only [Act.put, List.setIfInBounds_toArray, List.set_cons_zero, List.set_cons_succ]
    refine take_at 26 70 (.bool false) rfl rfl (by kernel_rfl) (by kernel_rfl) (by kernel_rfl) (fun _ _ _ h => h) (Or.inl ⟨by rfl, fun w hSw => by (try dsimp only at hSw); go_simp⟩) (by assumption) ?_
    simp only [Act.put, List.setIfInBounds_toArray, List.set_cons_zero, List.set_cons_succ]
    refine take_at 27 71 (.bool false) rfl rfl (by kernel_rfl) (by kernel_rfl) (by kernel_rfl) (fun _ _ _ h => h) (Or.inl ⟨by rfl, fun w hSw => by (try dsimp only at hSw); go_simp⟩) (by assumption) ?_
    simp only [Act.put, List.setIfInBounds_toArray, List.set_cons_zero, List.set_cons_succ]
    refine wpAnyH_done (by kernel_rfl) ?_ _
    have HB := hid (HB.out.trans (HW4.out.mono HB.out.size))
    have HIA := hid (blkM HIA.out HW4.out)
    have HIO := hid (blkM HIO.out HW4.out)
    have HGA := hid (HGA.out.below HW4.out)
    have HG1 := hid (HG1.out.below HW4.out)
    clear HKT HQ0 HW1 HW2 HW3 HW4 HP1 HP3 hHeld hHeld1 hHeld2 hHeld3 hHeld4 HFP HFQ HIP HIQ HG2 HIW HKP HKQ HE1 HE2 HL HR HCA
    obtain ⟨c00, c01, c02⟩ := mcells_of HIA.out
    go_wp2_with fail
    refine (HSY.out _ HGA.out).mono ?_
    rintro e u8 ⟨rfl, hb⟩
    have HB := hid (HB.out.trans (hb.mono HB.out.size))
    have HIA := hid (blkM HIA.out hb)
    have HIO := hid (blkM HIO.out hb)
    have HGA := hid (HGA.out.below hb)
    have HG1 := hid (HG1.out.below hb)
    clear hb
    cases hvv : v with
    | false =>
      go_wp2_with fail
      go_ret
      exact ⟨rfl, HB.out⟩
    | true =>
      have hs0 := hv.out.trans hvv
      have hrc : r = c := by
        apply Classical.byContradiction
        intro h
        unfold symB at hs0
        rw [decide_eq_false h] at hs0
        cases hs0
      subst hrc
      have HSS := hid ((symB_iff _ _).1 hs0)
      clear hs0
      obtain ⟨c00, c01, c02⟩ := mcells_of HIO.out
      obtain ⟨c10, c11, c12⟩ := mcells_of HIA.out
      go_wp2_with fail
      refine (Sand_eye r _ ta ca g1 f _ HG1.out HGA.out HSS.out).mono ?_
      rintro e u9 ⟨⟨gs, os, rfl, hf, hk⟩, hb⟩
      have HB := hid (HB.out.trans (hb.mono HB.out.size))
      have HIA := hid (blkM HIA.out hb)
      have HIO := hid (blkM HIO.out hb)
      have HGA := hid (HGA.out.below hb)
      have HG1 := hid (HG1.out.below hb)
      have HFS := hid hf
      have HKS := hid hk
      clear hf hk
      clear hb
      have hal : Below u9.heap.size u9 (u9.alloc (MBox r r (some ⟨gs, 0, none⟩) (r * r) (r * r))) := (Below.refl _ _).alloc (Nat.le_refl _) _
      have HB := hid (HB.out.trans (hal.mono HB.out.size))
      have HIA := hid (blkM HIA.out hal)
      have HIO := hid (blkM HIO.out hal)
      have HGA := hid (HGA.out.below hal)
      have HG1 := hid (HG1.out.below hal)
      have HFS := hid (HFS.out.below hal)
      have HIS : Hid ((u9.alloc (MBox r r (some ⟨gs, 0, none⟩) (r * r) (r * r))).heap[u9.heap.size]? = some (MBox r r (some ⟨gs, 0, none⟩) (r * r) (r * r))) := nblkM _ _
      obtain ⟨V9, hV9⟩ : ∃ V, Hid ((u9.alloc (MBox r r (some ⟨gs, 0, none⟩) (r * r) (r * r))) = V) := ⟨_, rfl⟩
      rw [hV9.out] at HB HIS HIA HIO HGA HG1 HFS
      have hV9' := hV9.out
      unfold MBox at hV9'
      obtain ⟨iss, hiss⟩ : ∃ t, Hid (u9.heap.size = t) := ⟨_, rfl⟩
      rw [hiss.out] at HIS
      have hiss' := hiss.out
      clear hal
      have HKT : Hid (∀ W, Hid (Below V9.heap.size V9 W) → (W.cell? ⟨iss, 0, none⟩ = some (.int .i64 r) ∧ W.cell? ⟨iss, 1, none⟩ = some (.int .i64 r) ∧ W.cell? ⟨iss, 2, none⟩ = some (.slice (some ⟨gs, 0, none⟩) (r * r) (r * r)) ∧ W.cell? ⟨ia, 0, none⟩ = some (.int .i64 r) ∧ W.cell? ⟨ia, 1, none⟩ = some (.int .i64 r) ∧ W.cell? ⟨ia, 2, none⟩ = some (.slice ta (r * r) ca)) ∧ Hid (Below V9.heap.size V9 W)) := fun W hW => by
        obtain ⟨a00, a01, a02⟩ := mcells_of (blkM HIS.out hW.out)
        obtain ⟨a10, a11, a12⟩ := mcells_of (blkM HIA.out hW.out)
        exact ⟨⟨a00, a01, a02, a10, a11, a12⟩, hW⟩
      have HQ0 : Hid (Below V9.heap.size V9 V9.drew) := (Below.refl _ _).drew
      go_wp2_with fail
      refine wp_region_held_drew (S := fun W => (W.cell? ⟨iss, 0, none⟩ = some (.int .i64 r) ∧ W.cell? ⟨iss, 1, none⟩ = some (.int .i64 r) ∧ W.cell? ⟨iss, 2, none⟩ = some (.slice (some ⟨gs, 0, none⟩) (r * r) (r * r)) ∧ W.cell? ⟨ia, 0, none⟩ = some (.int .i64 r) ∧ W.cell? ⟨ia, 1, none⟩ = some (.int .i64 r) ∧ W.cell? ⟨ia, 2, none⟩ = some (.slice ta (r * r) ca)) ∧ Hid (Below V9.heap.size V9 W)) (by kernel_rfl) (HKT.out _ HQ0) (fun hHeld => ?_)
      refine take_at 0 81 (.int .i64 0) rfl rfl (by kernel_rfl) (by kernel_rfl) (by kernel_rfl) (fun _ _ _ h => h) (Or.inl ⟨by rfl, fun w hSw => by (try dsimp only at hSw); go_simp⟩) (by assumption) ?_
      simp only [Act.put, List.setIfInBounds_toArray, List.set_cons_zero, List.set_cons_succ]
      refine take_at 1 82 (.bool true) rfl rfl (by kernel_rfl) (by kernel_rfl) (by kernel_rfl) (fun _ _ _ h => h) (Or.inl ⟨by rfl, fun w hSw => by (try dsimp only at hSw); go_simp⟩) (by assumption) ?_
      simp only [Act.put, List.setIfInBounds_toArray, List.set_cons_zero, List.set_cons_succ]
      refine take_at 2 83 (.bool true) rfl rfl (by kernel_rfl) (by kernel_rfl) (by kernel_rfl) (fun _ _ _ h => h) (Or.inl ⟨by rfl, fun w hSw => by (try dsimp only at hSw); go_simp⟩) (by assumption) ?_
      simp only [Act.put, List.setIfInBounds_toArray, List.set_cons_zero, List.set_cons_succ]
      refine take_at 3 84 (.agg #[.int .i64 r, .int .i64 r, .slice (some ⟨gs, 0, none⟩) (r * r) (r * r)]) rfl rfl (by kernel_rfl) (by kernel_rfl) (by kernel_rfl) (fun _ _ _ h => h) (Or.inl ⟨by rfl, fun w hSw => by (try dsimp only at hSw); go_simp⟩) (by assumption) ?_
      simp only [Act.put, List.setIfInBounds_toArray, List.set_cons_zero, List.set_cons_succ]
      refine take_at 4 85 (.agg #[.int .i64 r, .int .i64 r, .slice ta (r * r) ca]) rfl rfl (by kernel_rfl) (by kernel_rfl) (by kernel_rfl) (fun _ _ _ h => h) (Or.inl ⟨by rfl, fun w hSw => by (try dsimp only at hSw); go_simp⟩) (by assumption) ?_
      simp only [Act.put, List.setIfInBounds_toArray, List.set_cons_zero, List.set_cons_succ]
      refine wpAnyH_ready (rs := [5]) (by kernel_rfl) (by simp) ?_
      refine AllReadyH.cons (o := _) rfl (fun K hK => ?_) AllReadyH.nil
      go_simp
      refine (HPL.out _ (HGA.out.below HQ0.out)).mono ?_
      rintro e t1 ⟨⟨s1, k1, rfl, hf⟩, hb⟩
      have HW1 : Hid (Below V9.heap.size V9 t1) := HQ0.out.trans (hb.mono HQ0.out.size)
      have HP1 := hid hf
      clear hf hb
      go_wp2_with fail
      refine hK.out _ _ (HKT.out _ HW1) (fun hHeld1 => ?_)
      clear hK K
      try simp only [Act.put, List.setIfInBounds_toArray, List.set_cons_zero, List.set_cons_succ]
      refine wpAnyH_ready (rs := [6]) (by kernel_rfl) (by simp) ?_
      refine AllReadyH.cons (o := _) rfl (fun K hK => ?_) AllReadyH.nil
      go_simp
      refine (alike_yes r r _ _ (r * r) (r * r) k1 os _ _ (HFS.out.below HW1.out) HP1.out HKS.out).mono ?_
      rintro e t2 ⟨rfl, hb⟩
      have HW2 : Hid (Below V9.heap.size V9 t2) := HW1.out.trans (hb.mono HW1.out.size)
      clear hb
      go_wp2_with fail
      refine hK.out _ _ (HKT.out _ HW2) (fun hHeld2 => ?_)
      clear hK K
      try simp only [Act.put, List.setIfInBounds_toArray, List.set_cons_zero, List.set_cons_succ]
      refine take_at 7 88 (.bool true) rfl rfl (by kernel_rfl) (by kernel_rfl) (by kernel_rfl) (fun _ _ _ h => h) (Or.inl ⟨by rfl, fun w hSw => by (try dsimp only at hSw); go_simp⟩) (by assumption) ?_
      simp only [Act.put, List.setIfInBounds_toArray, List.set_cons_zero, List.set_cons_succ]
      refine take_at 8 2 (.bool true) rfl rfl (by kernel_rfl) (by kernel_rfl) (by kernel_rfl) (fun _ _ _ h => h) (Or.inl ⟨by rfl, fun w hSw => by (try dsimp only at hSw); go_simp⟩) (by assumption) ?_
      simp only [Act.put, List.setIfInBounds_toArray, List.set_cons_zero, List.set_cons_succ]
      refine wpAnyH_done (by kernel_rfl) ?_ _
      go_wp2_with fail
      go_ret
      exact ⟨rfl, HB.out.trans (HW2.out.mono HB.out.size)⟩
  · obtain ⟨F, hF⟩ : ∃ E, Hid (chkM rx cx n xs = E) := ⟨_, rfl⟩
    rw [hF.out] at HCA hEa
    have hne : (F != 0) = true := by simpa using hEa
    clear hEa
    obtain ⟨c00, c01, c02⟩ := mcells_of HIA.out
    go_wp2_with fail
    refine (HCA.out).mono ?_
    rintro e u2 ⟨rfl, hb⟩
    have HB := hid (HB.out.trans (hb.mono HB.out.size))
    have HIA := hid (blkM HIA.out hb)
    have HFA := hid (HFA.out.below hb)
    clear hb
    go_wp2_with fail
    go_ret
    exact ⟨rfl, HB.out⟩
end Go.Proofs.Ytfkpdjieiifldab
