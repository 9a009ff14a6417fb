
/- model: the chapter's first examples. -/
import Derived.Test.YtggiklghcnojiaaP38
namespace Go.Proofs.Ytggiklghcnojiaa
open Go.RowKit Go.IntWalk

set_option maxRecDepth 4000 in
set_option maxHeartbeats 1000000 in
theorem F_two (pg : Nat) (w : World) (hg : w.heap[pg]? = some (PBox 2 1 4613937818241073152 0)) : Calls Try.prog 8 #[.agg #[.slice (some ⟨pg, 0, none⟩) 1 1], .int .i64 2000000] w fun e w' => (∃ g, e = .returned (.tuple #[.agg #[.int .i64 2, .int .i64 2, .slice (some ⟨g, 0, none⟩) 4 4], .int .i64 0]) ∧ w'.heap[g]? = some (L4 4607182418800017408 4611686018427387904 0 4607182418800017408)) ∧ Below w.heap.size w w' := by
  obtain ⟨t1, t2, t3, t4⟩ := two_b w (MoBox (some ⟨pg, 0, none⟩) 1 1) (MBox 0 0 none 0 0)
  have HLA := hid (fun W h => laidF pg W h)
  obtain ⟨V, hV⟩ : ∃ V, Hid ((w.alloc (MoBox (some ⟨pg, 0, none⟩) 1 1)).alloc (MBox 0 0 none 0 0) = V) := ⟨_, rfl⟩
  rw [hV.out] at t1 t2 t3 t4
  have hV' := hV.out
  have HB := hid t3
  have HR := hid t2
  have HP := hid (blkM hg t3)
  have c0 := mocell_of t1
  unfold MoBox MBox at hV'
  clear t1 t2 t3 t4 hg
  go_enter Try.func8, Try.ntmps8
  go_wp2_with fail
  refine (HLA.out _ HP.out).mono ?_
  rintro e w1 ⟨⟨g, rfl, hl⟩, hb⟩
  have HB1 := hid (HB.out.trans (hb.mono HB.out.size))
  have HR1 := hid (blkM HR.out hb)
  have HL1 := hid hl
  have HNE : Hid (g ≠ w.heap.size + 1) := by
    intro e
    have h1 := HL1.out
    have h2 := HR1.out
    rw [e, h2] at h1
    unfold MBox L4 at h1
    simp at h1
  obtain ⟨r0, r1, r2⟩ := mcells_of HR1.out
  have fz := frzM HR1.out
  clear hb hl
  go_wp2_with fail
  refine bodyPost_ret (v := .tuple #[.agg #[.int .i64 2, .int .i64 2, .slice (some ⟨g, 0, none⟩) 4 4], .int .i64 0]) (by simp [results, Try.results8, go_sem, r0, r1, r2]) rfl ⟨⟨g, rfl, (StoM.keep HNE.out).trans HL1.out⟩, StoM.below HB1.out (by omega)⟩
set_option maxRecDepth 4000 in
set_option maxHeartbeats 1000000 in
theorem Q_two (pg : Nat) (w : World) (hg : w.heap[pg]? = some (PBox 2 1 4613937818241073152 0)) : Calls Try.prog 9 #[.agg #[.slice (some ⟨pg, 0, none⟩) 1 1], .int .i64 2000000] w fun e w' => (∃ g, e = .returned (.tuple #[.agg #[.int .i64 2, .int .i64 2, .slice (some ⟨g, 0, none⟩) 4 4], .int .i64 0]) ∧ w'.heap[g]? = some (L4 4620693217682128896 4618441417868443648 4618441417868443648 4618441417868443648)) ∧ Below w.heap.size w w' := by
  obtain ⟨t1, t2, t3, t4⟩ := two_b w (MoBox (some ⟨pg, 0, none⟩) 1 1) (MBox 0 0 none 0 0)
  have HLA := hid (fun W h => laidQ pg W h)
  obtain ⟨V, hV⟩ : ∃ V, Hid ((w.alloc (MoBox (some ⟨pg, 0, none⟩) 1 1)).alloc (MBox 0 0 none 0 0) = V) := ⟨_, rfl⟩
  rw [hV.out] at t1 t2 t3 t4
  have hV' := hV.out
  have HB := hid t3
  have HR := hid t2
  have HP := hid (blkM hg t3)
  have c0 := mocell_of t1
  unfold MoBox MBox at hV'
  clear t1 t2 t3 t4 hg
  go_enter Try.func9, Try.ntmps9
  go_wp2_with fail
  refine (HLA.out _ HP.out).mono ?_
  rintro e w1 ⟨⟨g, rfl, hl⟩, hb⟩
  have HB1 := hid (HB.out.trans (hb.mono HB.out.size))
  have HR1 := hid (blkM HR.out hb)
  have HL1 := hid hl
  have HNE : Hid (g ≠ w.heap.size + 1) := by
    intro e
    have h1 := HL1.out
    have h2 := HR1.out
    rw [e, h2] at h1
    unfold MBox L4 at h1
    simp at h1
  obtain ⟨r0, r1, r2⟩ := mcells_of HR1.out
  have fz := frzM HR1.out
  clear hb hl
  go_wp2_with fail
  refine bodyPost_ret (v := .tuple #[.agg #[.int .i64 2, .int .i64 2, .slice (some ⟨g, 0, none⟩) 4 4], .int .i64 0]) (by simp [results, Try.results9, go_sem, r0, r1, r2]) rfl ⟨⟨g, rfl, (StoM.keep HNE.out).trans HL1.out⟩, StoM.below HB1.out (by omega)⟩
set_option maxRecDepth 4000 in
set_option maxHeartbeats 4000000 in
theorem awake14_any (w : World) : Calls Try.prog 4 #[] w fun r w' => r = .returned (.bool true) ∧ Below w.heap.size w w' := by
  obtain ⟨t1, t2, t3, t4⟩ := two_b w (PBox 2 1 4613937818241073152 0) (MoBox (some ⟨w.heap.size, 0, none⟩) 1 1)
  obtain ⟨V, hV⟩ : ∃ V, Hid ((w.alloc (PBox 2 1 4613937818241073152 0)).alloc (MoBox (some ⟨w.heap.size, 0, none⟩) 1 1) = V) := ⟨_, rfl⟩
  rw [hV.out] at t1 t2 t3 t4
  have hV' := hV.out
  have HF := hid (fun W pg h => F_two pg W h)
  have HQ := hid (fun W pg h => Q_two pg W h)
  have HD := hid (fun W pg h => Dim_two pg W h)
  have HS := hid Seconds_half
  have HC := hid (fun W pg h => Check_two pg W h)
  have HN := hid Check_nil
  have HX : Hid (Below w.heap.size w V ∧ V.heap[w.heap.size]? = some (PBox 2 1 4613937818241073152 0) ∧ V.heap[w.heap.size + 1]? = some (MoBox (some ⟨w.heap.size, 0, none⟩) 1 1)) := ⟨t3, t1, t2⟩
  obtain ⟨pg, hpg⟩ : ∃ t, Hid (w.heap.size = t) := ⟨_, rfl⟩
  obtain ⟨mb, hmb⟩ : ∃ t, Hid (pg + 1 = t) := ⟨_, rfl⟩
  have HXX : Hid (∀ W, Below V.heap.size V W → Below w.heap.size w W ∧ W.heap[pg]? = some (PBox 2 1 4613937818241073152 0) ∧ W.heap[mb]? = some (MoBox (some ⟨pg, 0, none⟩) 1 1)) := fun W hb => by
    refine ⟨HX.out.1.trans (hb.mono HX.out.1.size), ?_, ?_⟩
    · rw [← hpg.out]; exact blkM HX.out.2.1 hb
    · rw [← hmb.out, ← hpg.out]; exact blkM HX.out.2.2 hb
  have hpg' := hpg.out
  have hmb' := hmb.out
  unfold PBox MoBox at hV'
  rw [hpg'] at hV'
  clear t1 t2 t3 t4 HX
  have HB0 := hid (Below.refl V.heap.size V)
  have c0 := mocell_of (HXX.out _ HB0.out).2.2
  have o1 : FloatKind.f64.format.order 4611686018427387904 4611686018427387904 = some .eq := by decide +kernel
  have o2 : FloatKind.f64.format.order 4620693217682128896 4620693217682128896 = some .eq := by decide +kernel
  have o3 : FloatKind.f64.format.order 4618441417868443648 4618441417868443648 = some .eq := by decide +kernel
  have o4 : FloatKind.f64.format.order 4602678819172646912 4602678819172646912 = some .eq := by decide +kernel
  go_enter Try.func4, Try.ntmps4
  go_wp2_with fail
  refine (HF.out _ _ (HXX.out _ HB0.out).2.1).mono ?_
  rintro e w1 ⟨⟨g, rfl, hl⟩, hb⟩
  have HB1 := hid (HB0.out.trans hb)
  have hal : Below w1.heap.size w1 (w1.alloc (MBox 2 2 (some ⟨g, 0, none⟩) 4 4)) := (Below.refl _ _).alloc (Nat.le_refl _) _
  have HA1 : Hid ((w1.alloc (MBox 2 2 (some ⟨g, 0, none⟩) 4 4)).heap[w1.heap.size]? = some (MBox 2 2 (some ⟨g, 0, none⟩) 4 4)) := nblkM _ _
  have HL1 := hid (blkM hl hal)
  have HB2 := hid (HB1.out.trans (hal.mono HB1.out.size))
  obtain ⟨W1, hW1⟩ : ∃ V, Hid (w1.alloc (MBox 2 2 (some ⟨g, 0, none⟩) 4 4) = V) := ⟨_, rfl⟩
  rw [hW1.out] at HA1 HL1 HB2
  have hW1' := hW1.out
  unfold MBox at hW1'
  obtain ⟨ab, hab⟩ : ∃ t, Hid (w1.heap.size = t) := ⟨_, rfl⟩
  rw [hab.out] at HA1
  have hab' := hab.out
  have c0 := mocell_of (HXX.out _ HB2.out).2.2
  clear hb hl hal
  go_wp2_with fail
  refine (HQ.out _ _ (HXX.out _ HB2.out).2.1).mono ?_
  rintro e w2 ⟨⟨q, rfl, hl⟩, hb⟩
  have HB3 := hid (HB2.out.trans (hb.mono HB2.out.size))
  have HA2 := hid (blkM HA1.out hb)
  have HL2 := hid (blkM HL1.out hb)
  have hal : Below w2.heap.size w2 (w2.alloc (MBox 2 2 (some ⟨q, 0, none⟩) 4 4)) := (Below.refl _ _).alloc (Nat.le_refl _) _
  have HQ1 : Hid ((w2.alloc (MBox 2 2 (some ⟨q, 0, none⟩) 4 4)).heap[w2.heap.size]? = some (MBox 2 2 (some ⟨q, 0, none⟩) 4 4)) := nblkM _ _
  have HM1 := hid (blkM hl hal)
  have HA3 := hid (blkM HA2.out hal)
  have HL3 := hid (blkM HL2.out hal)
  have HB4 := hid (HB3.out.trans (hal.mono HB3.out.size))
  obtain ⟨W2, hW2⟩ : ∃ V, Hid (w2.alloc (MBox 2 2 (some ⟨q, 0, none⟩) 4 4) = V) := ⟨_, rfl⟩
  rw [hW2.out] at HQ1 HM1 HA3 HL3 HB4
  have hW2' := hW2.out
  unfold MBox at hW2'
  obtain ⟨qb, hqb⟩ : ∃ t, Hid (w2.heap.size = t) := ⟨_, rfl⟩
  rw [hqb.out] at HQ1
  have hqb' := hqb.out
  have c0 := mocell_of (HXX.out _ HB4.out).2.2
  clear hb hl hal
  go_wp2_with fail
  refine (HD.out _ _ (HXX.out _ HB4.out).2.1).mono ?_
  rintro e w3 ⟨rfl, hb⟩
  have HB5 := hid (HB4.out.trans (hb.mono HB4.out.size))
  have HA4 := hid (blkM HA3.out hb)
  have HL4 := hid (blkM HL3.out hb)
  have HQ4 := hid (blkM HQ1.out hb)
  have HM4 := hid (blkM HM1.out hb)
  clear hb
  go_wp2_with fail
  refine (HS.out _).mono ?_
  rintro e w4 ⟨rfl, hw⟩
  rw [hw]
  clear hw
  obtain ⟨a0, a1, a2⟩ := mcells_of HA4.out
  obtain ⟨b0, b1, b2⟩ := mcells_of HQ4.out
  obtain ⟨l0, l1, l2, l3, lf⟩ := l4cells HL4.out
  obtain ⟨m0, m1, m2, m3, mf⟩ := l4cells HM4.out
  have c0 := mocell_of (HXX.out _ HB5.out).2.2
  clear lf mf
  go_wp2_with fail
  refine (HC.out _ _ (HXX.out _ HB5.out).2.1).mono ?_
  rintro e w6 ⟨rfl, hb⟩
  have HB6 := hid (HB5.out.trans (hb.mono HB5.out.size))
  clear hb
  go_wp2_with fail
  refine (HN.out _).mono ?_
  rintro e w7 ⟨rfl, hb⟩
  have HB7 := hid (HB6.out.trans (hb.mono HB6.out.size))
  clear hb
  go_wp2_with fail
  go_ret
  refine ⟨rfl, ?_⟩
  have := (HXX.out _ HB7.out).1
  first | exact this | (rw [hpg'] at this; exact this)
end Go.Proofs.Ytggiklghcnojiaa
