
/- The law MatrixTurned. (Written by mkmxn.py.) -/
import Derived.Test.YtpnmfndganalnaaP35
namespace Go.Proofs.Ytpnmfndganalnaa
open Go.RowKit Go.IntWalk

set_option maxRecDepth 8000 in
set_option maxHeartbeats 16000000 in
theorem mturned_walk (rx cx : Int) (sa : Option Addr) (n ka : Nat) (xs : List Nat) (ry cy : Int) (sb : Option Addr) (m kb : Nat) (ys : List Nat) (w : World) (hu : U64At w sa n xs) (hn : n ≤ 17592186043904) (hv : U64At w sb m ys) (hm : m ≤ 17592186043904) :
    Calls Try.prog 5 #[.agg #[.int .i64 rx, .int .i64 cx, .slice sa n ka], .agg #[.int .i64 ry, .int .i64 cy, .slice sb m kb]] w fun e w' => e = .returned (.bool true) ∧ Below w.heap.size w w' := by
  obtain ⟨t1, t2, t3, t4⟩ := two_b w (BBox rx cx sa n ka) (BBox ry cy sb m kb)
  have HOX := hid (fun W (hW : Below w.heap.size w W) => of_any rx cx sa n ka xs W (hu.below hW) hn)
  have HOY := hid (fun W (hW : Below w.heap.size w W) => of_any ry cy sb m kb ys W (hv.below hW) hm)
  have HNM := hid (And.intro hn hm)
  obtain ⟨V, hV⟩ : ∃ V, Hid ((w.alloc (BBox rx cx sa n ka)).alloc (BBox ry cy sb m kb) = V) := ⟨_, rfl⟩
  rw [hV.out] at t1 t2 t3 t4
  have hV' := hV.out
  unfold BBox at hV'
  obtain ⟨p0, hp0⟩ : ∃ t, Hid (w.heap.size = t) := ⟨_, rfl⟩
  obtain ⟨p1, hp1⟩ : ∃ t, Hid (p0 + 1 = t) := ⟨_, rfl⟩
  rw [hp0.out] at t1 t2
  rw [hp1.out] at t2
  have HV0 : Hid (Fr3 w V p0 p1 (BBox rx cx sa n ka) (BBox ry cy sb m kb)) := ⟨t3, t1, t2⟩
  have hp0' := hp0.out
  have hp1' := hp1.out
  have HKS : Hid (∀ W, Hid (Fr3 w W p0 p1 (BBox rx cx sa n ka) (BBox ry cy sb m kb)) → (W.cell? ⟨p0, 0, none⟩ = some (.int .i64 rx) ∧ W.cell? ⟨p0, 1, none⟩ = some (.int .i64 cx) ∧ W.cell? ⟨p0, 2, none⟩ = some (.slice sa n ka) ∧ W.cell? ⟨p1, 0, none⟩ = some (.int .i64 ry) ∧ W.cell? ⟨p1, 1, none⟩ = some (.int .i64 cy) ∧ W.cell? ⟨p1, 2, none⟩ = some (.slice sb m kb)) ∧ Hid (Fr3 w W p0 p1 (BBox rx cx sa n ka) (BBox ry cy sb m kb))) := fun W hW => by
    obtain ⟨a0, a1, a2⟩ := bcells_of hW.out.2.1
    obtain ⟨b0, b1, b2⟩ := bcells_of hW.out.2.2
    exact ⟨⟨a0, a1, a2, b0, b1, b2⟩, hW⟩
  clear t1 t2 t3 t4 hu hv hn hm
  go_enter Try.func5, Try.ntmps5
  go_wp2_with fail
  refine (awake8_any _).mono ?_
  rintro e w1 ⟨rfl, hb1⟩
  have HQQ := hid (HV0.out.call hb1)
  clear hb1
  go_wp2_with fail
  have HG0 : Hid (Fr3 w w1.drew p0 p1 (BBox rx cx sa n ka) (BBox ry cy sb m kb)) := HQQ.out.drew
  refine region_merge2 (fun a0 a' w' => ∃ (ta : Option Addr) (ca : Nat) (tb : Option Addr) (cb i4 i5 : Nat), a' = Act.put (Act.put (Act.put (Act.put (Act.put (Act.put a0 (some 18) (.agg #[.int .i64 rx, .int .i64 cx, .slice sa n ka])) (some 20) (.agg #[.int .i64 ry, .int .i64 cy, .slice sb m kb])) (some 19) (.agg #[.int .i64 rx, .int .i64 cx, .slice ta n ca])) (some 21) (.agg #[.int .i64 ry, .int .i64 cy, .slice tb m cb])) (some 5) (.pointer (some ⟨i4, 0, none⟩))) (some 6) (.pointer (some ⟨i5, 0, none⟩)) ∧ w'.heap[i4]? = some (MBox rx cx ta n ca) ∧ w'.heap[i5]? = some (MBox ry cy tb m cb) ∧ i4 ≠ i5 ∧ FlM w' ta n ca xs ∧ FlM w' tb m cb ys ∧ Fr3 w w' p0 p1 (BBox rx cx sa n ka) (BBox ry cy sb m kb)) (fun HR => ?_) ?_
  · simp only [Act.put, List.setIfInBounds_toArray, List.set_cons_zero, List.set_cons_succ] at HR
    refine wp_region_held_drew (S := fun W => (W.cell? ⟨p0, 0, none⟩ = some (.int .i64 rx) ∧ W.cell? ⟨p0, 1, none⟩ = some (.int .i64 cx) ∧ W.cell? ⟨p0, 2, none⟩ = some (.slice sa n ka) ∧ W.cell? ⟨p1, 0, none⟩ = some (.int .i64 ry) ∧ W.cell? ⟨p1, 1, none⟩ = some (.int .i64 cy) ∧ W.cell? ⟨p1, 2, none⟩ = some (.slice sb m kb)) ∧ Hid (Fr3 w W p0 p1 (BBox rx cx sa n ka) (BBox ry cy sb m kb))) (by kernel_rfl) (HKS.out _ HG0) (fun hHeld => ?_)
    refine take_at 0 18 (.agg #[.int .i64 rx, .int .i64 cx, .slice sa n ka]) rfl rfl (by kernel_rfl) (by kernel_rfl) (by kernel_rfl) (fun _ _ _ h => h) (Or.inl ⟨by rfl, fun w hSw => by (try dsimp only at hSw); go_simp⟩) (by assumption) ?_
    simp only [Act.put, List.setIfInBounds_toArray, List.set_cons_zero, List.set_cons_succ]
    refine take_at 2 20 (.agg #[.int .i64 ry, .int .i64 cy, .slice sb m kb]) rfl rfl (by kernel_rfl) (by kernel_rfl) (by kernel_rfl) (fun _ _ _ h => h) (Or.inl ⟨by rfl, fun w hSw => by (try dsimp only at hSw); go_simp⟩) (by assumption) ?_
    simp only [Act.put, List.setIfInBounds_toArray, List.set_cons_zero, List.set_cons_succ]
    refine wpAnyH_ready (rs := [1, 4, 5]) (by kernel_rfl) (by simp) ?_
    refine AllReadyH.cons (o := _) rfl (fun K hK => ?_) (AllReadyH.cons (o := _) rfl (fun K hK => ?_) (AllReadyH.cons (o := _) rfl (fun K hK => ?_) AllReadyH.nil))
    · go_simp
      refine (HOX.out _ HG0.out.1).mono ?_
      rintro e u1 ⟨⟨ta, ca, rfl, hf⟩, hbq⟩
      have HF1 := hid hf
      have HG1 := hid (HG0.out.call hbq)
      unfold MV
      clear hbq hf
      go_wp2_with fail
      refine hK.out _ _ (HKS.out _ HG1) (fun hHeld1 => ?_)
      clear hK K
      try simp only [Act.put, List.setIfInBounds_toArray, List.set_cons_zero, List.set_cons_succ]
      refine wpAnyH_ready (rs := [3, 4, 5]) (by kernel_rfl) (by simp) ?_
      refine AllReadyH.cons (o := _) rfl (fun K hK => ?_) (AllReadyH.cons (o := _) rfl (fun K hK => ?_) (AllReadyH.cons (o := _) rfl (fun K hK => ?_) AllReadyH.nil))
      · go_simp
        refine (HOY.out _ HG1.out.1).mono ?_
        rintro e u2 ⟨⟨tb, cb, rfl, hf⟩, hbq⟩
        have HF1 := hid (HF1.out.below hbq)
        have HF2 := hid hf
        have HG2 := hid (HG1.out.call hbq)
        unfold MV
        clear hbq hf
        go_wp2_with fail
        refine hK.out _ _ (HKS.out _ HG2) (fun hHeld2 => ?_)
        clear hK K
        try simp only [Act.put, List.setIfInBounds_toArray, List.set_cons_zero, List.set_cons_succ]
        refine wpAnyH_ready (rs := [4, 5]) (by kernel_rfl) (by simp) ?_
        refine AllReadyH.cons (o := _) rfl (fun K hK => ?_) (AllReadyH.cons (o := _) rfl (fun K hK => ?_) AllReadyH.nil)
        · have hbq : Below u2.heap.size u2 (u2.alloc (MBox 0 0 none 0 0)) := (Below.refl _ _).alloc (Nat.le_refl _) _
          have HB4 : Hid ((u2.alloc (MBox 0 0 none 0 0)).heap[u2.heap.size]? = some (MBox 0 0 none 0 0)) := nblkM _ _
          have HG3 : Hid (Fr3 w (u2.alloc (MBox 0 0 none 0 0)) p0 p1 (BBox rx cx sa n ka) (BBox ry cy sb m kb)) := HG2.out.call hbq
          have HI4 : Hid (p0 ≠ u2.heap.size ∧ p1 ≠ u2.heap.size ∧ w.heap.size ≤ u2.heap.size) := ⟨Nat.ne_of_lt (Array.getElem?_eq_some_iff.1 HG2.out.2.1).1, Nat.ne_of_lt (Array.getElem?_eq_some_iff.1 HG2.out.2.2).1, HG2.out.1.size⟩
          have HF1 := hid (HF1.out.below hbq)
          have HF2 := hid (HF2.out.below hbq)
          clear hbq
          go_simp
          go_wp2_with fail
          refine hK.out _ _ (HKS.out _ HG3) (fun hHeld3 => ?_)
          clear hK K
          try simp only [Act.put, List.setIfInBounds_toArray, List.set_cons_zero, List.set_cons_succ]
          obtain ⟨u3, hu3⟩ : ∃ X, Hid ((u2.alloc (MBox 0 0 none 0 0)) = X) := ⟨_, rfl⟩
          rw [hu3.out] at HB4 HG3 HF1 HF2
          have hy1 := hu3.out
          unfold MBox at hy1
          rw [hy1]
          obtain ⟨i4, hi4⟩ : ∃ X, Hid (u2.heap.size = X) := ⟨_, rfl⟩
          have hy2 := hi4.out
          rw [hi4.out] at HB4 HI4
          rw [hy2]
          clear hy1 hy2
          refine wpAnyH_ready (rs := [5]) (by kernel_rfl) (by simp) ?_
          refine AllReadyH.cons (o := _) rfl (fun K hK => ?_) AllReadyH.nil
          have hbq : Below u3.heap.size u3 (u3.alloc (MBox 0 0 none 0 0)) := (Below.refl _ _).alloc (Nat.le_refl _) _
          have HB5 : Hid ((u3.alloc (MBox 0 0 none 0 0)).heap[u3.heap.size]? = some (MBox 0 0 none 0 0)) := nblkM _ _
          have HG4 : Hid (Fr3 w (u3.alloc (MBox 0 0 none 0 0)) p0 p1 (BBox rx cx sa n ka) (BBox ry cy sb m kb)) := HG3.out.call hbq
          have HI5 : Hid (p0 ≠ u3.heap.size ∧ p1 ≠ u3.heap.size ∧ w.heap.size ≤ u3.heap.size) := ⟨Nat.ne_of_lt (Array.getElem?_eq_some_iff.1 HG3.out.2.1).1, Nat.ne_of_lt (Array.getElem?_eq_some_iff.1 HG3.out.2.2).1, HG3.out.1.size⟩
          have HI45 : Hid (i4 ≠ u3.heap.size) := Nat.ne_of_lt (Array.getElem?_eq_some_iff.1 HB4.out).1
          have HB4 := hid (blkM HB4.out hbq)
          have HF1 := hid (HF1.out.below hbq)
          have HF2 := hid (HF2.out.below hbq)
          clear hbq
          go_simp
          go_wp2_with fail
          refine hK.out _ _ (HKS.out _ HG4) (fun hHeld4 => ?_)
          clear hK K
          try simp only [Act.put, List.setIfInBounds_toArray, List.set_cons_zero, List.set_cons_succ]
          obtain ⟨u4, hu4⟩ : ∃ X, Hid ((u3.alloc (MBox 0 0 none 0 0)) = X) := ⟨_, rfl⟩
          rw [hu4.out] at HB5 HG4 HB4 HF1 HF2
          have hy1 := hu4.out
          unfold MBox at hy1
          rw [hy1]
          obtain ⟨i5, hi5⟩ : ∃ X, Hid (u3.heap.size = X) := ⟨_, rfl⟩
          have hy2 := hi5.out
          rw [hi5.out] at HB5 HI5 HI45
          rw [hy2]
          clear hy1 hy2
          refine wpAnyH_ready (rs := [6]) (by kernel_rfl) (by simp) ?_
          refine AllReadyH.cons (o := _) rfl (fun K hK => ?_) AllReadyH.nil
          obtain ⟨z0, z1, z2⟩ := mcells_of HB4.out
          have fz := frzM HB4.out
          have HGE : Hid (Fr3 w (StoM u4 i4 rx cx ta n ca) p0 p1 (BBox rx cx sa n ka) (BBox ry cy sb m kb)) := HG4.out.sto HI4.out.1 HI4.out.2.1 HI4.out.2.2
          have HB5' : Hid ((StoM u4 i4 rx cx ta n ca).heap[i5]? = some (MBox 0 0 none 0 0)) := (StoM.keep (Ne.symm HI45.out)).trans HB5.out
          have HB4' : Hid ((StoM u4 i4 rx cx ta n ca).heap[i4]? = some (MBox rx cx ta n ca)) := mset HB4.out
          have HF1' := hid (sto_fl (r := rx) (c := cx) (sa := ta) (n := n) (cap := ca) HF1.out HB4.out)
          have HF2' := hid (sto_fl (r := rx) (c := cx) (sa := ta) (n := n) (cap := ca) HF2.out HB4.out)
          obtain ⟨U, hU⟩ : ∃ X, Hid (StoM u4 i4 rx cx ta n ca = X) := ⟨_, rfl⟩
          rw [hU.out] at HGE HB5' HB4' HF1' HF2'
          have hU' := hU.out
          unfold StoM at hU'
          go_simp
          go_wp2_with fail
          refine hK.out _ _ (HKS.out _ HGE) (fun hHeldE => ?_)
          clear hK K z0 z1 z2 fz
          try simp only [Act.put, List.setIfInBounds_toArray, List.set_cons_zero, List.set_cons_succ]
          refine wpAnyH_ready (rs := [7]) (by kernel_rfl) (by simp) ?_
          refine AllReadyH.cons (o := _) rfl (fun K hK => ?_) AllReadyH.nil
          obtain ⟨z0, z1, z2⟩ := mcells_of HB5'.out
          have fz := frzM HB5'.out
          have HGF : Hid (Fr3 w (StoM U i5 ry cy tb m cb) p0 p1 (BBox rx cx sa n ka) (BBox ry cy sb m kb)) := HGE.out.sto HI5.out.1 HI5.out.2.1 HI5.out.2.2
          have HB4'' : Hid ((StoM U i5 ry cy tb m cb).heap[i4]? = some (MBox rx cx ta n ca)) := (StoM.keep HI45.out).trans HB4'.out
          have HB5'' : Hid ((StoM U i5 ry cy tb m cb).heap[i5]? = some (MBox ry cy tb m cb)) := mset HB5'.out
          have HF1'' := hid (sto_fl (r := ry) (c := cy) (sa := tb) (n := m) (cap := cb) HF1'.out HB5'.out)
          have HF2'' := hid (sto_fl (r := ry) (c := cy) (sa := tb) (n := m) (cap := cb) HF2'.out HB5'.out)
          have HGF' := HGF
          unfold StoM at HGF'
          go_simp
          go_wp2_with fail
          refine hK.out _ _ (HKS.out _ HGF') (fun hHeldF => ?_)
          clear hK K
          try simp only [Act.put, List.setIfInBounds_toArray, List.set_cons_zero, List.set_cons_succ]
          refine wpAnyH_done (by kernel_rfl) ?_ _
          exact HR.out _ _ ⟨ta, ca, tb, cb, i4, i5, rfl, HB4''.out, HB5''.out, HI45.out, HF1''.out, HF2''.out, HGF.out⟩
        · have hbq : Below u2.heap.size u2 (u2.alloc (MBox 0 0 none 0 0)) := (Below.refl _ _).alloc (Nat.le_refl _) _
          have HB5 : Hid ((u2.alloc (MBox 0 0 none 0 0)).heap[u2.heap.size]? = some (MBox 0 0 none 0 0)) := nblkM _ _
          have HG3 : Hid (Fr3 w (u2.alloc (MBox 0 0 none 0 0)) p0 p1 (BBox rx cx sa n ka) (BBox ry cy sb m kb)) := HG2.out.call hbq
          have HI5 : Hid (p0 ≠ u2.heap.size ∧ p1 ≠ u2.heap.size ∧ w.heap.size ≤ u2.heap.size) := ⟨Nat.ne_of_lt (Array.getElem?_eq_some_iff.1 HG2.out.2.1).1, Nat.ne_of_lt (Array.getElem?_eq_some_iff.1 HG2.out.2.2).1, HG2.out.1.size⟩
          have HF1 := hid (HF1.out.below hbq)
          have HF2 := hid (HF2.out.below hbq)
          clear hbq
          go_simp
          go_wp2_with fail
          refine hK.out _ _ (HKS.out _ HG3) (fun hHeld3 => ?_)
          clear hK K
          try simp only [Act.put, List.setIfInBounds_toArray, List.set_cons_zero, List.set_cons_succ]
          obtain ⟨u3, hu3⟩ : ∃ X, Hid ((u2.alloc (MBox 0 0 none 0 0)) = X) := ⟨_, rfl⟩
          rw [hu3.out] at HB5 HG3 HF1 HF2
          have hy1 := hu3.out
          unfold MBox at hy1
          rw [hy1]
          obtain ⟨i5, hi5⟩ : ∃ X, Hid (u2.heap.size = X) := ⟨_, rfl⟩
          have hy2 := hi5.out
          rw [hi5.out] at HB5 HI5
          rw [hy2]
          clear hy1 hy2
          refine wpAnyH_ready (rs := [4]) (by kernel_rfl) (by simp) ?_
          refine AllReadyH.cons (o := _) rfl (fun K hK => ?_) AllReadyH.nil
          have hbq : Below u3.heap.size u3 (u3.alloc (MBox 0 0 none 0 0)) := (Below.refl _ _).alloc (Nat.le_refl _) _
          have HB4 : Hid ((u3.alloc (MBox 0 0 none 0 0)).heap[u3.heap.size]? = some (MBox 0 0 none 0 0)) := nblkM _ _
          have HG4 : Hid (Fr3 w (u3.alloc (MBox 0 0 none 0 0)) p0 p1 (BBox rx cx sa n ka) (BBox ry cy sb m kb)) := HG3.out.call hbq
          have HI4 : Hid (p0 ≠ u3.heap.size ∧ p1 ≠ u3.heap.size ∧ w.heap.size ≤ u3.heap.size) := ⟨Nat.ne_of_lt (Array.getElem?_eq_some_iff.1 HG3.out.2.1).1, Nat.ne_of_lt (Array.getElem?_eq_some_iff.1 HG3.out.2.2).1, HG3.out.1.size⟩
          have HI45 : Hid (u3.heap.size ≠ i5) := Ne.symm (Nat.ne_of_lt (Array.getElem?_eq_some_iff.1 HB5.out).1)
          have HB5 := hid (blkM HB5.out hbq)
          have HF1 := hid (HF1.out.below hbq)
          have HF2 := hid (HF2.out.below hbq)
          clear hbq
          go_simp
          go_wp2_with fail
          refine hK.out _ _ (HKS.out _ HG4) (fun hHeld4 => ?_)
          clear hK K
          try simp only [Act.put, List.setIfInBounds_toArray, List.set_cons_zero, List.set_cons_succ]
          obtain ⟨u4, hu4⟩ : ∃ X, Hid ((u3.alloc (MBox 0 0 none 0 0)) = X) := ⟨_, rfl⟩
          rw [hu4.out] at HB4 HG4 HB5 HF1 HF2
          have hy1 := hu4.out
          unfold MBox at hy1
          rw [hy1]
          obtain ⟨i4, hi4⟩ : ∃ X, Hid (u3.heap.size = X) := ⟨_, rfl⟩
          have hy2 := hi4.out
          rw [hi4.out] at HB4 HI4 HI45
          rw [hy2]
          clear hy1 hy2
          refine wpAnyH_ready (rs := [6]) (by kernel_rfl) (by simp) ?_
          refine AllReadyH.cons (o := _) rfl (fun K hK => ?_) AllReadyH.nil
          obtain ⟨z0, z1, z2⟩ := mcells_of HB4.out
          have fz := frzM HB4.out
          have HGE : Hid (Fr3 w (StoM u4 i4 rx cx ta n ca) p0 p1 (BBox rx cx sa n ka) (BBox ry cy sb m kb)) := HG4.out.sto HI4.out.1 HI4.out.2.1 HI4.out.2.2
          have HB5' : Hid ((StoM u4 i4 rx cx ta n ca).heap[i5]? = some (MBox 0 0 none 0 0)) := (StoM.keep (Ne.symm HI45.out)).trans HB5.out
          have HB4' : Hid ((StoM u4 i4 rx cx ta n ca).heap[i4]? = some (MBox rx cx ta n ca)) := mset HB4.out
          have HF1' := hid (sto_fl (r := rx) (c := cx) (sa := ta) (n := n) (cap := ca) HF1.out HB4.out)
          have HF2' := hid (sto_fl (r := rx) (c := cx) (sa := ta) (n := n) (cap := ca) HF2.out HB4.out)
          obtain ⟨U, hU⟩ : ∃ X, Hid (StoM u4 i4 rx cx ta n ca = X) := ⟨_, rfl⟩
          rw [hU.out] at HGE HB5' HB4' HF1' HF2'
          have hU' := hU.out
          unfold StoM at hU'
          go_simp
          go_wp2_with fail
          refine hK.out _ _ (HKS.out _ HGE) (fun hHeldE => ?_)
          clear hK K z0 z1 z2 fz
          try simp only [Act.put, List.setIfInBounds_toArray, List.set_cons_zero, List.set_cons_succ]
          refine wpAnyH_ready (rs := [7]) (by kernel_rfl) (by simp) ?_
          refine AllReadyH.cons (o := _) rfl (fun K hK => ?_) AllReadyH.nil
          obtain ⟨z0, z1, z2⟩ := mcells_of HB5'.out
          have fz := frzM HB5'.out
          have HGF : Hid (Fr3 w (StoM U i5 ry cy tb m cb) p0 p1 (BBox rx cx sa n ka) (BBox ry cy sb m kb)) := HGE.out.sto HI5.out.1 HI5.out.2.1 HI5.out.2.2
          have HB4'' : Hid ((StoM U i5 ry cy tb m cb).heap[i4]? = some (MBox rx cx ta n ca)) := (StoM.keep HI45.out).trans HB4'.out
          have HB5'' : Hid ((StoM U i5 ry cy tb m cb).heap[i5]? = some (MBox ry cy tb m cb)) := mset HB5'.out
          have HF1'' := hid (sto_fl (r := ry) (c := cy) (sa := tb) (n := m) (cap := cb) HF1'.out HB5'.out)
          have HF2'' := hid (sto_fl (r := ry) (c := cy) (sa := tb) (n := m) (cap := cb) HF2'.out HB5'.out)
          have HGF' := HGF
          unfold StoM at HGF'
          go_simp
          go_wp2_with fail
          refine hK.out _ _ (HKS.out _ HGF') (fun hHeldF => ?_)
          clear hK K
          try simp only [Act.put, List.setIfInBounds_toArray, List.set_cons_zero, List.set_cons_succ]
          refine wpAnyH_done (by kernel_rfl) ?_ _
          exact HR.out _ _ ⟨ta, ca, tb, cb, i4, i5, rfl, HB4''.out, HB5''.out, HI45.out, HF1''.out, HF2''.out, HGF.out⟩
      · have hbq : Below u1.heap.size u1 (u1.alloc (MBox 0 0 none 0 0)) := (Below.refl _ _).alloc (Nat.le_refl _) _
        have HB4 : Hid ((u1.alloc (MBox 0 0 none 0 0)).heap[u1.heap.size]? = some (MBox 0 0 none 0 0)) := nblkM _ _
        have HG2 : Hid (Fr3 w (u1.alloc (MBox 0 0 none 0 0)) p0 p1 (BBox rx cx sa n ka) (BBox ry cy sb m kb)) := HG1.out.call hbq
        have HI4 : Hid (p0 ≠ u1.heap.size ∧ p1 ≠ u1.heap.size ∧ w.heap.size ≤ u1.heap.size) := ⟨Nat.ne_of_lt (Array.getElem?_eq_some_iff.1 HG1.out.2.1).1, Nat.ne_of_lt (Array.getElem?_eq_some_iff.1 HG1.out.2.2).1, HG1.out.1.size⟩
        have HF1 := hid (HF1.out.below hbq)
        clear hbq
        go_simp
        go_wp2_with fail
        refine hK.out _ _ (HKS.out _ HG2) (fun hHeld2 => ?_)
        clear hK K
        try simp only [Act.put, List.setIfInBounds_toArray, List.set_cons_zero, List.set_cons_succ]
        obtain ⟨u2, hu2⟩ : ∃ X, Hid ((u1.alloc (MBox 0 0 none 0 0)) = X) := ⟨_, rfl⟩
        rw [hu2.out] at HB4 HG2 HF1
        have hy1 := hu2.out
        unfold MBox at hy1
        rw [hy1]
        obtain ⟨i4, hi4⟩ : ∃ X, Hid (u1.heap.size = X) := ⟨_, rfl⟩
        have hy2 := hi4.out
        rw [hi4.out] at HB4 HI4
        rw [hy2]
        clear hy1 hy2
        refine wpAnyH_ready (rs := [3, 5]) (by kernel_rfl) (by simp) ?_
        refine AllReadyH.cons (o := _) rfl (fun K hK => ?_) (AllReadyH.cons (o := _) rfl (fun K hK => ?_) AllReadyH.nil)
        · go_simp
          refine (HOY.out _ HG2.out.1).mono ?_
          rintro e u3 ⟨⟨tb, cb, rfl, hf⟩, hbq⟩
          have HF1 := hid (HF1.out.below hbq)
          have HF2 := hid hf
          have HG3 := hid (HG2.out.call hbq)
          have HB4 := hid (blkM HB4.out hbq)
          unfold MV
          clear hbq hf
          go_wp2_with fail
          refine hK.out _ _ (HKS.out _ HG3) (fun hHeld3 => ?_)
          clear hK K
          try simp only [Act.put, List.setIfInBounds_toArray, List.set_cons_zero, List.set_cons_succ]
          refine wpAnyH_ready (rs := [5]) (by kernel_rfl) (by simp) ?_
          refine AllReadyH.cons (o := _) rfl (fun K hK => ?_) AllReadyH.nil
          have hbq : Below u3.heap.size u3 (u3.alloc (MBox 0 0 none 0 0)) := (Below.refl _ _).alloc (Nat.le_refl _) _
          have HB5 : Hid ((u3.alloc (MBox 0 0 none 0 0)).heap[u3.heap.size]? = some (MBox 0 0 none 0 0)) := nblkM _ _
          have HG4 : Hid (Fr3 w (u3.alloc (MBox 0 0 none 0 0)) p0 p1 (BBox rx cx sa n ka) (BBox ry cy sb m kb)) := HG3.out.call hbq
          have HI5 : Hid (p0 ≠ u3.heap.size ∧ p1 ≠ u3.heap.size ∧ w.heap.size ≤ u3.heap.size) := ⟨Nat.ne_of_lt (Array.getElem?_eq_some_iff.1 HG3.out.2.1).1, Nat.ne_of_lt (Array.getElem?_eq_some_iff.1 HG3.out.2.2).1, HG3.out.1.size⟩
          have HI45 : Hid (i4 ≠ u3.heap.size) := Nat.ne_of_lt (Array.getElem?_eq_some_iff.1 HB4.out).1
          have HB4 := hid (blkM HB4.out hbq)
          have HF1 := hid (HF1.out.below hbq)
          have HF2 := hid (HF2.out.below hbq)
          clear hbq
          go_simp
          go_wp2_with fail
          refine hK.out _ _ (HKS.out _ HG4) (fun hHeld4 => ?_)
          clear hK K
          try simp only [Act.put, List.setIfInBounds_toArray, List.set_cons_zero, List.set_cons_succ]
          obtain ⟨u4, hu4⟩ : ∃ X, Hid ((u3.alloc (MBox 0 0 none 0 0)) = X) := ⟨_, rfl⟩
          rw [hu4.out] at HB5 HG4 HB4 HF1 HF2
          have hy1 := hu4.out
          unfold MBox at hy1
          rw [hy1]
          obtain ⟨i5, hi5⟩ : ∃ X, Hid (u3.heap.size = X) := ⟨_, rfl⟩
          have hy2 := hi5.out
          rw [hi5.out] at HB5 HI5 HI45
          rw [hy2]
          clear hy1 hy2
          refine wpAnyH_ready (rs := [6]) (by kernel_rfl) (by simp) ?_
          refine AllReadyH.cons (o := _) rfl (fun K hK => ?_) AllReadyH.nil
          obtain ⟨z0, z1, z2⟩ := mcells_of HB4.out
          have fz := frzM HB4.out
          have HGE : Hid (Fr3 w (StoM u4 i4 rx cx ta n ca) p0 p1 (BBox rx cx sa n ka) (BBox ry cy sb m kb)) := HG4.out.sto HI4.out.1 HI4.out.2.1 HI4.out.2.2
          have HB5' : Hid ((StoM u4 i4 rx cx ta n ca).heap[i5]? = some (MBox 0 0 none 0 0)) := (StoM.keep (Ne.symm HI45.out)).trans HB5.out
          have HB4' : Hid ((StoM u4 i4 rx cx ta n ca).heap[i4]? = some (MBox rx cx ta n ca)) := mset HB4.out
          have HF1' := hid (sto_fl (r := rx) (c := cx) (sa := ta) (n := n) (cap := ca) HF1.out HB4.out)
          have HF2' := hid (sto_fl (r := rx) (c := cx) (sa := ta) (n := n) (cap := ca) HF2.out HB4.out)
          obtain ⟨U, hU⟩ : ∃ X, Hid (StoM u4 i4 rx cx ta n ca = X) := ⟨_, rfl⟩
          rw [hU.out] at HGE HB5' HB4' HF1' HF2'
          have hU' := hU.out
          unfold StoM at hU'
          go_simp
          go_wp2_with fail
          refine hK.out _ _ (HKS.out _ HGE) (fun hHeldE => ?_)
          clear hK K z0 z1 z2 fz
          try simp only [Act.put, List.setIfInBounds_toArray, List.set_cons_zero, List.set_cons_succ]
          refine wpAnyH_ready (rs := [7]) (by kernel_rfl) (by simp) ?_
          refine AllReadyH.cons (o := _) rfl (fun K hK => ?_) AllReadyH.nil
          obtain ⟨z0, z1, z2⟩ := mcells_of HB5'.out
          have fz := frzM HB5'.out
          have HGF : Hid (Fr3 w (StoM U i5 ry cy tb m cb) p0 p1 (BBox rx cx sa n ka) (BBox ry cy sb m kb)) := HGE.out.sto HI5.out.1 HI5.out.2.1 HI5.out.2.2
          have HB4'' : Hid ((StoM U i5 ry cy tb m cb).heap[i4]? = some (MBox rx cx ta n ca)) := (StoM.keep HI45.out).trans HB4'.out
          have HB5'' : Hid ((StoM U i5 ry cy tb m cb).heap[i5]? = some (MBox ry cy tb m cb)) := mset HB5'.out
          have HF1'' := hid (sto_fl (r := ry) (c := cy) (sa := tb) (n := m) (cap := cb) HF1'.out HB5'.out)
          have HF2'' := hid (sto_fl (r := ry) (c := cy) (sa := tb) (n := m) (cap := cb) HF2'.out HB5'.out)
          have HGF' := HGF
          unfold StoM at HGF'
          go_simp
          go_wp2_with fail
          refine hK.out _ _ (HKS.out _ HGF') (fun hHeldF => ?_)
          clear hK K
          try simp only [Act.put, List.setIfInBounds_toArray, List.set_cons_zero, List.set_cons_succ]
          refine wpAnyH_done (by kernel_rfl) ?_ _
          exact HR.out _ _ ⟨ta, ca, tb, cb, i4, i5, rfl, HB4''.out, HB5''.out, HI45.out, HF1''.out, HF2''.out, HGF.out⟩
        · have hbq : Below u2.heap.size u2 (u2.alloc (MBox 0 0 none 0 0)) := (Below.refl _ _).alloc (Nat.le_refl _) _
          have HB5 : Hid ((u2.alloc (MBox 0 0 none 0 0)).heap[u2.heap.size]? = some (MBox 0 0 none 0 0)) := nblkM _ _
          have HG3 : Hid (Fr3 w (u2.alloc (MBox 0 0 none 0 0)) p0 p1 (BBox rx cx sa n ka) (BBox ry cy sb m kb)) := HG2.out.call hbq
          have HI5 : Hid (p0 ≠ u2.heap.size ∧ p1 ≠ u2.heap.size ∧ w.heap.size ≤ u2.heap.size) := ⟨Nat.ne_of_lt (Array.getElem?_eq_some_iff.1 HG2.out.2.1).1, Nat.ne_of_lt (Array.getElem?_eq_some_iff.1 HG2.out.2.2).1, HG2.out.1.size⟩
          have HI45 : Hid (i4 ≠ u2.heap.size) := Nat.ne_of_lt (Array.getElem?_eq_some_iff.1 HB4.out).1
          have HB4 := hid (blkM HB4.out hbq)
          have HF1 := hid (HF1.out.below hbq)
          clear hbq
          go_simp
          go_wp2_with fail
          refine hK.out _ _ (HKS.out _ HG3) (fun hHeld3 => ?_)
          clear hK K
          try simp only [Act.put, List.setIfInBounds_toArray, List.set_cons_zero, List.set_cons_succ]
          obtain ⟨u3, hu3⟩ : ∃ X, Hid ((u2.alloc (MBox 0 0 none 0 0)) = X) := ⟨_, rfl⟩
          rw [hu3.out] at HB5 HG3 HB4 HF1
          have hy1 := hu3.out
          unfold MBox at hy1
          rw [hy1]
          obtain ⟨i5, hi5⟩ : ∃ X, Hid (u2.heap.size = X) := ⟨_, rfl⟩
          have hy2 := hi5.out
          rw [hi5.out] at HB5 HI5 HI45
          rw [hy2]
          clear hy1 hy2
          refine wpAnyH_ready (rs := [3]) (by kernel_rfl) (by simp) ?_
          refine AllReadyH.cons (o := _) rfl (fun K hK => ?_) AllReadyH.nil
          go_simp
          refine (HOY.out _ HG3.out.1).mono ?_
          rintro e u4 ⟨⟨tb, cb, rfl, hf⟩, hbq⟩
          have HF1 := hid (HF1.out.below hbq)
          have HF2 := hid hf
          have HG4 := hid (HG3.out.call hbq)
          have HB4 := hid (blkM HB4.out hbq)
          have HB5 := hid (blkM HB5.out hbq)
          unfold MV
          clear hbq hf
          go_wp2_with fail
          refine hK.out _ _ (HKS.out _ HG4) (fun hHeld4 => ?_)
          clear hK K
          try simp only [Act.put, List.setIfInBounds_toArray, List.set_cons_zero, List.set_cons_succ]
          refine wpAnyH_ready (rs := [6]) (by kernel_rfl) (by simp) ?_
          refine AllReadyH.cons (o := _) rfl (fun K hK => ?_) AllReadyH.nil
          obtain ⟨z0, z1, z2⟩ := mcells_of HB4.out
          have fz := frzM HB4.out
          have HGE : Hid (Fr3 w (StoM u4 i4 rx cx ta n ca) p0 p1 (BBox rx cx sa n ka) (BBox ry cy sb m kb)) := HG4.out.sto HI4.out.1 HI4.out.2.1 HI4.out.2.2
          have HB5' : Hid ((StoM u4 i4 rx cx ta n ca).heap[i5]? = some (MBox 0 0 none 0 0)) := (StoM.keep (Ne.symm HI45.out)).trans HB5.out
          have HB4' : Hid ((StoM u4 i4 rx cx ta n ca).heap[i4]? = some (MBox rx cx ta n ca)) := mset HB4.out
          have HF1' := hid (sto_fl (r := rx) (c := cx) (sa := ta) (n := n) (cap := ca) HF1.out HB4.out)
          have HF2' := hid (sto_fl (r := rx) (c := cx) (sa := ta) (n := n) (cap := ca) HF2.out HB4.out)
          obtain ⟨U, hU⟩ : ∃ X, Hid (StoM u4 i4 rx cx ta n ca = X) := ⟨_, rfl⟩
          rw [hU.out] at HGE HB5' HB4' HF1' HF2'
          have hU' := hU.out
          unfold StoM at hU'
          go_simp
          go_wp2_with fail
          refine hK.out _ _ (HKS.out _ HGE) (fun hHeldE => ?_)
          clear hK K z0 z1 z2 fz
          try simp only [Act.put, List.setIfInBounds_toArray, List.set_cons_zero, List.set_cons_succ]
          refine wpAnyH_ready (rs := [7]) (by kernel_rfl) (by simp) ?_
          refine AllReadyH.cons (o := _) rfl (fun K hK => ?_) AllReadyH.nil
          obtain ⟨z0, z1, z2⟩ := mcells_of HB5'.out
          have fz := frzM HB5'.out
          have HGF : Hid (Fr3 w (StoM U i5 ry cy tb m cb) p0 p1 (BBox rx cx sa n ka) (BBox ry cy sb m kb)) := HGE.out.sto HI5.out.1 HI5.out.2.1 HI5.out.2.2
          have HB4'' : Hid ((StoM U i5 ry cy tb m cb).heap[i4]? = some (MBox rx cx ta n ca)) := (StoM.keep HI45.out).trans HB4'.out
          have HB5'' : Hid ((StoM U i5 ry cy tb m cb).heap[i5]? = some (MBox ry cy tb m cb)) := mset HB5'.out
          have HF1'' := hid (sto_fl (r := ry) (c := cy) (sa := tb) (n := m) (cap := cb) HF1'.out HB5'.out)
          have HF2'' := hid (sto_fl (r := ry) (c := cy) (sa := tb) (n := m) (cap := cb) HF2'.out HB5'.out)
          have HGF' := HGF
          unfold StoM at HGF'
          go_simp
          go_wp2_with fail
          refine hK.out _ _ (HKS.out _ HGF') (fun hHeldF => ?_)
          clear hK K
          try simp only [Act.put, List.setIfInBounds_toArray, List.set_cons_zero, List.set_cons_succ]
          refine wpAnyH_done (by kernel_rfl) ?_ _
          exact HR.out _ _ ⟨ta, ca, tb, cb, i4, i5, rfl, HB4''.out, HB5''.out, HI45.out, HF1''.out, HF2''.out, HGF.out⟩
      · have hbq : Below u1.heap.size u1 (u1.alloc (MBox 0 0 none 0 0)) := (Below.refl _ _).alloc (Nat.le_refl _) _
        have HB5 : Hid ((u1.alloc (MBox 0 0 none 0 0)).heap[u1.heap.size]? = some (MBox 0 0 none 0 0)) := nblkM _ _
        have HG2 : Hid (Fr3 w (u1.alloc (MBox 0 0 none 0 0)) p0 p1 (BBox rx cx sa n ka) (BBox ry cy sb m kb)) := HG1.out.call hbq
        have HI5 : Hid (p0 ≠ u1.heap.size ∧ p1 ≠ u1.heap.size ∧ w.heap.size ≤ u1.heap.size) := ⟨Nat.ne_of_lt (Array.getElem?_eq_some_iff.1 HG1.out.2.1).1, Nat.ne_of_lt (Array.getElem?_eq_some_iff.1 HG1.out.2.2).1, HG1.out.1.size⟩
        have HF1 := hid (HF1.out.below hbq)
        clear hbq
        go_simp
        go_wp2_with fail
        refine hK.out _ _ (HKS.out _ HG2) (fun hHeld2 => ?_)
        clear hK K
        try simp only [Act.put, List.setIfInBounds_toArray, List.set_cons_zero, List.set_cons_succ]
        obtain ⟨u2, hu2⟩ : ∃ X, Hid ((u1.alloc (MBox 0 0 none 0 0)) = X) := ⟨_, rfl⟩
        rw [hu2.out] at HB5 HG2 HF1
        have hy1 := hu2.out
        unfold MBox at hy1
        rw [hy1]
        obtain ⟨i5, hi5⟩ : ∃ X, Hid (u1.heap.size = X) := ⟨_, rfl⟩
        have hy2 := hi5.out
        rw [hi5.out] at HB5 HI5
        rw [hy2]
        clear hy1 hy2
        refine wpAnyH_ready (rs := [3, 4]) (by kernel_rfl) (by simp) ?_
        refine AllReadyH.cons (o := _) rfl (fun K hK => ?_) (AllReadyH.cons (o := _) rfl (fun K hK => ?_) AllReadyH.nil)
        · go_simp
          refine (HOY.out _ HG2.out.1).mono ?_
          rintro e u3 ⟨⟨tb, cb, rfl, hf⟩, hbq⟩
          have HF1 := hid (HF1.out.below hbq)
          have HF2 := hid hf
          have HG3 := hid (HG2.out.call hbq)
          have HB5 := hid (blkM HB5.out hbq)
          unfold MV
          clear hbq hf
          go_wp2_with fail
          refine hK.out _ _ (HKS.out _ HG3) (fun hHeld3 => ?_)
          clear hK K
          try simp only [Act.put, List.setIfInBounds_toArray, List.set_cons_zero, List.set_cons_succ]
          refine wpAnyH_ready (rs := [4]) (by kernel_rfl) (by simp) ?_
          refine AllReadyH.cons (o := _) rfl (fun K hK => ?_) AllReadyH.nil
          have hbq : Below u3.heap.size u3 (u3.alloc (MBox 0 0 none 0 0)) := (Below.refl _ _).alloc (Nat.le_refl _) _
          have HB4 : Hid ((u3.alloc (MBox 0 0 none 0 0)).heap[u3.heap.size]? = some (MBox 0 0 none 0 0)) := nblkM _ _
          have HG4 : Hid (Fr3 w (u3.alloc (MBox 0 0 none 0 0)) p0 p1 (BBox rx cx sa n ka) (BBox ry cy sb m kb)) := HG3.out.call hbq
          have HI4 : Hid (p0 ≠ u3.heap.size ∧ p1 ≠ u3.heap.size ∧ w.heap.size ≤ u3.heap.size) := ⟨Nat.ne_of_lt (Array.getElem?_eq_some_iff.1 HG3.out.2.1).1, Nat.ne_of_lt (Array.getElem?_eq_some_iff.1 HG3.out.2.2).1, HG3.out.1.size⟩
          have HI45 : Hid (u3.heap.size ≠ i5) := Ne.symm (Nat.ne_of_lt (Array.getElem?_eq_some_iff.1 HB5.out).1)
          have HB5 := hid (blkM HB5.out hbq)
          have HF1 := hid (HF1.out.below hbq)
          have HF2 := hid (HF2.out.below hbq)
          clear hbq
          go_simp
          go_wp2_with fail
          refine hK.out _ _ (HKS.out _ HG4) (fun hHeld4 => ?_)
          clear hK K
          try simp only [Act.put, List.setIfInBounds_toArray, List.set_cons_zero, List.set_cons_succ]
          obtain ⟨u4, hu4⟩ : ∃ X, Hid ((u3.alloc (MBox 0 0 none 0 0)) = X) := ⟨_, rfl⟩
          rw [hu4.out] at HB4 HG4 HB5 HF1 HF2
          have hy1 := hu4.out
          unfold MBox at hy1
          rw [hy1]
          obtain ⟨i4, hi4⟩ : ∃ X, Hid (u3.heap.size = X) := ⟨_, rfl⟩
          have hy2 := hi4.out
          rw [hi4.out] at HB4 HI4 HI45
          rw [hy2]
          clear hy1 hy2
          refine wpAnyH_ready (rs := [6]) (by kernel_rfl) (by simp) ?_
          refine AllReadyH.cons (o := _) rfl (fun K hK => ?_) AllReadyH.nil
          obtain ⟨z0, z1, z2⟩ := mcells_of HB4.out
          have fz := frzM HB4.out
          have HGE : Hid (Fr3 w (StoM u4 i4 rx cx ta n ca) p0 p1 (BBox rx cx sa n ka) (BBox ry cy sb m kb)) := HG4.out.sto HI4.out.1 HI4.out.2.1 HI4.out.2.2
          have HB5' : Hid ((StoM u4 i4 rx cx ta n ca).heap[i5]? = some (MBox 0 0 none 0 0)) := (StoM.keep (Ne.symm HI45.out)).trans HB5.out
          have HB4' : Hid ((StoM u4 i4 rx cx ta n ca).heap[i4]? = some (MBox rx cx ta n ca)) := mset HB4.out
          have HF1' := hid (sto_fl (r := rx) (c := cx) (sa := ta) (n := n) (cap := ca) HF1.out HB4.out)
          have HF2' := hid (sto_fl (r := rx) (c := cx) (sa := ta) (n := n) (cap := ca) HF2.out HB4.out)
          obtain ⟨U, hU⟩ : ∃ X, Hid (StoM u4 i4 rx cx ta n ca = X) := ⟨_, rfl⟩
          rw [hU.out] at HGE HB5' HB4' HF1' HF2'
          have hU' := hU.out
          unfold StoM at hU'
          go_simp
          go_wp2_with fail
          refine hK.out _ _ (HKS.out _ HGE) (fun hHeldE => ?_)
          clear hK K z0 z1 z2 fz
          try simp only [Act.put, List.setIfInBounds_toArray, List.set_cons_zero, List.set_cons_succ]
          refine wpAnyH_ready (rs := [7]) (by kernel_rfl) (by simp) ?_
          refine AllReadyH.cons (o := _) rfl (fun K hK => ?_) AllReadyH.nil
          obtain ⟨z0, z1, z2⟩ := mcells_of HB5'.out
          have fz := frzM HB5'.out
          have HGF : Hid (Fr3 w (StoM U i5 ry cy tb m cb) p0 p1 (BBox rx cx sa n ka) (BBox ry cy sb m kb)) := HGE.out.sto HI5.out.1 HI5.out.2.1 HI5.out.2.2
          have HB4'' : Hid ((StoM U i5 ry cy tb m cb).heap[i4]? = some (MBox rx cx ta n ca)) := (StoM.keep HI45.out).trans HB4'.out
          have HB5'' : Hid ((StoM U i5 ry cy tb m cb).heap[i5]? = some (MBox ry cy tb m cb)) := mset HB5'.out
          have HF1'' := hid (sto_fl (r := ry) (c := cy) (sa := tb) (n := m) (cap := cb) HF1'.out HB5'.out)
          have HF2'' := hid (sto_fl (r := ry) (c := cy) (sa := tb) (n := m) (cap := cb) HF2'.out HB5'.out)
          have HGF' := HGF
          unfold StoM at HGF'
          go_simp
          go_wp2_with fail
          refine hK.out _ _ (HKS.out _ HGF') (fun hHeldF => ?_)
          clear hK K
          try simp only [Act.put, List.setIfInBounds_toArray, List.set_cons_zero, List.set_cons_succ]
          refine wpAnyH_done (by kernel_rfl) ?_ _
          exact HR.out _ _ ⟨ta, ca, tb, cb, i4, i5, rfl, HB4''.out, HB5''.out, HI45.out, HF1''.out, HF2''.out, HGF.out⟩
        · have hbq : Below u2.heap.size u2 (u2.alloc (MBox 0 0 none 0 0)) := (Below.refl _ _).alloc (Nat.le_refl _) _
          have HB4 : Hid ((u2.alloc (MBox 0 0 none 0 0)).heap[u2.heap.size]? = some (MBox 0 0 none 0 0)) := nblkM _ _
          have HG3 : Hid (Fr3 w (u2.alloc (MBox 0 0 none 0 0)) p0 p1 (BBox rx cx sa n ka) (BBox ry cy sb m kb)) := HG2.out.call hbq
          have HI4 : Hid (p0 ≠ u2.heap.size ∧ p1 ≠ u2.heap.size ∧ w.heap.size ≤ u2.heap.size) := ⟨Nat.ne_of_lt (Array.getElem?_eq_some_iff.1 HG2.out.2.1).1, Nat.ne_of_lt (Array.getElem?_eq_some_iff.1 HG2.out.2.2).1, HG2.out.1.size⟩
          have HI45 : Hid (u2.heap.size ≠ i5) := Ne.symm (Nat.ne_of_lt (Array.getElem?_eq_some_iff.1 HB5.out).1)
          have HB5 := hid (blkM HB5.out hbq)
          have HF1 := hid (HF1.out.below hbq)
          clear hbq
          go_simp
          go_wp2_with fail
          refine hK.out _ _ (HKS.out _ HG3) (fun hHeld3 => ?_)
          clear hK K
          try simp only [Act.put, List.setIfInBounds_toArray, List.set_cons_zero, List.set_cons_succ]
          obtain ⟨u3, hu3⟩ : ∃ X, Hid ((u2.alloc (MBox 0 0 none 0 0)) = X) := ⟨_, rfl⟩
          rw [hu3.out] at HB4 HG3 HB5 HF1
          have hy1 := hu3.out
          unfold MBox at hy1
          rw [hy1]
          obtain ⟨i4, hi4⟩ : ∃ X, Hid (u2.heap.size = X) := ⟨_, rfl⟩
          have hy2 := hi4.out
          rw [hi4.out] at HB4 HI4 HI45
          rw [hy2]
          clear hy1 hy2
          refine wpAnyH_ready (rs := [3]) (by kernel_rfl) (by simp) ?_
          refine AllReadyH.cons (o := _) rfl (fun K hK => ?_) AllReadyH.nil
          go_simp
          refine (HOY.out _ HG3.out.1).mono ?_
          rintro e u4 ⟨⟨tb, cb, rfl, hf⟩, hbq⟩
          have HF1 := hid (HF1.out.below hbq)
          have HF2 := hid hf
          have HG4 := hid (HG3.out.call hbq)
          have HB5 := hid (blkM HB5.out hbq)
          have HB4 := hid (blkM HB4.out hbq)
          unfold MV
          clear hbq hf
          go_wp2_with fail
          refine hK.out _ _ (HKS.out _ HG4) (fun hHeld4 => ?_)
          clear hK K
          try simp only [Act.put, List.setIfInBounds_toArray, List.set_cons_zero, List.set_cons_succ]
          refine wpAnyH_ready (rs := [6]) (by kernel_rfl) (by simp) ?_
          refine AllReadyH.cons (o := _) rfl (fun K hK => ?_) AllReadyH.nil
          obtain ⟨z0, z1, z2⟩ := mcells_of HB4.out
          have fz := frzM HB4.out
          have HGE : Hid (Fr3 w (StoM u4 i4 rx cx ta n ca) p0 p1 (BBox rx cx sa n ka) (BBox ry cy sb m kb)) := HG4.out.sto HI4.out.1 HI4.out.2.1 HI4.out.2.2
          have HB5' : Hid ((StoM u4 i4 rx cx ta n ca).heap[i5]? = some (MBox 0 0 none 0 0)) := (StoM.keep (Ne.symm HI45.out)).trans HB5.out
          have HB4' : Hid ((StoM u4 i4 rx cx ta n ca).heap[i4]? = some (MBox rx cx ta n ca)) := mset HB4.out
          have HF1' := hid (sto_fl (r := rx) (c := cx) (sa := ta) (n := n) (cap := ca) HF1.out HB4.out)
          have HF2' := hid (sto_fl (r := rx) (c := cx) (sa := ta) (n := n) (cap := ca) HF2.out HB4.out)
          obtain ⟨U, hU⟩ : ∃ X, Hid (StoM u4 i4 rx cx ta n ca = X) := ⟨_, rfl⟩
          rw [hU.out] at HGE HB5' HB4' HF1' HF2'
          have hU' := hU.out
          unfold StoM at hU'
          go_simp
          go_wp2_with fail
          refine hK.out _ _ (HKS.out _ HGE) (fun hHeldE => ?_)
          clear hK K z0 z1 z2 fz
          try simp only [Act.put, List.setIfInBounds_toArray, List.set_cons_zero, List.set_cons_succ]
          refine wpAnyH_ready (rs := [7]) (by kernel_rfl) (by simp) ?_
          refine AllReadyH.cons (o := _) rfl (fun K hK => ?_) AllReadyH.nil
          obtain ⟨z0, z1, z2⟩ := mcells_of HB5'.out
          have fz := frzM HB5'.out
          have HGF : Hid (Fr3 w (StoM U i5 ry cy tb m cb) p0 p1 (BBox rx cx sa n ka) (BBox ry cy sb m kb)) := HGE.out.sto HI5.out.1 HI5.out.2.1 HI5.out.2.2
          have HB4'' : Hid ((StoM U i5 ry cy tb m cb).heap[i4]? = some (MBox rx cx ta n ca)) := (StoM.keep HI45.out).trans HB4'.out
          have HB5'' : Hid ((StoM U i5 ry cy tb m cb).heap[i5]? = some (MBox ry cy tb m cb)) := mset HB5'.out
          have HF1'' := hid (sto_fl (r := ry) (c := cy) (sa := tb) (n := m) (cap := cb) HF1'.out HB5'.out)
          have HF2'' := hid (sto_fl (r := ry) (c := cy) (sa := tb) (n := m) (cap := cb) HF2'.out HB5'.out)
          have HGF' := HGF
          unfold StoM at HGF'
          go_simp
          go_wp2_with fail
          refine hK.out _ _ (HKS.out _ HGF') (fun hHeldF => ?_)
          clear hK K
          try simp only [Act.put, List.setIfInBounds_toArray, List.set_cons_zero, List.set_cons_succ]
          refine wpAnyH_done (by kernel_rfl) ?_ _
          exact HR.out _ _ ⟨ta, ca, tb, cb, i4, i5, rfl, HB4''.out, HB5''.out, HI45.out, HF1''.out, HF2''.out, HGF.out⟩
    · have hbq : Below w1.drew.heap.size w1.drew (w1.drew.alloc (MBox 0 0 none 0 0)) := (Below.refl _ _).alloc (Nat.le_refl _) _
      have HB4 : Hid ((w1.drew.alloc (MBox 0 0 none 0 0)).heap[w1.drew.heap.size]? = some (MBox 0 0 none 0 0)) := nblkM _ _
      have HG1 : Hid (Fr3 w (w1.drew.alloc (MBox 0 0 none 0 0)) p0 p1 (BBox rx cx sa n ka) (BBox ry cy sb m kb)) := HG0.out.call hbq
      have HI4 : Hid (p0 ≠ w1.drew.heap.size ∧ p1 ≠ w1.drew.heap.size ∧ w.heap.size ≤ w1.drew.heap.size) := ⟨Nat.ne_of_lt (Array.getElem?_eq_some_iff.1 HG0.out.2.1).1, Nat.ne_of_lt (Array.getElem?_eq_some_iff.1 HG0.out.2.2).1, HG0.out.1.size⟩
      clear hbq
      go_simp
      go_wp2_with fail
      refine hK.out _ _ (HKS.out _ HG1) (fun hHeld1 => ?_)
      clear hK K
      try simp only [Act.put, List.setIfInBounds_toArray, List.set_cons_zero, List.set_cons_succ]
      obtain ⟨u1, hu1⟩ : ∃ X, Hid ((w1.drew.alloc (MBox 0 0 none 0 0)) = X) := ⟨_, rfl⟩
      rw [hu1.out] at HB4 HG1
      have hy1 : (w1.alloc (.cells #[.int .i64 0, .int .i64 0, .slice none 0 0] 28)).drew = u1 := hu1.out
      rw [hy1]
      obtain ⟨i4, hi4⟩ : ∃ X, Hid (w1.drew.heap.size = X) := ⟨_, rfl⟩
      have hy2 : w1.heap.size = i4 := hi4.out
      rw [hi4.out] at HB4 HI4
      rw [hy2]
      clear hy1 hy2
      refine wpAnyH_ready (rs := [1, 5]) (by kernel_rfl) (by simp) ?_
      refine AllReadyH.cons (o := _) rfl (fun K hK => ?_) (AllReadyH.cons (o := _) rfl (fun K hK => ?_) AllReadyH.nil)
      · go_simp
        refine (HOX.out _ HG1.out.1).mono ?_
        rintro e u2 ⟨⟨ta, ca, rfl, hf⟩, hbq⟩
        have HF1 := hid hf
        have HG2 := hid (HG1.out.call hbq)
        have HB4 := hid (blkM HB4.out hbq)
        unfold MV
        clear hbq hf
        go_wp2_with fail
        refine hK.out _ _ (HKS.out _ HG2) (fun hHeld2 => ?_)
        clear hK K
        try simp only [Act.put, List.setIfInBounds_toArray, List.set_cons_zero, List.set_cons_succ]
        refine wpAnyH_ready (rs := [3, 5]) (by kernel_rfl) (by simp) ?_
        refine AllReadyH.cons (o := _) rfl (fun K hK => ?_) (AllReadyH.cons (o := _) rfl (fun K hK => ?_) AllReadyH.nil)
        · go_simp
          refine (HOY.out _ HG2.out.1).mono ?_
          rintro e u3 ⟨⟨tb, cb, rfl, hf⟩, hbq⟩
          have HF1 := hid (HF1.out.below hbq)
          have HF2 := hid hf
          have HG3 := hid (HG2.out.call hbq)
          have HB4 := hid (blkM HB4.out hbq)
          unfold MV
          clear hbq hf
          go_wp2_with fail
          refine hK.out _ _ (HKS.out _ HG3) (fun hHeld3 => ?_)
          clear hK K
          try simp only [Act.put, List.setIfInBounds_toArray, List.set_cons_zero, List.set_cons_succ]
          refine wpAnyH_ready (rs := [5]) (by kernel_rfl) (by simp) ?_
          refine AllReadyH.cons (o := _) rfl (fun K hK => ?_) AllReadyH.nil
          have hbq : Below u3.heap.size u3 (u3.alloc (MBox 0 0 none 0 0)) := (Below.refl _ _).alloc (Nat.le_refl _) _
          have HB5 : Hid ((u3.alloc (MBox 0 0 none 0 0)).heap[u3.heap.size]? = some (MBox 0 0 none 0 0)) := nblkM _ _
          have HG4 : Hid (Fr3 w (u3.alloc (MBox 0 0 none 0 0)) p0 p1 (BBox rx cx sa n ka) (BBox ry cy sb m kb)) := HG3.out.call hbq
          have HI5 : Hid (p0 ≠ u3.heap.size ∧ p1 ≠ u3.heap.size ∧ w.heap.size ≤ u3.heap.size) := ⟨Nat.ne_of_lt (Array.getElem?_eq_some_iff.1 HG3.out.2.1).1, Nat.ne_of_lt (Array.getElem?_eq_some_iff.1 HG3.out.2.2).1, HG3.out.1.size⟩
          have HI45 : Hid (i4 ≠ u3.heap.size) := Nat.ne_of_lt (Array.getElem?_eq_some_iff.1 HB4.out).1
          have HB4 := hid (blkM HB4.out hbq)
          have HF1 := hid (HF1.out.below hbq)
          have HF2 := hid (HF2.out.below hbq)
          clear hbq
          go_simp
          go_wp2_with fail
          refine hK.out _ _ (HKS.out _ HG4) (fun hHeld4 => ?_)
          clear hK K
          try simp only [Act.put, List.setIfInBounds_toArray, List.set_cons_zero, List.set_cons_succ]
          obtain ⟨u4, hu4⟩ : ∃ X, Hid ((u3.alloc (MBox 0 0 none 0 0)) = X) := ⟨_, rfl⟩
          rw [hu4.out] at HB5 HG4 HB4 HF1 HF2
          have hy1 := hu4.out
          unfold MBox at hy1
          rw [hy1]
          obtain ⟨i5, hi5⟩ : ∃ X, Hid (u3.heap.size = X) := ⟨_, rfl⟩
          have hy2 := hi5.out
          rw [hi5.out] at HB5 HI5 HI45
          rw [hy2]
          clear hy1 hy2
          refine wpAnyH_ready (rs := [6]) (by kernel_rfl) (by simp) ?_
          refine AllReadyH.cons (o := _) rfl (fun K hK => ?_) AllReadyH.nil
          obtain ⟨z0, z1, z2⟩ := mcells_of HB4.out
          have fz := frzM HB4.out
          have HGE : Hid (Fr3 w (StoM u4 i4 rx cx ta n ca) p0 p1 (BBox rx cx sa n ka) (BBox ry cy sb m kb)) := HG4.out.sto HI4.out.1 HI4.out.2.1 HI4.out.2.2
          have HB5' : Hid ((StoM u4 i4 rx cx ta n ca).heap[i5]? = some (MBox 0 0 none 0 0)) := (StoM.keep (Ne.symm HI45.out)).trans HB5.out
          have HB4' : Hid ((StoM u4 i4 rx cx ta n ca).heap[i4]? = some (MBox rx cx ta n ca)) := mset HB4.out
          have HF1' := hid (sto_fl (r := rx) (c := cx) (sa := ta) (n := n) (cap := ca) HF1.out HB4.out)
          have HF2' := hid (sto_fl (r := rx) (c := cx) (sa := ta) (n := n) (cap := ca) HF2.out HB4.out)
          obtain ⟨U, hU⟩ : ∃ X, Hid (StoM u4 i4 rx cx ta n ca = X) := ⟨_, rfl⟩
          rw [hU.out] at HGE HB5' HB4' HF1' HF2'
          have hU' := hU.out
          unfold StoM at hU'
          go_simp
          go_wp2_with fail
          refine hK.out _ _ (HKS.out _ HGE) (fun hHeldE => ?_)
          clear hK K z0 z1 z2 fz
          try simp only [Act.put, List.setIfInBounds_toArray, List.set_cons_zero, List.set_cons_succ]
          refine wpAnyH_ready (rs := [7]) (by kernel_rfl) (by simp) ?_
          refine AllReadyH.cons (o := _) rfl (fun K hK => ?_) AllReadyH.nil
          obtain ⟨z0, z1, z2⟩ := mcells_of HB5'.out
          have fz := frzM HB5'.out
          have HGF : Hid (Fr3 w (StoM U i5 ry cy tb m cb) p0 p1 (BBox rx cx sa n ka) (BBox ry cy sb m kb)) := HGE.out.sto HI5.out.1 HI5.out.2.1 HI5.out.2.2
          have HB4'' : Hid ((StoM U i5 ry cy tb m cb).heap[i4]? = some (MBox rx cx ta n ca)) := (StoM.keep HI45.out).trans HB4'.out
          have HB5'' : Hid ((StoM U i5 ry cy tb m cb).heap[i5]? = some (MBox ry cy tb m cb)) := mset HB5'.out
          have HF1'' := hid (sto_fl (r := ry) (c := cy) (sa := tb) (n := m) (cap := cb) HF1'.out HB5'.out)
          have HF2'' := hid (sto_fl (r := ry) (c := cy) (sa := tb) (n := m) (cap := cb) HF2'.out HB5'.out)
          have HGF' := HGF
          unfold StoM at HGF'
          go_simp
          go_wp2_with fail
          refine hK.out _ _ (HKS.out _ HGF') (fun hHeldF => ?_)
          clear hK K
          try simp only [Act.put, List.setIfInBounds_toArray, List.set_cons_zero, List.set_cons_succ]
          refine wpAnyH_done (by kernel_rfl) ?_ _
          exact HR.out _ _ ⟨ta, ca, tb, cb, i4, i5, rfl, HB4''.out, HB5''.out, HI45.out, HF1''.out, HF2''.out, HGF.out⟩
        · have hbq : Below u2.heap.size u2 (u2.alloc (MBox 0 0 none 0 0)) := (Below.refl _ _).alloc (Nat.le_refl _) _
          have HB5 : Hid ((u2.alloc (MBox 0 0 none 0 0)).heap[u2.heap.size]? = some (MBox 0 0 none 0 0)) := nblkM _ _
          have HG3 : Hid (Fr3 w (u2.alloc (MBox 0 0 none 0 0)) p0 p1 (BBox rx cx sa n ka) (BBox ry cy sb m kb)) := HG2.out.call hbq
          have HI5 : Hid (p0 ≠ u2.heap.size ∧ p1 ≠ u2.heap.size ∧ w.heap.size ≤ u2.heap.size) := ⟨Nat.ne_of_lt (Array.getElem?_eq_some_iff.1 HG2.out.2.1).1, Nat.ne_of_lt (Array.getElem?_eq_some_iff.1 HG2.out.2.2).1, HG2.out.1.size⟩
          have HI45 : Hid (i4 ≠ u2.heap.size) := Nat.ne_of_lt (Array.getElem?_eq_some_iff.1 HB4.out).1
          have HB4 := hid (blkM HB4.out hbq)
          have HF1 := hid (HF1.out.below hbq)
          clear hbq
          go_simp
          go_wp2_with fail
          refine hK.out _ _ (HKS.out _ HG3) (fun hHeld3 => ?_)
          clear hK K
          try simp only [Act.put, List.setIfInBounds_toArray, List.set_cons_zero, List.set_cons_succ]
          obtain ⟨u3, hu3⟩ : ∃ X, Hid ((u2.alloc (MBox 0 0 none 0 0)) = X) := ⟨_, rfl⟩
          rw [hu3.out] at HB5 HG3 HB4 HF1
          have hy1 := hu3.out
          unfold MBox at hy1
          rw [hy1]
          obtain ⟨i5, hi5⟩ : ∃ X, Hid (u2.heap.size = X) := ⟨_, rfl⟩
          have hy2 := hi5.out
          rw [hi5.out] at HB5 HI5 HI45
          rw [hy2]
          clear hy1 hy2
          refine wpAnyH_ready (rs := [3]) (by kernel_rfl) (by simp) ?_
          refine AllReadyH.cons (o := _) rfl (fun K hK => ?_) AllReadyH.nil
          go_simp
          refine (HOY.out _ HG3.out.1).mono ?_
          rintro e u4 ⟨⟨tb, cb, rfl, hf⟩, hbq⟩
          have HF1 := hid (HF1.out.below hbq)
          have HF2 := hid hf
          have HG4 := hid (HG3.out.call hbq)
          have HB4 := hid (blkM HB4.out hbq)
          have HB5 := hid (blkM HB5.out hbq)
          unfold MV
          clear hbq hf
          go_wp2_with fail
          refine hK.out _ _ (HKS.out _ HG4) (fun hHeld4 => ?_)
          clear hK K
          try simp only [Act.put, List.setIfInBounds_toArray, List.set_cons_zero, List.set_cons_succ]
          refine wpAnyH_ready (rs := [6]) (by kernel_rfl) (by simp) ?_
          refine AllReadyH.cons (o := _) rfl (fun K hK => ?_) AllReadyH.nil
          obtain ⟨z0, z1, z2⟩ := mcells_of HB4.out
          have fz := frzM HB4.out
          have HGE : Hid (Fr3 w (StoM u4 i4 rx cx ta n ca) p0 p1 (BBox rx cx sa n ka) (BBox ry cy sb m kb)) := HG4.out.sto HI4.out.1 HI4.out.2.1 HI4.out.2.2
          have HB5' : Hid ((StoM u4 i4 rx cx ta n ca).heap[i5]? = some (MBox 0 0 none 0 0)) := (StoM.keep (Ne.symm HI45.out)).trans HB5.out
          have HB4' : Hid ((StoM u4 i4 rx cx ta n ca).heap[i4]? = some (MBox rx cx ta n ca)) := mset HB4.out
          have HF1' := hid (sto_fl (r := rx) (c := cx) (sa := ta) (n := n) (cap := ca) HF1.out HB4.out)
          have HF2' := hid (sto_fl (r := rx) (c := cx) (sa := ta) (n := n) (cap := ca) HF2.out HB4.out)
          obtain ⟨U, hU⟩ : ∃ X, Hid (StoM u4 i4 rx cx ta n ca = X) := ⟨_, rfl⟩
          rw [hU.out] at HGE HB5' HB4' HF1' HF2'
          have hU' := hU.out
          unfold StoM at hU'
          go_simp
          go_wp2_with fail
          refine hK.out _ _ (HKS.out _ HGE) (fun hHeldE => ?_)
          clear hK K z0 z1 z2 fz
          try simp only [Act.put, List.setIfInBounds_toArray, List.set_cons_zero, List.set_cons_succ]
          refine wpAnyH_ready (rs := [7]) (by kernel_rfl) (by simp) ?_
          refine AllReadyH.cons (o := _) rfl (fun K hK => ?_) AllReadyH.nil
          obtain ⟨z0, z1, z2⟩ := mcells_of HB5'.out
          have fz := frzM HB5'.out
          have HGF : Hid (Fr3 w (StoM U i5 ry cy tb m cb) p0 p1 (BBox rx cx sa n ka) (BBox ry cy sb m kb)) := HGE.out.sto HI5.out.1 HI5.out.2.1 HI5.out.2.2
          have HB4'' : Hid ((StoM U i5 ry cy tb m cb).heap[i4]? = some (MBox rx cx ta n ca)) := (StoM.keep HI45.out).trans HB4'.out
          have HB5'' : Hid ((StoM U i5 ry cy tb m cb).heap[i5]? = some (MBox ry cy tb m cb)) := mset HB5'.out
          have HF1'' := hid (sto_fl (r := ry) (c := cy) (sa := tb) (n := m) (cap := cb) HF1'.out HB5'.out)
          have HF2'' := hid (sto_fl (r := ry) (c := cy) (sa := tb) (n := m) (cap := cb) HF2'.out HB5'.out)
          have HGF' := HGF
          unfold StoM at HGF'
          go_simp
          go_wp2_with fail
          refine hK.out _ _ (HKS.out _ HGF') (fun hHeldF => ?_)
          clear hK K
          try simp only [Act.put, List.setIfInBounds_toArray, List.set_cons_zero, List.set_cons_succ]
          refine wpAnyH_done (by kernel_rfl) ?_ _
          exact HR.out _ _ ⟨ta, ca, tb, cb, i4, i5, rfl, HB4''.out, HB5''.out, HI45.out, HF1''.out, HF2''.out, HGF.out⟩
      · have hbq : Below u1.heap.size u1 (u1.alloc (MBox 0 0 none 0 0)) := (Below.refl _ _).alloc (Nat.le_refl _) _
        have HB5 : Hid ((u1.alloc (MBox 0 0 none 0 0)).heap[u1.heap.size]? = some (MBox 0 0 none 0 0)) := nblkM _ _
        have HG2 : Hid (Fr3 w (u1.alloc (MBox 0 0 none 0 0)) p0 p1 (BBox rx cx sa n ka) (BBox ry cy sb m kb)) := HG1.out.call hbq
        have HI5 : Hid (p0 ≠ u1.heap.size ∧ p1 ≠ u1.heap.size ∧ w.heap.size ≤ u1.heap.size) := ⟨Nat.ne_of_lt (Array.getElem?_eq_some_iff.1 HG1.out.2.1).1, Nat.ne_of_lt (Array.getElem?_eq_some_iff.1 HG1.out.2.2).1, HG1.out.1.size⟩
        have HI45 : Hid (i4 ≠ u1.heap.size) := Nat.ne_of_lt (Array.getElem?_eq_some_iff.1 HB4.out).1
        have HB4 := hid (blkM HB4.out hbq)
        clear hbq
        go_simp
        go_wp2_with fail
        refine hK.out _ _ (HKS.out _ HG2) (fun hHeld2 => ?_)
        clear hK K
        try simp only [Act.put, List.setIfInBounds_toArray, List.set_cons_zero, List.set_cons_succ]
        obtain ⟨u2, hu2⟩ : ∃ X, Hid ((u1.alloc (MBox 0 0 none 0 0)) = X) := ⟨_, rfl⟩
        rw [hu2.out] at HB5 HG2 HB4
        have hy1 := hu2.out
        unfold MBox at hy1
        rw [hy1]
        obtain ⟨i5, hi5⟩ : ∃ X, Hid (u1.heap.size = X) := ⟨_, rfl⟩
        have hy2 := hi5.out
        rw [hi5.out] at HB5 HI5 HI45
        rw [hy2]
        clear hy1 hy2
        refine wpAnyH_ready (rs := [1]) (by kernel_rfl) (by simp) ?_
        refine AllReadyH.cons (o := _) rfl (fun K hK => ?_) AllReadyH.nil
        go_simp
        refine (HOX.out _ HG2.out.1).mono ?_
        rintro e u3 ⟨⟨ta, ca, rfl, hf⟩, hbq⟩
        have HF1 := hid hf
        have HG3 := hid (HG2.out.call hbq)
        have HB4 := hid (blkM HB4.out hbq)
        have HB5 := hid (blkM HB5.out hbq)
        unfold MV
        clear hbq hf
        go_wp2_with fail
        refine hK.out _ _ (HKS.out _ HG3) (fun hHeld3 => ?_)
        clear hK K
        try simp only [Act.put, List.setIfInBounds_toArray, List.set_cons_zero, List.set_cons_succ]
        refine wpAnyH_ready (rs := [3]) (by kernel_rfl) (by simp) ?_
        refine AllReadyH.cons (o := _) rfl (fun K hK => ?_) AllReadyH.nil
        go_simp
        refine (HOY.out _ HG3.out.1).mono ?_
        rintro e u4 ⟨⟨tb, cb, rfl, hf⟩, hbq⟩
        have HF1 := hid (HF1.out.below hbq)
        have HF2 := hid hf
        have HG4 := hid (HG3.out.call hbq)
        have HB4 := hid (blkM HB4.out hbq)
        have HB5 := hid (blkM HB5.out hbq)
        unfold MV
        clear hbq hf
        go_wp2_with fail
        refine hK.out _ _ (HKS.out _ HG4) (fun hHeld4 => ?_)
        clear hK K
        try simp only [Act.put, List.setIfInBounds_toArray, List.set_cons_zero, List.set_cons_succ]
        refine wpAnyH_ready (rs := [6]) (by kernel_rfl) (by simp) ?_
        refine AllReadyH.cons (o := _) rfl (fun K hK => ?_) AllReadyH.nil
        obtain ⟨z0, z1, z2⟩ := mcells_of HB4.out
        have fz := frzM HB4.out
        have HGE : Hid (Fr3 w (StoM u4 i4 rx cx ta n ca) p0 p1 (BBox rx cx sa n ka) (BBox ry cy sb m kb)) := HG4.out.sto HI4.out.1 HI4.out.2.1 HI4.out.2.2
        have HB5' : Hid ((StoM u4 i4 rx cx ta n ca).heap[i5]? = some (MBox 0 0 none 0 0)) := (StoM.keep (Ne.symm HI45.out)).trans HB5.out
        have HB4' : Hid ((StoM u4 i4 rx cx ta n ca).heap[i4]? = some (MBox rx cx ta n ca)) := mset HB4.out
        have HF1' := hid (sto_fl (r := rx) (c := cx) (sa := ta) (n := n) (cap := ca) HF1.out HB4.out)
        have HF2' := hid (sto_fl (r := rx) (c := cx) (sa := ta) (n := n) (cap := ca) HF2.out HB4.out)
        obtain ⟨U, hU⟩ : ∃ X, Hid (StoM u4 i4 rx cx ta n ca = X) := ⟨_, rfl⟩
        rw [hU.out] at HGE HB5' HB4' HF1' HF2'
        have hU' := hU.out
        unfold StoM at hU'
        go_simp
        go_wp2_with fail
        refine hK.out _ _ (HKS.out _ HGE) (fun hHeldE => ?_)
        clear hK K z0 z1 z2 fz
        try simp only [Act.put, List.setIfInBounds_toArray, List.set_cons_zero, List.set_cons_succ]
        refine wpAnyH_ready (rs := [7]) (by kernel_rfl) (by simp) ?_
        refine AllReadyH.cons (o := _) rfl (fun K hK => ?_) AllReadyH.nil
        obtain ⟨z0, z1, z2⟩ := mcells_of HB5'.out
        have fz := frzM HB5'.out
        have HGF : Hid (Fr3 w (StoM U i5 ry cy tb m cb) p0 p1 (BBox rx cx sa n ka) (BBox ry cy sb m kb)) := HGE.out.sto HI5.out.1 HI5.out.2.1 HI5.out.2.2
        have HB4'' : Hid ((StoM U i5 ry cy tb m cb).heap[i4]? = some (MBox rx cx ta n ca)) := (StoM.keep HI45.out).trans HB4'.out
        have HB5'' : Hid ((StoM U i5 ry cy tb m cb).heap[i5]? = some (MBox ry cy tb m cb)) := mset HB5'.out
        have HF1'' := hid (sto_fl (r := ry) (c := cy) (sa := tb) (n := m) (cap := cb) HF1'.out HB5'.out)
        have HF2'' := hid (sto_fl (r := ry) (c := cy) (sa := tb) (n := m) (cap := cb) HF2'.out HB5'.out)
        have HGF' := HGF
        unfold StoM at HGF'
        go_simp
        go_wp2_with fail
        refine hK.out _ _ (HKS.out _ HGF') (fun hHeldF => ?_)
        clear hK K
        try simp only [Act.put, List.setIfInBounds_toArray, List.set_cons_zero, List.set_cons_succ]
        refine wpAnyH_done (by kernel_rfl) ?_ _
        exact HR.out _ _ ⟨ta, ca, tb, cb, i4, i5, rfl, HB4''.out, HB5''.out, HI45.out, HF1''.out, HF2''.out, HGF.out⟩
    · have hbq : Below w1.drew.heap.size w1.drew (w1.drew.alloc (MBox 0 0 none 0 0)) := (Below.refl _ _).alloc (Nat.le_refl _) _
      have HB5 : Hid ((w1.drew.alloc (MBox 0 0 none 0 0)).heap[w1.drew.heap.size]? = some (MBox 0 0 none 0 0)) := nblkM _ _
      have HG1 : Hid (Fr3 w (w1.drew.alloc (MBox 0 0 none 0 0)) p0 p1 (BBox rx cx sa n ka) (BBox ry cy sb m kb)) := HG0.out.call hbq
      have HI5 : Hid (p0 ≠ w1.drew.heap.size ∧ p1 ≠ w1.drew.heap.size ∧ w.heap.size ≤ w1.drew.heap.size) := ⟨Nat.ne_of_lt (Array.getElem?_eq_some_iff.1 HG0.out.2.1).1, Nat.ne_of_lt (Array.getElem?_eq_some_iff.1 HG0.out.2.2).1, HG0.out.1.size⟩
      clear hbq
      go_simp
      go_wp2_with fail
      refine hK.out _ _ (HKS.out _ HG1) (fun hHeld1 => ?_)
      clear hK K
      try simp only [Act.put, List.setIfInBounds_toArray, List.set_cons_zero, List.set_cons_succ]
      obtain ⟨u1, hu1⟩ : ∃ X, Hid ((w1.drew.alloc (MBox 0 0 none 0 0)) = X) := ⟨_, rfl⟩
      rw [hu1.out] at HB5 HG1
      have hy1 : (w1.alloc (.cells #[.int .i64 0, .int .i64 0, .slice none 0 0] 28)).drew = u1 := hu1.out
      rw [hy1]
      obtain ⟨i5, hi5⟩ : ∃ X, Hid (w1.drew.heap.size = X) := ⟨_, rfl⟩
      have hy2 : w1.heap.size = i5 := hi5.out
      rw [hi5.out] at HB5 HI5
      rw [hy2]
      clear hy1 hy2
      refine wpAnyH_ready (rs := [1, 4]) (by kernel_rfl) (by simp) ?_
      refine AllReadyH.cons (o := _) rfl (fun K hK => ?_) (AllReadyH.cons (o := _) rfl (fun K hK => ?_) AllReadyH.nil)
      · go_simp
        refine (HOX.out _ HG1.out.1).mono ?_
        rintro e u2 ⟨⟨ta, ca, rfl, hf⟩, hbq⟩
        have HF1 := hid hf
        have HG2 := hid (HG1.out.call hbq)
        have HB5 := hid (blkM HB5.out hbq)
        unfold MV
        clear hbq hf
        go_wp2_with fail
        refine hK.out _ _ (HKS.out _ HG2) (fun hHeld2 => ?_)
        clear hK K
        try simp only [Act.put, List.setIfInBounds_toArray, List.set_cons_zero, List.set_cons_succ]
        refine wpAnyH_ready (rs := [3, 4]) (by kernel_rfl) (by simp) ?_
        refine AllReadyH.cons (o := _) rfl (fun K hK => ?_) (AllReadyH.cons (o := _) rfl (fun K hK => ?_) AllReadyH.nil)
        · go_simp
          refine (HOY.out _ HG2.out.1).mono ?_
          rintro e u3 ⟨⟨tb, cb, rfl, hf⟩, hbq⟩
          have HF1 := hid (HF1.out.below hbq)
          have HF2 := hid hf
          have HG3 := hid (HG2.out.call hbq)
          have HB5 := hid (blkM HB5.out hbq)
          unfold MV
          clear hbq hf
          go_wp2_with fail
          refine hK.out _ _ (HKS.out _ HG3) (fun hHeld3 => ?_)
          clear hK K
          try simp only [Act.put, List.setIfInBounds_toArray, List.set_cons_zero, List.set_cons_succ]
          refine wpAnyH_ready (rs := [4]) (by kernel_rfl) (by simp) ?_
          refine AllReadyH.cons (o := _) rfl (fun K hK => ?_) AllReadyH.nil
          have hbq : Below u3.heap.size u3 (u3.alloc (MBox 0 0 none 0 0)) := (Below.refl _ _).alloc (Nat.le_refl _) _
          have HB4 : Hid ((u3.alloc (MBox 0 0 none 0 0)).heap[u3.heap.size]? = some (MBox 0 0 none 0 0)) := nblkM _ _
          have HG4 : Hid (Fr3 w (u3.alloc (MBox 0 0 none 0 0)) p0 p1 (BBox rx cx sa n ka) (BBox ry cy sb m kb)) := HG3.out.call hbq
          have HI4 : Hid (p0 ≠ u3.heap.size ∧ p1 ≠ u3.heap.size ∧ w.heap.size ≤ u3.heap.size) := ⟨Nat.ne_of_lt (Array.getElem?_eq_some_iff.1 HG3.out.2.1).1, Nat.ne_of_lt (Array.getElem?_eq_some_iff.1 HG3.out.2.2).1, HG3.out.1.size⟩
          have HI45 : Hid (u3.heap.size ≠ i5) := Ne.symm (Nat.ne_of_lt (Array.getElem?_eq_some_iff.1 HB5.out).1)
          have HB5 := hid (blkM HB5.out hbq)
          have HF1 := hid (HF1.out.below hbq)
          have HF2 := hid (HF2.out.below hbq)
          clear hbq
          go_simp
          go_wp2_with fail
          refine hK.out _ _ (HKS.out _ HG4) (fun hHeld4 => ?_)
          clear hK K
          try simp only [Act.put, List.setIfInBounds_toArray, List.set_cons_zero, List.set_cons_succ]
          obtain ⟨u4, hu4⟩ : ∃ X, Hid ((u3.alloc (MBox 0 0 none 0 0)) = X) := ⟨_, rfl⟩
          rw [hu4.out] at HB4 HG4 HB5 HF1 HF2
          have hy1 := hu4.out
          unfold MBox at hy1
          rw [hy1]
          obtain ⟨i4, hi4⟩ : ∃ X, Hid (u3.heap.size = X) := ⟨_, rfl⟩
          have hy2 := hi4.out
          rw [hi4.out] at HB4 HI4 HI45
          rw [hy2]
          clear hy1 hy2
          refine wpAnyH_ready (rs := [6]) (by kernel_rfl) (by simp) ?_
          refine AllReadyH.cons (o := _) rfl (fun K hK => ?_) AllReadyH.nil
          obtain ⟨z0, z1, z2⟩ := mcells_of HB4.out
          have fz := frzM HB4.out
          have HGE : Hid (Fr3 w (StoM u4 i4 rx cx ta n ca) p0 p1 (BBox rx cx sa n ka) (BBox ry cy sb m kb)) := HG4.out.sto HI4.out.1 HI4.out.2.1 HI4.out.2.2
          have HB5' : Hid ((StoM u4 i4 rx cx ta n ca).heap[i5]? = some (MBox 0 0 none 0 0)) := (StoM.keep (Ne.symm HI45.out)).trans HB5.out
          have HB4' : Hid ((StoM u4 i4 rx cx ta n ca).heap[i4]? = some (MBox rx cx ta n ca)) := mset HB4.out
          have HF1' := hid (sto_fl (r := rx) (c := cx) (sa := ta) (n := n) (cap := ca) HF1.out HB4.out)
          have HF2' := hid (sto_fl (r := rx) (c := cx) (sa := ta) (n := n) (cap := ca) HF2.out HB4.out)
          obtain ⟨U, hU⟩ : ∃ X, Hid (StoM u4 i4 rx cx ta n ca = X) := ⟨_, rfl⟩
          rw [hU.out] at HGE HB5' HB4' HF1' HF2'
          have hU' := hU.out
          unfold StoM at hU'
          go_simp
          go_wp2_with fail
          refine hK.out _ _ (HKS.out _ HGE) (fun hHeldE => ?_)
          clear hK K z0 z1 z2 fz
          try simp only [Act.put, List.setIfInBounds_toArray, List.set_cons_zero, List.set_cons_succ]
          refine wpAnyH_ready (rs := [7]) (by kernel_rfl) (by simp) ?_
          refine AllReadyH.cons (o := _) rfl (fun K hK => ?_) AllReadyH.nil
          obtain ⟨z0, z1, z2⟩ := mcells_of HB5'.out
          have fz := frzM HB5'.out
          have HGF : Hid (Fr3 w (StoM U i5 ry cy tb m cb) p0 p1 (BBox rx cx sa n ka) (BBox ry cy sb m kb)) := HGE.out.sto HI5.out.1 HI5.out.2.1 HI5.out.2.2
          have HB4'' : Hid ((StoM U i5 ry cy tb m cb).heap[i4]? = some (MBox rx cx ta n ca)) := (StoM.keep HI45.out).trans HB4'.out
          have HB5'' : Hid ((StoM U i5 ry cy tb m cb).heap[i5]? = some (MBox ry cy tb m cb)) := mset HB5'.out
          have HF1'' := hid (sto_fl (r := ry) (c := cy) (sa := tb) (n := m) (cap := cb) HF1'.out HB5'.out)
          have HF2'' := hid (sto_fl (r := ry) (c := cy) (sa := tb) (n := m) (cap := cb) HF2'.out HB5'.out)
          have HGF' := HGF
          unfold StoM at HGF'
          go_simp
          go_wp2_with fail
          refine hK.out _ _ (HKS.out _ HGF') (fun hHeldF => ?_)
          clear hK K
          try simp only [Act.put, List.setIfInBounds_toArray, List.set_cons_zero, List.set_cons_succ]
          refine wpAnyH_done (by kernel_rfl) ?_ _
          exact HR.out _ _ ⟨ta, ca, tb, cb, i4, i5, rfl, HB4''.out, HB5''.out, HI45.out, HF1''.out, HF2''.out, HGF.out⟩
        · have hbq : Below u2.heap.size u2 (u2.alloc (MBox 0 0 none 0 0)) := (Below.refl _ _).alloc (Nat.le_refl _) _
          have HB4 : Hid ((u2.alloc (MBox 0 0 none 0 0)).heap[u2.heap.size]? = some (MBox 0 0 none 0 0)) := nblkM _ _
          have HG3 : Hid (Fr3 w (u2.alloc (MBox 0 0 none 0 0)) p0 p1 (BBox rx cx sa n ka) (BBox ry cy sb m kb)) := HG2.out.call hbq
          have HI4 : Hid (p0 ≠ u2.heap.size ∧ p1 ≠ u2.heap.size ∧ w.heap.size ≤ u2.heap.size) := ⟨Nat.ne_of_lt (Array.getElem?_eq_some_iff.1 HG2.out.2.1).1, Nat.ne_of_lt (Array.getElem?_eq_some_iff.1 HG2.out.2.2).1, HG2.out.1.size⟩
          have HI45 : Hid (u2.heap.size ≠ i5) := Ne.symm (Nat.ne_of_lt (Array.getElem?_eq_some_iff.1 HB5.out).1)
          have HB5 := hid (blkM HB5.out hbq)
          have HF1 := hid (HF1.out.below hbq)
          clear hbq
          go_simp
          go_wp2_with fail
          refine hK.out _ _ (HKS.out _ HG3) (fun hHeld3 => ?_)
          clear hK K
          try simp only [Act.put, List.setIfInBounds_toArray, List.set_cons_zero, List.set_cons_succ]
          obtain ⟨u3, hu3⟩ : ∃ X, Hid ((u2.alloc (MBox 0 0 none 0 0)) = X) := ⟨_, rfl⟩
          rw [hu3.out] at HB4 HG3 HB5 HF1
          have hy1 := hu3.out
          unfold MBox at hy1
          rw [hy1]
          obtain ⟨i4, hi4⟩ : ∃ X, Hid (u2.heap.size = X) := ⟨_, rfl⟩
          have hy2 := hi4.out
          rw [hi4.out] at HB4 HI4 HI45
          rw [hy2]
          clear hy1 hy2
          refine wpAnyH_ready (rs := [3]) (by kernel_rfl) (by simp) ?_
          refine AllReadyH.cons (o := _) rfl (fun K hK => ?_) AllReadyH.nil
          go_simp
          refine (HOY.out _ HG3.out.1).mono ?_
          rintro e u4 ⟨⟨tb, cb, rfl, hf⟩, hbq⟩
          have HF1 := hid (HF1.out.below hbq)
          have HF2 := hid hf
          have HG4 := hid (HG3.out.call hbq)
          have HB5 := hid (blkM HB5.out hbq)
          have HB4 := hid (blkM HB4.out hbq)
          unfold MV
          clear hbq hf
          go_wp2_with fail
          refine hK.out _ _ (HKS.out _ HG4) (fun hHeld4 => ?_)
          clear hK K
          try simp only [Act.put, List.setIfInBounds_toArray, List.set_cons_zero, List.set_cons_succ]
          refine wpAnyH_ready (rs := [6]) (by kernel_rfl) (by simp) ?_
          refine AllReadyH.cons (o := _) rfl (fun K hK => ?_) AllReadyH.nil
          obtain ⟨z0, z1, z2⟩ := mcells_of HB4.out
          have fz := frzM HB4.out
          have HGE : Hid (Fr3 w (StoM u4 i4 rx cx ta n ca) p0 p1 (BBox rx cx sa n ka) (BBox ry cy sb m kb)) := HG4.out.sto HI4.out.1 HI4.out.2.1 HI4.out.2.2
          have HB5' : Hid ((StoM u4 i4 rx cx ta n ca).heap[i5]? = some (MBox 0 0 none 0 0)) := (StoM.keep (Ne.symm HI45.out)).trans HB5.out
          have HB4' : Hid ((StoM u4 i4 rx cx ta n ca).heap[i4]? = some (MBox rx cx ta n ca)) := mset HB4.out
          have HF1' := hid (sto_fl (r := rx) (c := cx) (sa := ta) (n := n) (cap := ca) HF1.out HB4.out)
          have HF2' := hid (sto_fl (r := rx) (c := cx) (sa := ta) (n := n) (cap := ca) HF2.out HB4.out)
          obtain ⟨U, hU⟩ : ∃ X, Hid (StoM u4 i4 rx cx ta n ca = X) := ⟨_, rfl⟩
          rw [hU.out] at HGE HB5' HB4' HF1' HF2'
          have hU' := hU.out
          unfold StoM at hU'
          go_simp
          go_wp2_with fail
          refine hK.out _ _ (HKS.out _ HGE) (fun hHeldE => ?_)
          clear hK K z0 z1 z2 fz
          try simp only [Act.put, List.setIfInBounds_toArray, List.set_cons_zero, List.set_cons_succ]
          refine wpAnyH_ready (rs := [7]) (by kernel_rfl) (by simp) ?_
          refine AllReadyH.cons (o := _) rfl (fun K hK => ?_) AllReadyH.nil
          obtain ⟨z0, z1, z2⟩ := mcells_of HB5'.out
          have fz := frzM HB5'.out
          have HGF : Hid (Fr3 w (StoM U i5 ry cy tb m cb) p0 p1 (BBox rx cx sa n ka) (BBox ry cy sb m kb)) := HGE.out.sto HI5.out.1 HI5.out.2.1 HI5.out.2.2
          have HB4'' : Hid ((StoM U i5 ry cy tb m cb).heap[i4]? = some (MBox rx cx ta n ca)) := (StoM.keep HI45.out).trans HB4'.out
          have HB5'' : Hid ((StoM U i5 ry cy tb m cb).heap[i5]? = some (MBox ry cy tb m cb)) := mset HB5'.out
          have HF1'' := hid (sto_fl (r := ry) (c := cy) (sa := tb) (n := m) (cap := cb) HF1'.out HB5'.out)
          have HF2'' := hid (sto_fl (r := ry) (c := cy) (sa := tb) (n := m) (cap := cb) HF2'.out HB5'.out)
          have HGF' := HGF
          unfold StoM at HGF'
          go_simp
          go_wp2_with fail
          refine hK.out _ _ (HKS.out _ HGF') (fun hHeldF => ?_)
          clear hK K
          try simp only [Act.put, List.setIfInBounds_toArray, List.set_cons_zero, List.set_cons_succ]
          refine wpAnyH_done (by kernel_rfl) ?_ _
          exact HR.out _ _ ⟨ta, ca, tb, cb, i4, i5, rfl, HB4''.out, HB5''.out, HI45.out, HF1''.out, HF2''.out, HGF.out⟩
      · have hbq : Below u1.heap.size u1 (u1.alloc (MBox 0 0 none 0 0)) := (Below.refl _ _).alloc (Nat.le_refl _) _
        have HB4 : Hid ((u1.alloc (MBox 0 0 none 0 0)).heap[u1.heap.size]? = some (MBox 0 0 none 0 0)) := nblkM _ _
        have HG2 : Hid (Fr3 w (u1.alloc (MBox 0 0 none 0 0)) p0 p1 (BBox rx cx sa n ka) (BBox ry cy sb m kb)) := HG1.out.call hbq
        have HI4 : Hid (p0 ≠ u1.heap.size ∧ p1 ≠ u1.heap.size ∧ w.heap.size ≤ u1.heap.size) := ⟨Nat.ne_of_lt (Array.getElem?_eq_some_iff.1 HG1.out.2.1).1, Nat.ne_of_lt (Array.getElem?_eq_some_iff.1 HG1.out.2.2).1, HG1.out.1.size⟩
        have HI45 : Hid (u1.heap.size ≠ i5) := Ne.symm (Nat.ne_of_lt (Array.getElem?_eq_some_iff.1 HB5.out).1)
        have HB5 := hid (blkM HB5.out hbq)
        clear hbq
        go_simp
        go_wp2_with fail
        refine hK.out _ _ (HKS.out _ HG2) (fun hHeld2 => ?_)
        clear hK K
        try simp only [Act.put, List.setIfInBounds_toArray, List.set_cons_zero, List.set_cons_succ]
        obtain ⟨u2, hu2⟩ : ∃ X, Hid ((u1.alloc (MBox 0 0 none 0 0)) = X) := ⟨_, rfl⟩
        rw [hu2.out] at HB4 HG2 HB5
        have hy1 := hu2.out
        unfold MBox at hy1
        rw [hy1]
        obtain ⟨i4, hi4⟩ : ∃ X, Hid (u1.heap.size = X) := ⟨_, rfl⟩
        have hy2 := hi4.out
        rw [hi4.out] at HB4 HI4 HI45
        rw [hy2]
        clear hy1 hy2
        refine wpAnyH_ready (rs := [1]) (by kernel_rfl) (by simp) ?_
        refine AllReadyH.cons (o := _) rfl (fun K hK => ?_) AllReadyH.nil
        go_simp
        refine (HOX.out _ HG2.out.1).mono ?_
        rintro e u3 ⟨⟨ta, ca, rfl, hf⟩, hbq⟩
        have HF1 := hid hf
        have HG3 := hid (HG2.out.call hbq)
        have HB5 := hid (blkM HB5.out hbq)
        have HB4 := hid (blkM HB4.out hbq)
        unfold MV
        clear hbq hf
        go_wp2_with fail
        refine hK.out _ _ (HKS.out _ HG3) (fun hHeld3 => ?_)
        clear hK K
        try simp only [Act.put, List.setIfInBounds_toArray, List.set_cons_zero, List.set_cons_succ]
        refine wpAnyH_ready (rs := [3]) (by kernel_rfl) (by simp) ?_
        refine AllReadyH.cons (o := _) rfl (fun K hK => ?_) AllReadyH.nil
        go_simp
        refine (HOY.out _ HG3.out.1).mono ?_
        rintro e u4 ⟨⟨tb, cb, rfl, hf⟩, hbq⟩
        have HF1 := hid (HF1.out.below hbq)
        have HF2 := hid hf
        have HG4 := hid (HG3.out.call hbq)
        have HB5 := hid (blkM HB5.out hbq)
        have HB4 := hid (blkM HB4.out hbq)
        unfold MV
        clear hbq hf
        go_wp2_with fail
        refine hK.out _ _ (HKS.out _ HG4) (fun hHeld4 => ?_)
        clear hK K
        try simp only [Act.put, List.setIfInBounds_toArray, List.set_cons_zero, List.set_cons_succ]
        refine wpAnyH_ready (rs := [6]) (by kernel_rfl) (by simp) ?_
        refine AllReadyH.cons (o := _) rfl (fun K hK => ?_) AllReadyH.nil
        obtain ⟨z0, z1, z2⟩ := mcells_of HB4.out
        have fz := frzM HB4.out
        have HGE : Hid (Fr3 w (StoM u4 i4 rx cx ta n ca) p0 p1 (BBox rx cx sa n ka) (BBox ry cy sb m kb)) := HG4.out.sto HI4.out.1 HI4.out.2.1 HI4.out.2.2
        have HB5' : Hid ((StoM u4 i4 rx cx ta n ca).heap[i5]? = some (MBox 0 0 none 0 0)) := (StoM.keep (Ne.symm HI45.out)).trans HB5.out
        have HB4' : Hid ((StoM u4 i4 rx cx ta n ca).heap[i4]? = some (MBox rx cx ta n ca)) := mset HB4.out
        have HF1' := hid (sto_fl (r := rx) (c := cx) (sa := ta) (n := n) (cap := ca) HF1.out HB4.out)
        have HF2' := hid (sto_fl (r := rx) (c := cx) (sa := ta) (n := n) (cap := ca) HF2.out HB4.out)
        obtain ⟨U, hU⟩ : ∃ X, Hid (StoM u4 i4 rx cx ta n ca = X) := ⟨_, rfl⟩
        rw [hU.out] at HGE HB5' HB4' HF1' HF2'
        have hU' := hU.out
        unfold StoM at hU'
        go_simp
        go_wp2_with fail
        refine hK.out _ _ (HKS.out _ HGE) (fun hHeldE => ?_)
        clear hK K z0 z1 z2 fz
        try simp only [Act.put, List.setIfInBounds_toArray, List.set_cons_zero, List.set_cons_succ]
        refine wpAnyH_ready (rs := [7]) (by kernel_rfl) (by simp) ?_
        refine AllReadyH.cons (o := _) rfl (fun K hK => ?_) AllReadyH.nil
        obtain ⟨z0, z1, z2⟩ := mcells_of HB5'.out
        have fz := frzM HB5'.out
        have HGF : Hid (Fr3 w (StoM U i5 ry cy tb m cb) p0 p1 (BBox rx cx sa n ka) (BBox ry cy sb m kb)) := HGE.out.sto HI5.out.1 HI5.out.2.1 HI5.out.2.2
        have HB4'' : Hid ((StoM U i5 ry cy tb m cb).heap[i4]? = some (MBox rx cx ta n ca)) := (StoM.keep HI45.out).trans HB4'.out
        have HB5'' : Hid ((StoM U i5 ry cy tb m cb).heap[i5]? = some (MBox ry cy tb m cb)) := mset HB5'.out
        have HF1'' := hid (sto_fl (r := ry) (c := cy) (sa := tb) (n := m) (cap := cb) HF1'.out HB5'.out)
        have HF2'' := hid (sto_fl (r := ry) (c := cy) (sa := tb) (n := m) (cap := cb) HF2'.out HB5'.out)
        have HGF' := HGF
        unfold StoM at HGF'
        go_simp
        go_wp2_with fail
        refine hK.out _ _ (HKS.out _ HGF') (fun hHeldF => ?_)
        clear hK K
        try simp only [Act.put, List.setIfInBounds_toArray, List.set_cons_zero, List.set_cons_succ]
        refine wpAnyH_done (by kernel_rfl) ?_ _
        exact HR.out _ _ ⟨ta, ca, tb, cb, i4, i5, rfl, HB4''.out, HB5''.out, HI45.out, HF1''.out, HF2''.out, HGF.out⟩
  · rintro a' w2 ⟨ta, ca, tb, cb, ia, ib, rfl, hia, hib, hab, hfa, hfb, hfr⟩
    simp only [Act.put, List.setIfInBounds_toArray, List.set_cons_zero, List.set_cons_succ]
    have HB := hid hfr.1
    have HG := hid hfr
    have HIA := hid hia
    have HIB := hid hib
    have HFA := hid hfa
    have HFB := hid hfb
    have Niaib := hid hab
    have HXB := hid hfr.2.1
    have HTA := hid (fun W (h : FlM W ta n ca xs) => Trn_some rx cx n ta ca xs W h HNM.out.1)
    have HTB := hid (fun W (h : FlM W tb m cb ys) => Trn_some ry cy m tb cb ys W h HNM.out.2)
    have HCA := hid (fun W (h : FlM W ta n ca xs) => Check_any rx cx ta n ca xs W h HNM.out.1)
    have HCB := hid (fun W (h : FlM W tb m cb ys) => Check_any ry cy tb m cb ys W h HNM.out.2)
    unfold MV at HCA HCB
    clear hia hib hfa hfb hfr hab HKS HQQ HG0 HV0
    by_cases hEa : chkM rx cx n xs = 0
    · by_cases hEb : chkM ry cy m ys = 0
      · obtain ⟨r, c, hr, hc, hga⟩ := gd_of HFA.out hEa
        obtain ⟨r2, c2, hr2, hc2, hgb⟩ := gd_of HFB.out hEb
        subst hr hc hr2 hc2
        have hn1 := hga.2.2.1
        have hn2 := hgb.2.2.1
        subst hn1 hn2
        have HGA := hid hga
        have HGB := hid hgb
        have l1 := hid (And.intro hga.1 (And.intro hga.2.1 (And.intro hgb.1 hgb.2.1)))
        have ffa := hid hga.2.2.2.2
        have ffb := hid hgb.2.2.2.2
        have HT := hid (fun (r c n : Nat) (s : Option Addr) (k : Nat) (f : Nat → Nat) (W : World) (h : Gd W r c s n k f) => Trn_ok r c n s k f W h)
        unfold MV at HT
        clear hga hgb hEa hEb HTA HTB HCA HCB HFA HFB
        obtain ⟨c00, c01, c02⟩ := mcells_of HIA.out
        go_wp2_with fail
        refine (HT.out r c (r * c) ta ca _ _ HGA.out).mono ?_
        rintro e u1 ⟨⟨g1, o1, rfl, hf1, hv1⟩, hb⟩
        have HB := hid (HB.out.trans (hb.mono HB.out.size))
        have HIA := hid (blkM HIA.out hb)
        have HIB := hid (blkM HIB.out hb)
        have HXB := hid (blkM HXB.out hb)
        have HGA := hid (HGA.out.below hb)
        have HGB := hid (HGB.out.below hb)
        have HGT : Hid (Gd u1 c r (some ⟨g1, 0, none⟩) (c * r) (c * r) o1) := ⟨l1.out.2.1, l1.out.1, rfl, hf1, fin_turn rfl ffa.out hv1⟩
        have HV1 := hid hv1
        clear hf1 hv1
        clear hb
        have hal : Below u1.heap.size u1 (u1.alloc (MBox c r (some ⟨g1, 0, none⟩) (c * r) (c * r))) := (Below.refl _ _).alloc (Nat.le_refl _) _
        have Niaiat : Hid (ia ≠ u1.heap.size) := Nat.ne_of_lt (Array.getElem?_eq_some_iff.1 HIA.out).1
        have Nibiat : Hid (ib ≠ u1.heap.size) := Nat.ne_of_lt (Array.getElem?_eq_some_iff.1 HIB.out).1
        have Niat : Hid (w.heap.size ≤ u1.heap.size) := HB.out.size
        have HB := hid (HB.out.trans (hal.mono HB.out.size))
        have HIA := hid (blkM HIA.out hal)
        have HIB := hid (blkM HIB.out hal)
        have HXB := hid (blkM HXB.out hal)
        have HGA := hid (HGA.out.below hal)
        have HGB := hid (HGB.out.below hal)
        have HGT := hid (HGT.out.below hal)
        have HAT : Hid ((u1.alloc (MBox c r (some ⟨g1, 0, none⟩) (c * r) (c * r))).heap[u1.heap.size]? = some (MBox c r (some ⟨g1, 0, none⟩) (c * r) (c * r))) := nblkM _ _
        obtain ⟨V1, hV1⟩ : ∃ V, Hid ((u1.alloc (MBox c r (some ⟨g1, 0, none⟩) (c * r) (c * r))) = V) := ⟨_, rfl⟩
        rw [hV1.out] at HB HAT HIA HIB HXB HGA HGB HGT
        have hV1' := hV1.out
        unfold MBox at hV1'
        obtain ⟨iat, hiat⟩ : ∃ t, Hid (u1.heap.size = t) := ⟨_, rfl⟩
        rw [hiat.out] at HAT Niat Niaiat Nibiat
        have hiat' := hiat.out
        clear hal
        obtain ⟨c00, c01, c02⟩ := mcells_of HIB.out
        go_wp2_with fail
        refine (HT.out r2 c2 (r2 * c2) tb cb _ _ HGB.out).mono ?_
        rintro e u2 ⟨⟨g2, o2, rfl, hf2, hv2⟩, hb⟩
        have HB := hid (HB.out.trans (hb.mono HB.out.size))
        have HIA := hid (blkM HIA.out hb)
        have HIB := hid (blkM HIB.out hb)
        have HXB := hid (blkM HXB.out hb)
        have HAT := hid (blkM HAT.out hb)
        have HGA := hid (HGA.out.below hb)
        have HGB := hid (HGB.out.below hb)
        have HGT := hid (HGT.out.below hb)
        have HGU : Hid (Gd u2 c2 r2 (some ⟨g2, 0, none⟩) (c2 * r2) (c2 * r2) o2) := ⟨l1.out.2.2.2, l1.out.2.2.1, rfl, hf2, fin_turn rfl ffb.out hv2⟩
        have HV2 := hid hv2
        clear hf2 hv2
        clear hb
        have hal : Below u2.heap.size u2 (u2.alloc (MBox c2 r2 (some ⟨g2, 0, none⟩) (c2 * r2) (c2 * r2))) := (Below.refl _ _).alloc (Nat.le_refl _) _
        have Niaibt : Hid (ia ≠ u2.heap.size) := Nat.ne_of_lt (Array.getElem?_eq_some_iff.1 HIA.out).1
        have Nibibt : Hid (ib ≠ u2.heap.size) := Nat.ne_of_lt (Array.getElem?_eq_some_iff.1 HIB.out).1
        have Niatibt : Hid (iat ≠ u2.heap.size) := Nat.ne_of_lt (Array.getElem?_eq_some_iff.1 HAT.out).1
        have Nibt : Hid (w.heap.size ≤ u2.heap.size) := HB.out.size
        have HB := hid (HB.out.trans (hal.mono HB.out.size))
        have HIA := hid (blkM HIA.out hal)
        have HIB := hid (blkM HIB.out hal)
        have HXB := hid (blkM HXB.out hal)
        have HAT := hid (blkM HAT.out hal)
        have HGA := hid (HGA.out.below hal)
        have HGB := hid (HGB.out.below hal)
        have HGT := hid (HGT.out.below hal)
        have HGU := hid (HGU.out.below hal)
        have HBT : Hid ((u2.alloc (MBox c2 r2 (some ⟨g2, 0, none⟩) (c2 * r2) (c2 * r2))).heap[u2.heap.size]? = some (MBox c2 r2 (some ⟨g2, 0, none⟩) (c2 * r2) (c2 * r2))) := nblkM _ _
        obtain ⟨V2, hV2⟩ : ∃ V, Hid ((u2.alloc (MBox c2 r2 (some ⟨g2, 0, none⟩) (c2 * r2) (c2 * r2))) = V) := ⟨_, rfl⟩
        rw [hV2.out] at HB HBT HIA HIB HXB HAT HGA HGB HGT HGU
        have hV2' := hV2.out
        unfold MBox at hV2'
        obtain ⟨ibt, hibt⟩ : ∃ t, Hid (u2.heap.size = t) := ⟨_, rfl⟩
        rw [hibt.out] at HBT Nibt Niaibt Nibibt Niatibt
        have hibt' := hibt.out
        clear hal
        obtain ⟨c00, c01, c02⟩ := mcells_of HAT.out
        go_wp2_with fail
        refine (HT.out c r (c * r) _ (c * r) o1 _ HGT.out).mono ?_
        rintro e u3 ⟨⟨g3, o3, rfl, hf3, hv3⟩, hb⟩
        have HB := hid (HB.out.trans (hb.mono HB.out.size))
        have HIA := hid (blkM HIA.out hb)
        have HIB := hid (blkM HIB.out hb)
        have HXB := hid (blkM HXB.out hb)
        have HAT := hid (blkM HAT.out hb)
        have HBT := hid (blkM HBT.out hb)
        have HGA := hid (HGA.out.below hb)
        have HGB := hid (HGB.out.below hb)
        have HGT := hid (HGT.out.below hb)
        have HGU := hid (HGU.out.below hb)
        have HF3 := hid hf3
        have HV3 := hid hv3
        clear hf3 hv3
        clear hb
        have hal : Below u3.heap.size u3 (u3.alloc (MBox r c (some ⟨g3, 0, none⟩) (r * c) (r * c))) := (Below.refl _ _).alloc (Nat.le_refl _) _
        have Niaibk : Hid (ia ≠ u3.heap.size) := Nat.ne_of_lt (Array.getElem?_eq_some_iff.1 HIA.out).1
        have Nibibk : Hid (ib ≠ u3.heap.size) := Nat.ne_of_lt (Array.getElem?_eq_some_iff.1 HIB.out).1
        have Niatibk : Hid (iat ≠ u3.heap.size) := Nat.ne_of_lt (Array.getElem?_eq_some_iff.1 HAT.out).1
        have Nibtibk : Hid (ibt ≠ u3.heap.size) := Nat.ne_of_lt (Array.getElem?_eq_some_iff.1 HBT.out).1
        have Nibk : Hid (w.heap.size ≤ u3.heap.size) := HB.out.size
        have HB := hid (HB.out.trans (hal.mono HB.out.size))
        have HIA := hid (blkM HIA.out hal)
        have HIB := hid (blkM HIB.out hal)
        have HXB := hid (blkM HXB.out hal)
        have HAT := hid (blkM HAT.out hal)
        have HBT := hid (blkM HBT.out hal)
        have HGA := hid (HGA.out.below hal)
        have HGB := hid (HGB.out.below hal)
        have HGT := hid (HGT.out.below hal)
        have HGU := hid (HGU.out.below hal)
        have HF3 := hid (HF3.out.below hal)
        have HBK : Hid ((u3.alloc (MBox r c (some ⟨g3, 0, none⟩) (r * c) (r * c))).heap[u3.heap.size]? = some (MBox r c (some ⟨g3, 0, none⟩) (r * c) (r * c))) := nblkM _ _
        obtain ⟨V3, hV3⟩ : ∃ V, Hid ((u3.alloc (MBox r c (some ⟨g3, 0, none⟩) (r * c) (r * c))) = V) := ⟨_, rfl⟩
        rw [hV3.out] at HB HBK HIA HIB HXB HAT HBT HGA HGB HGT HGU HF3
        have hV3' := hV3.out
        unfold MBox at hV3'
        obtain ⟨ibk, hibk⟩ : ∃ t, Hid (u3.heap.size = t) := ⟨_, rfl⟩
        rw [hibk.out] at HBK Nibk Niaibk Nibibk Niatibk Nibtibk
        have hibk' := hibk.out
        clear hal
        obtain ⟨c00, c01, c02⟩ := mcells_of HBK.out
        obtain ⟨xb0, xb1, xb2⟩ := bcells_of HXB.out
        have HKT : Hid (∀ W, Hid (Below V3.heap.size V3 W) → (W.cell? ⟨ibk, 0, none⟩ = some (.int .i64 r) ∧ W.cell? ⟨ibk, 1, none⟩ = some (.int .i64 c) ∧ W.cell? ⟨ibk, 2, none⟩ = some (.slice (some ⟨g3, 0, none⟩) (r * c) (r * c)) ∧ W.cell? ⟨p0, 0, none⟩ = some (.int .i64 r) ∧ W.cell? ⟨p0, 1, none⟩ = some (.int .i64 c) ∧ W.cell? ⟨p0, 2, none⟩ = some (.slice sa (r * c) ka)) ∧ Hid (Below V3.heap.size V3 W)) := fun W hW => by
          obtain ⟨a0, a1, a2⟩ := mcells_of (blkM HBK.out hW.out)
          obtain ⟨b0, b1, b2⟩ := bcells_of (blkM HXB.out hW.out)
          exact ⟨⟨a0, a1, a2, b0, b1, b2⟩, hW⟩
        have HQ0 : Hid (Below V3.heap.size V3 V3.drew) := (Below.refl _ _).drew
        have HEQ : Hid (∀ k, k < r * c → canonOf (o3 k) = canonOf (xs.getD k 0)) := fun k hk => by
          obtain ⟨q1, q2, q3⟩ := split_k hk
          have h3 := HV3.out _ _ q1 q2
          rw [HV1.out _ _ q2 q1, q3] at h3
          rw [h3]
        go_wp2_with fail
        refine wp_region_held_drew (S := fun W => (W.cell? ⟨ibk, 0, none⟩ = some (.int .i64 r) ∧ W.cell? ⟨ibk, 1, none⟩ = some (.int .i64 c) ∧ W.cell? ⟨ibk, 2, none⟩ = some (.slice (some ⟨g3, 0, none⟩) (r * c) (r * c)) ∧ W.cell? ⟨p0, 0, none⟩ = some (.int .i64 r) ∧ W.cell? ⟨p0, 1, none⟩ = some (.int .i64 c) ∧ W.cell? ⟨p0, 2, none⟩ = some (.slice sa (r * c) ka)) ∧ Hid (Below V3.heap.size V3 W)) (by kernel_rfl) (HKT.out _ HQ0) (fun hHeld => ?_)
        refine take_at 0 51 (.int .i64 0) rfl rfl (by kernel_rfl) (by kernel_rfl) (by kernel_rfl) (fun _ _ _ h => h) (Or.inl ⟨by rfl, fun w hSw => by (try dsimp only at hSw); go_simp⟩) (by assumption) ?_
        simp only [Act.put, List.setIfInBounds_toArray, List.set_cons_zero, List.set_cons_succ]
        refine take_at 1 52 (.bool false) rfl rfl (by kernel_rfl) (by kernel_rfl) (by kernel_rfl) (fun _ _ _ h => h) (Or.inl ⟨by rfl, fun w hSw => by (try dsimp only at hSw); go_simp⟩) (by assumption) ?_
        simp only [Act.put, List.setIfInBounds_toArray, List.set_cons_zero, List.set_cons_succ]
        refine take_at 2 53 (.bool false) rfl rfl (by kernel_rfl) (by kernel_rfl) (by kernel_rfl) (fun _ _ _ h => h) (Or.inl ⟨by rfl, fun w hSw => by (try dsimp only at hSw); go_simp⟩) (by assumption) ?_
        simp only [Act.put, List.setIfInBounds_toArray, List.set_cons_zero, List.set_cons_succ]
        refine take_at 3 54 (.agg #[.int .i64 r, .int .i64 c, .slice (some ⟨g3, 0, none⟩) (r * c) (r * c)]) rfl rfl (by kernel_rfl) (by kernel_rfl) (by kernel_rfl) (fun _ _ _ h => h) (Or.inl ⟨by rfl, fun w hSw => by (try dsimp only at hSw); go_simp⟩) (by assumption) ?_
        simp only [Act.put, List.setIfInBounds_toArray, List.set_cons_zero, List.set_cons_succ]
        refine take_at 4 55 (.agg #[.int .i64 r, .int .i64 c, .slice sa (r * c) ka]) rfl rfl (by kernel_rfl) (by kernel_rfl) (by kernel_rfl) (fun _ _ _ h => h) (Or.inl ⟨by rfl, fun w hSw => by (try dsimp only at hSw); go_simp⟩) (by assumption) ?_
        simp only [Act.put, List.setIfInBounds_toArray, List.set_cons_zero, List.set_cons_succ]
        refine wpAnyH_ready (rs := [5]) (by kernel_rfl) (by simp) ?_
        refine AllReadyH.cons (o := _) rfl (fun K hK => ?_) AllReadyH.nil
        go_simp
        refine (HOX.out _ (HB.out.trans (HQ0.out.mono HB.out.size))).mono ?_
        rintro e u4 ⟨⟨td, cd, rfl, hfd⟩, hb4⟩
        have HG4 : Hid (Below V3.heap.size V3 u4) := HQ0.out.trans (hb4.mono HQ0.out.size)
        have HFD := hid hfd.fn
        have HF4 := hid (HF3.out.below HG4.out)
        unfold MV
        clear hfd hb4
        go_wp2_with fail
        refine hK.out _ _ (HKT.out _ HG4) (fun hHeld1 => ?_)
        clear hK K
        try simp only [Act.put, List.setIfInBounds_toArray, List.set_cons_zero, List.set_cons_succ]
        refine wpAnyH_ready (rs := [6]) (by kernel_rfl) (by simp) ?_
        refine AllReadyH.cons (o := _) rfl (fun K hK => ?_) AllReadyH.nil
        go_simp
        refine (alike_yes r c _ _ (r * c) (r * c) cd o3 _ _ HF4.out HFD.out HEQ.out).mono ?_
        rintro e u5 ⟨rfl, hb5⟩
        have HG5 : Hid (Below V3.heap.size V3 u5) := HG4.out.trans (hb5.mono HG4.out.size)
        clear hb5
        go_wp2_with fail
        refine hK.out _ _ (HKT.out _ HG5) (fun hHeld2 => ?_)
        clear hK K
        try simp only [Act.put, List.setIfInBounds_toArray, List.set_cons_zero, List.set_cons_succ]
        refine take_at 7 58 (.bool false) rfl rfl (by kernel_rfl) (by kernel_rfl) (by kernel_rfl) (fun _ _ _ h => h) (Or.inl ⟨by rfl, fun w hSw => by (try dsimp only at hSw); go_simp⟩) (by assumption) ?_
        simp only [Act.put, List.setIfInBounds_toArray, List.set_cons_zero, List.set_cons_succ]
        refine take_at 8 59 (.bool false) rfl rfl (by kernel_rfl) (by kernel_rfl) (by kernel_rfl) (fun _ _ _ h => h) (Or.inl ⟨by rfl, fun w hSw => by (try dsimp only at hSw); go_simp⟩) (by assumption) ?_
        simp only [Act.put, List.setIfInBounds_toArray, List.set_cons_zero, List.set_cons_succ]
        refine wpAnyH_done (by kernel_rfl) ?_ _
        have HB := hid (HB.out.trans (HG5.out.mono HB.out.size))
        have HIA := hid (blkM HIA.out HG5.out)
        have HIB := hid (blkM HIB.out HG5.out)
        have HAT := hid (blkM HAT.out HG5.out)
        have HBT := hid (blkM HBT.out HG5.out)
        have HGA := hid (HGA.out.below HG5.out)
        have HGB := hid (HGB.out.below HG5.out)
        have HGT := hid (HGT.out.below HG5.out)
        have HGU := hid (HGU.out.below HG5.out)
        clear HKT HQ0 HF4 HFD HG4 HG5 HF3 HEQ HBK HXB hHeld hHeld1 hHeld2
        obtain ⟨v, hv⟩ : ∃ v : Nat → Nat → Nat, Hid ((fun i j => dotM (fun k => xs.getD (i * c + k) 0) (fun k => ys.getD (k * c2 + j) 0) c) = v) := ⟨_, rfl⟩
        have HM1 := hid (fun W (hA : Gd W r c ta (r * c) ca (fun j => xs.getD j 0)) (hB : Gd W r2 c2 tb (r2 * c2) cb (fun j => ys.getD j 0)) => Mul_res r c r2 c2 _ _ ta tb ca cb _ _ v W hA hB (fun _ i j _ _ => by rw [← hv.out]))
        have HM2 := hid (fun W (hA : Gd W c2 r2 (some ⟨g2, 0, none⟩) (c2 * r2) (c2 * r2) o2) (hB : Gd W c r (some ⟨g1, 0, none⟩) (c * r) (c * r) o1) => Mul_res c2 r2 c r _ _ _ _ _ _ o2 o1 (fun j i => v i j) W hA hB (fun hs i j hi hj => by
          subst hs
          rw [← hv.out]
          dsimp only
          rw [dotM_comm]
          exact dotM_congr _ (fun k hk => HV1.out _ _ hk hj) (fun k hk => HV2.out _ _ hi hk)))
        have hmE : mulE c2 r2 c r (fun j i => v i j) = mulE r c r2 c2 v := by
          unfold mulE
          rw [finV_turn (r := r) (c := c2) (v := v) (v2 := fun j i => v i j) (fun i j _ _ => rfl)]
          by_cases hs : c = r2
          · rw [if_neg (show ¬ (r2 ≠ c) from fun h => h hs.symm), if_neg (show ¬ (c ≠ r2) from fun h => h hs)]
          · rw [if_pos (show r2 ≠ c from fun h => hs h.symm), if_pos (show c ≠ r2 from hs)]
        rw [hmE] at HM2
        obtain ⟨E, hE⟩ : ∃ E, Hid (mulE r c r2 c2 v = E) := ⟨_, rfl⟩
        rw [hE.out] at HM1 HM2
        obtain ⟨z, hz⟩ : ∃ v : Nat → Nat → Nat, Hid ((fun i j => caf .add (canonOf (xs.getD (i * c + j) 0)) (canonOf (ys.getD (i * c + j) 0))) = v) := ⟨_, rfl⟩
        have HA1 := hid (fun W (hA : Gd W r c ta (r * c) ca (fun j => xs.getD j 0)) (hB : Gd W r2 c2 tb (r2 * c2) cb (fun j => ys.getD j 0)) => Add_res r c r2 c2 _ _ ta tb ca cb _ _ z W hA hB (fun _ i j _ _ => by rw [← hz.out]))
        have HA2 := hid (fun W (hA : Gd W c r (some ⟨g1, 0, none⟩) (c * r) (c * r) o1) (hB : Gd W c2 r2 (some ⟨g2, 0, none⟩) (c2 * r2) (c2 * r2) o2) => Add_res c r c2 r2 _ _ _ _ _ _ o1 o2 (fun j i => z i j) W hA hB (fun hs i j hi hj => by
          obtain ⟨rfl, rfl⟩ := hs
          rw [← hz.out]
          dsimp only
          rw [HV1.out _ _ hi hj, HV2.out _ _ hi hj]))
        have haE : addE c r c2 r2 (fun j i => z i j) = addE r c r2 c2 z := by
          unfold addE
          rw [finV_turn (r := r) (c := c) (v := z) (v2 := fun j i => z i j) (fun i j _ _ => rfl)]
          by_cases hs : r = r2 ∧ c = c2
          · rw [if_neg (show ¬ ¬ (c = c2 ∧ r = r2) from fun h => h ⟨hs.2, hs.1⟩), if_neg (show ¬ ¬ (r = r2 ∧ c = c2) from fun h => h hs)]
          · rw [if_pos (show ¬ (c = c2 ∧ r = r2) from fun h => hs ⟨h.2, h.1⟩), if_pos hs]
        rw [haE] at HA2
        obtain ⟨F, hF⟩ : ∃ E, Hid (addE r c r2 c2 z = E) := ⟨_, rfl⟩
        rw [hF.out] at HA1 HA2
        have hEE : (E != E) = false := by simp
        have hFF : (F != F) = false := by simp
        have hFG : (F == F) = true := by simp
        clear hmE haE
        obtain ⟨c00, c01, c02⟩ := mcells_of HIA.out
        obtain ⟨c10, c11, c12⟩ := mcells_of HIB.out
        go_wp2_with fail
        refine (HM1.out _ HGA.out HGB.out).mono ?_
        rintro e u6 ⟨⟨X0, X1, X2, X3, X4, rfl, hp⟩, hb⟩
        have HB := hid (HB.out.trans (hb.mono HB.out.size))
        have HIA := hid (blkM HIA.out hb)
        have HIB := hid (blkM HIB.out hb)
        have HAT := hid (blkM HAT.out hb)
        have HBT := hid (blkM HBT.out hb)
        have HGA := hid (HGA.out.below hb)
        have HGB := hid (HGB.out.below hb)
        have HGT := hid (HGT.out.below hb)
        have HGU := hid (HGU.out.below hb)
        have HRP := hid hp
        clear hp
        clear hb
        have hal : Below u6.heap.size u6 (u6.alloc (MBox X0 X1 X2 X3 X4)) := (Below.refl _ _).alloc (Nat.le_refl _) _
        have Niaip : Hid (ia ≠ u6.heap.size) := Nat.ne_of_lt (Array.getElem?_eq_some_iff.1 HIA.out).1
        have Nibip : Hid (ib ≠ u6.heap.size) := Nat.ne_of_lt (Array.getElem?_eq_some_iff.1 HIB.out).1
        have Niatip : Hid (iat ≠ u6.heap.size) := Nat.ne_of_lt (Array.getElem?_eq_some_iff.1 HAT.out).1
        have Nibtip : Hid (ibt ≠ u6.heap.size) := Nat.ne_of_lt (Array.getElem?_eq_some_iff.1 HBT.out).1
        have Nip : Hid (w.heap.size ≤ u6.heap.size) := HB.out.size
        have HB := hid (HB.out.trans (hal.mono HB.out.size))
        have HIA := hid (blkM HIA.out hal)
        have HIB := hid (blkM HIB.out hal)
        have HAT := hid (blkM HAT.out hal)
        have HBT := hid (blkM HBT.out hal)
        have HGA := hid (HGA.out.below hal)
        have HGB := hid (HGB.out.below hal)
        have HGT := hid (HGT.out.below hal)
        have HGU := hid (HGU.out.below hal)
        have HRP := hid (HRP.out.below hal)
        have HIP : Hid ((u6.alloc (MBox X0 X1 X2 X3 X4)).heap[u6.heap.size]? = some (MBox X0 X1 X2 X3 X4)) := nblkM _ _
        obtain ⟨V6, hV6⟩ : ∃ V, Hid ((u6.alloc (MBox X0 X1 X2 X3 X4)) = V) := ⟨_, rfl⟩
        rw [hV6.out] at HB HIP HIA HIB HAT HBT HGA HGB HGT HGU HRP
        have hV6' := hV6.out
        unfold MBox at hV6'
        obtain ⟨ip, hip⟩ : ∃ t, Hid (u6.heap.size = t) := ⟨_, rfl⟩
        rw [hip.out] at HIP Nip Niaip Nibip Niatip Nibtip
        have hip' := hip.out
        clear hal
        obtain ⟨c00, c01, c02⟩ := mcells_of HBT.out
        obtain ⟨c10, c11, c12⟩ := mcells_of HAT.out
        go_wp2_with fail
        refine (HM2.out _ HGU.out HGT.out).mono ?_
        rintro e u7 ⟨⟨Y0, Y1, Y2, Y3, Y4, rfl, hp⟩, hb⟩
        have HB := hid (HB.out.trans (hb.mono HB.out.size))
        have HIA := hid (blkM HIA.out hb)
        have HIB := hid (blkM HIB.out hb)
        have HAT := hid (blkM HAT.out hb)
        have HBT := hid (blkM HBT.out hb)
        have HIP := hid (blkM HIP.out hb)
        have HGA := hid (HGA.out.below hb)
        have HGB := hid (HGB.out.below hb)
        have HGT := hid (HGT.out.below hb)
        have HGU := hid (HGU.out.below hb)
        have HRP := hid (HRP.out.below hb)
        have HRQ := hid hp
        clear hp
        clear hb
        have hal : Below u7.heap.size u7 (u7.alloc (MBox Y0 Y1 Y2 Y3 Y4)) := (Below.refl _ _).alloc (Nat.le_refl _) _
        have Niaiq : Hid (ia ≠ u7.heap.size) := Nat.ne_of_lt (Array.getElem?_eq_some_iff.1 HIA.out).1
        have Nibiq : Hid (ib ≠ u7.heap.size) := Nat.ne_of_lt (Array.getElem?_eq_some_iff.1 HIB.out).1
        have Niatiq : Hid (iat ≠ u7.heap.size) := Nat.ne_of_lt (Array.getElem?_eq_some_iff.1 HAT.out).1
        have Nibtiq : Hid (ibt ≠ u7.heap.size) := Nat.ne_of_lt (Array.getElem?_eq_some_iff.1 HBT.out).1
        have Nipiq : Hid (ip ≠ u7.heap.size) := Nat.ne_of_lt (Array.getElem?_eq_some_iff.1 HIP.out).1
        have Niq : Hid (w.heap.size ≤ u7.heap.size) := HB.out.size
        have HB := hid (HB.out.trans (hal.mono HB.out.size))
        have HIA := hid (blkM HIA.out hal)
        have HIB := hid (blkM HIB.out hal)
        have HAT := hid (blkM HAT.out hal)
        have HBT := hid (blkM HBT.out hal)
        have HIP := hid (blkM HIP.out hal)
        have HGA := hid (HGA.out.below hal)
        have HGB := hid (HGB.out.below hal)
        have HGT := hid (HGT.out.below hal)
        have HGU := hid (HGU.out.below hal)
        have HRP := hid (HRP.out.below hal)
        have HRQ := hid (HRQ.out.below hal)
        have HIQ : Hid ((u7.alloc (MBox Y0 Y1 Y2 Y3 Y4)).heap[u7.heap.size]? = some (MBox Y0 Y1 Y2 Y3 Y4)) := nblkM _ _
        obtain ⟨V7, hV7⟩ : ∃ V, Hid ((u7.alloc (MBox Y0 Y1 Y2 Y3 Y4)) = V) := ⟨_, rfl⟩
        rw [hV7.out] at HB HIQ HIA HIB HAT HBT HIP HGA HGB HGT HGU HRP HRQ
        have hV7' := hV7.out
        unfold MBox at hV7'
        obtain ⟨iq, hiq⟩ : ∃ t, Hid (u7.heap.size = t) := ⟨_, rfl⟩
        rw [hiq.out] at HIQ Niq Niaiq Nibiq Niatiq Nibtiq Nipiq
        have hiq' := hiq.out
        clear hal
        obtain ⟨c00, c01, c02⟩ := mcells_of HIP.out
        go_wp2_with fail
        refine (Trn_res E r c2 l1.out.1 l1.out.2.2.2 v X0 X1 X2 X3 X4 _ HRP.out).mono ?_
        rintro e u8 ⟨⟨T0, T1, T2, T3, T4, rfl, hp⟩, hb⟩
        have HB := hid (HB.out.trans (hb.mono HB.out.size))
        have HIA := hid (blkM HIA.out hb)
        have HIB := hid (blkM HIB.out hb)
        have HAT := hid (blkM HAT.out hb)
        have HBT := hid (blkM HBT.out hb)
        have HIP := hid (blkM HIP.out hb)
        have HIQ := hid (blkM HIQ.out hb)
        have HGA := hid (HGA.out.below hb)
        have HGB := hid (HGB.out.below hb)
        have HGT := hid (HGT.out.below hb)
        have HGU := hid (HGU.out.below hb)
        have HRP := hid (HRP.out.below hb)
        have HRQ := hid (HRQ.out.below hb)
        have HRT := hid hp
        clear hp
        clear hb
        have hal : Below u8.heap.size u8 (u8.alloc (MBox T0 T1 T2 T3 T4)) := (Below.refl _ _).alloc (Nat.le_refl _) _
        have Niait : Hid (ia ≠ u8.heap.size) := Nat.ne_of_lt (Array.getElem?_eq_some_iff.1 HIA.out).1
        have Nibit : Hid (ib ≠ u8.heap.size) := Nat.ne_of_lt (Array.getElem?_eq_some_iff.1 HIB.out).1
        have Niatit : Hid (iat ≠ u8.heap.size) := Nat.ne_of_lt (Array.getElem?_eq_some_iff.1 HAT.out).1
        have Nibtit : Hid (ibt ≠ u8.heap.size) := Nat.ne_of_lt (Array.getElem?_eq_some_iff.1 HBT.out).1
        have Nipit : Hid (ip ≠ u8.heap.size) := Nat.ne_of_lt (Array.getElem?_eq_some_iff.1 HIP.out).1
        have Niqit : Hid (iq ≠ u8.heap.size) := Nat.ne_of_lt (Array.getElem?_eq_some_iff.1 HIQ.out).1
        have Nit : Hid (w.heap.size ≤ u8.heap.size) := HB.out.size
        have HB := hid (HB.out.trans (hal.mono HB.out.size))
        have HIA := hid (blkM HIA.out hal)
        have HIB := hid (blkM HIB.out hal)
        have HAT := hid (blkM HAT.out hal)
        have HBT := hid (blkM HBT.out hal)
        have HIP := hid (blkM HIP.out hal)
        have HIQ := hid (blkM HIQ.out hal)
        have HGA := hid (HGA.out.below hal)
        have HGB := hid (HGB.out.below hal)
        have HGT := hid (HGT.out.below hal)
        have HGU := hid (HGU.out.below hal)
        have HRP := hid (HRP.out.below hal)
        have HRQ := hid (HRQ.out.below hal)
        have HIT : Hid ((u8.alloc (MBox T0 T1 T2 T3 T4)).heap[u8.heap.size]? = some (MBox T0 T1 T2 T3 T4)) := nblkM _ _
        obtain ⟨V8, hV8⟩ : ∃ V, Hid ((u8.alloc (MBox T0 T1 T2 T3 T4)) = V) := ⟨_, rfl⟩
        rw [hV8.out] at HB HIT HIA HIB HAT HBT HIP HIQ HGA HGB HGT HGU HRP HRQ
        have hV8' := hV8.out
        unfold MBox at hV8'
        obtain ⟨it, hit⟩ : ∃ t, Hid (u8.heap.size = t) := ⟨_, rfl⟩
        rw [hit.out] at HIT Nit Niait Nibit Niatit Nibtit Nipit Niqit
        have hit' := hit.out
        clear hal
        by_cases hE0 : E = 0
        · subst hE0
          have HRT := hid (HRT.out rfl)
          have HAL := hid (alike_res c2 r _ _ T0 T1 Y0 Y1 T2 Y2 T3 T4 Y3 Y4 _ (HRT.out.below (by rw [← hV8.out]; exact (Below.refl _ _).alloc (Nat.le_refl _) _)) HRQ.out (fun _ _ _ _ => rfl))
          obtain ⟨c00, c01, c02⟩ := mcells_of HIT.out
          obtain ⟨c10, c11, c12⟩ := mcells_of HIQ.out
          go_wp2_with fail
          refine (HAL.out).mono ?_
          rintro e u9 ⟨rfl, hb⟩
          have HB := hid (HB.out.trans (hb.mono HB.out.size))
          have HIA := hid (blkM HIA.out hb)
          have HIB := hid (blkM HIB.out hb)
          have HAT := hid (blkM HAT.out hb)
          have HBT := hid (blkM HBT.out hb)
          have HIP := hid (blkM HIP.out hb)
          have HIQ := hid (blkM HIQ.out hb)
          have HIT := hid (blkM HIT.out hb)
          have HGA := hid (HGA.out.below hb)
          have HGB := hid (HGB.out.below hb)
          have HGT := hid (HGT.out.below hb)
          have HGU := hid (HGU.out.below hb)
          have HRP := hid (HRP.out.below hb)
          have HRQ := hid (HRQ.out.below hb)
          clear hb
          clear HRP HRQ HRT
          obtain ⟨c00, c01, c02⟩ := mcells_of HIA.out
          obtain ⟨c10, c11, c12⟩ := mcells_of HIB.out
          obtain ⟨c20, c21, c22⟩ := mcells_of HIP.out
          go_wp2_with fail
          refine (HA1.out _ HGA.out HGB.out).mono ?_
          rintro e u10 ⟨⟨P0, P1, P2, P3, P4, rfl, hp⟩, hb⟩
          have HB := hid (HB.out.trans (hb.mono HB.out.size))
          have HIA := hid (blkM HIA.out hb)
          have HIB := hid (blkM HIB.out hb)
          have HAT := hid (blkM HAT.out hb)
          have HBT := hid (blkM HBT.out hb)
          have HIP := hid (blkM HIP.out hb)
          have HIQ := hid (blkM HIQ.out hb)
          have HIT := hid (blkM HIT.out hb)
          have HGA := hid (HGA.out.below hb)
          have HGB := hid (HGB.out.below hb)
          have HGT := hid (HGT.out.below hb)
          have HGU := hid (HGU.out.below hb)
          have HRP := hid hp
          clear hp
          clear hb
          have HB : Hid (Below w.heap.size w (StoM u10 ip P0 P1 P2 P3 P4)) := StoM.below HB.out Nip.out
          have HIA := hid ((StoM.keep Niaip.out).trans HIA.out : (StoM u10 ip P0 P1 P2 P3 P4).heap[ia]? = _)
          have HIB := hid ((StoM.keep Nibip.out).trans HIB.out : (StoM u10 ip P0 P1 P2 P3 P4).heap[ib]? = _)
          have HAT := hid ((StoM.keep Niatip.out).trans HAT.out : (StoM u10 ip P0 P1 P2 P3 P4).heap[iat]? = _)
          have HBT := hid ((StoM.keep Nibtip.out).trans HBT.out : (StoM u10 ip P0 P1 P2 P3 P4).heap[ibt]? = _)
          have HIQ := hid ((StoM.keep (Ne.symm Nipiq.out)).trans HIQ.out : (StoM u10 ip P0 P1 P2 P3 P4).heap[iq]? = _)
          have HIT := hid ((StoM.keep (Ne.symm Nipit.out)).trans HIT.out : (StoM u10 ip P0 P1 P2 P3 P4).heap[it]? = _)
          have HGA := hid (gd_sto (b := ip) (r1 := P0) (c1 := P1) (s1 := P2) (n1 := P3) (k1 := P4) HGA.out HIP.out)
          have HGB := hid (gd_sto (b := ip) (r1 := P0) (c1 := P1) (s1 := P2) (n1 := P3) (k1 := P4) HGB.out HIP.out)
          have HGT := hid (gd_sto (b := ip) (r1 := P0) (c1 := P1) (s1 := P2) (n1 := P3) (k1 := P4) HGT.out HIP.out)
          have HGU := hid (gd_sto (b := ip) (r1 := P0) (c1 := P1) (s1 := P2) (n1 := P3) (k1 := P4) HGU.out HIP.out)
          have HRP := hid (ResM.sto (b := ip) (r1 := P0) (c1 := P1) (s1 := P2) (n1 := P3) (k1 := P4) HRP.out HIP.out)
          obtain ⟨z0, z1, z2⟩ := mcells_of HIP.out
          have fz := frzM HIP.out
          have HIP : Hid ((StoM u10 ip P0 P1 P2 P3 P4).heap[ip]? = some (MBox P0 P1 P2 P3 P4)) := mset HIP.out
          obtain ⟨U10, hU10⟩ : ∃ V, Hid ((StoM u10 ip P0 P1 P2 P3 P4) = V) := ⟨_, rfl⟩
          rw [hU10.out] at HB HIA HIB HAT HBT HIP HIQ HIT HGA HGB HGT HGU HRP
          have hU10' := hU10.out
          unfold StoM at hU10'
          obtain ⟨c00, c01, c02⟩ := mcells_of HAT.out
          obtain ⟨c10, c11, c12⟩ := mcells_of HBT.out
          obtain ⟨c20, c21, c22⟩ := mcells_of HIQ.out
          go_wp2_with fail
          refine (HA2.out _ HGT.out HGU.out).mono ?_
          rintro e u11 ⟨⟨Q0, Q1, Q2, Q3, Q4, rfl, hp⟩, hb⟩
          have HB := hid (HB.out.trans (hb.mono HB.out.size))
          have HIA := hid (blkM HIA.out hb)
          have HIB := hid (blkM HIB.out hb)
          have HAT := hid (blkM HAT.out hb)
          have HBT := hid (blkM HBT.out hb)
          have HIP := hid (blkM HIP.out hb)
          have HIQ := hid (blkM HIQ.out hb)
          have HIT := hid (blkM HIT.out hb)
          have HGA := hid (HGA.out.below hb)
          have HGB := hid (HGB.out.below hb)
          have HGT := hid (HGT.out.below hb)
          have HGU := hid (HGU.out.below hb)
          have HRP := hid (HRP.out.below hb)
          have HRQ := hid hp
          clear hp
          clear hb
          have HB : Hid (Below w.heap.size w (StoM u11 iq Q0 Q1 Q2 Q3 Q4)) := StoM.below HB.out Niq.out
          have HIA := hid ((StoM.keep Niaiq.out).trans HIA.out : (StoM u11 iq Q0 Q1 Q2 Q3 Q4).heap[ia]? = _)
          have HIB := hid ((StoM.keep Nibiq.out).trans HIB.out : (StoM u11 iq Q0 Q1 Q2 Q3 Q4).heap[ib]? = _)
          have HAT := hid ((StoM.keep Niatiq.out).trans HAT.out : (StoM u11 iq Q0 Q1 Q2 Q3 Q4).heap[iat]? = _)
          have HBT := hid ((StoM.keep Nibtiq.out).trans HBT.out : (StoM u11 iq Q0 Q1 Q2 Q3 Q4).heap[ibt]? = _)
          have HIP := hid ((StoM.keep Nipiq.out).trans HIP.out : (StoM u11 iq Q0 Q1 Q2 Q3 Q4).heap[ip]? = _)
          have HIT := hid ((StoM.keep (Ne.symm Niqit.out)).trans HIT.out : (StoM u11 iq Q0 Q1 Q2 Q3 Q4).heap[it]? = _)
          have HGA := hid (gd_sto (b := iq) (r1 := Q0) (c1 := Q1) (s1 := Q2) (n1 := Q3) (k1 := Q4) HGA.out HIQ.out)
          have HGB := hid (gd_sto (b := iq) (r1 := Q0) (c1 := Q1) (s1 := Q2) (n1 := Q3) (k1 := Q4) HGB.out HIQ.out)
          have HGT := hid (gd_sto (b := iq) (r1 := Q0) (c1 := Q1) (s1 := Q2) (n1 := Q3) (k1 := Q4) HGT.out HIQ.out)
          have HGU := hid (gd_sto (b := iq) (r1 := Q0) (c1 := Q1) (s1 := Q2) (n1 := Q3) (k1 := Q4) HGU.out HIQ.out)
          have HRP := hid (ResM.sto (b := iq) (r1 := Q0) (c1 := Q1) (s1 := Q2) (n1 := Q3) (k1 := Q4) HRP.out HIQ.out)
          have HRQ := hid (ResM.sto (b := iq) (r1 := Q0) (c1 := Q1) (s1 := Q2) (n1 := Q3) (k1 := Q4) HRQ.out HIQ.out)
          obtain ⟨z0, z1, z2⟩ := mcells_of HIQ.out
          have fz := frzM HIQ.out
          have HIQ : Hid ((StoM u11 iq Q0 Q1 Q2 Q3 Q4).heap[iq]? = some (MBox Q0 Q1 Q2 Q3 Q4)) := mset HIQ.out
          obtain ⟨U11, hU11⟩ : ∃ V, Hid ((StoM u11 iq Q0 Q1 Q2 Q3 Q4) = V) := ⟨_, rfl⟩
          rw [hU11.out] at HB HIA HIB HAT HBT HIP HIQ HIT HGA HGB HGT HGU HRP HRQ
          have hU11' := hU11.out
          unfold StoM at hU11'
          obtain ⟨c00, c01, c02⟩ := mcells_of HIP.out
          obtain ⟨c10, c11, c12⟩ := mcells_of HIT.out
          go_wp2_with fail
          refine (Trn_res F r c l1.out.1 l1.out.2.1 z P0 P1 P2 P3 P4 _ HRP.out).mono ?_
          rintro e u12 ⟨⟨R0, R1, R2, R3, R4, rfl, hp⟩, hb⟩
          have HB := hid (HB.out.trans (hb.mono HB.out.size))
          have HIA := hid (blkM HIA.out hb)
          have HIB := hid (blkM HIB.out hb)
          have HAT := hid (blkM HAT.out hb)
          have HBT := hid (blkM HBT.out hb)
          have HIP := hid (blkM HIP.out hb)
          have HIQ := hid (blkM HIQ.out hb)
          have HIT := hid (blkM HIT.out hb)
          have HGA := hid (HGA.out.below hb)
          have HGB := hid (HGB.out.below hb)
          have HGT := hid (HGT.out.below hb)
          have HGU := hid (HGU.out.below hb)
          have HRP := hid (HRP.out.below hb)
          have HRQ := hid (HRQ.out.below hb)
          have HRT := hid hp
          clear hp
          clear hb
          by_cases hF0 : F = 0
          · subst hF0
            have HRT := hid (HRT.out rfl)
            have HB : Hid (Below w.heap.size w (StoM u12 it R0 R1 R2 R3 R4)) := StoM.below HB.out Nit.out
            have HIA := hid ((StoM.keep Niait.out).trans HIA.out : (StoM u12 it R0 R1 R2 R3 R4).heap[ia]? = _)
            have HIB := hid ((StoM.keep Nibit.out).trans HIB.out : (StoM u12 it R0 R1 R2 R3 R4).heap[ib]? = _)
            have HAT := hid ((StoM.keep Niatit.out).trans HAT.out : (StoM u12 it R0 R1 R2 R3 R4).heap[iat]? = _)
            have HBT := hid ((StoM.keep Nibtit.out).trans HBT.out : (StoM u12 it R0 R1 R2 R3 R4).heap[ibt]? = _)
            have HIP := hid ((StoM.keep Nipit.out).trans HIP.out : (StoM u12 it R0 R1 R2 R3 R4).heap[ip]? = _)
            have HIQ := hid ((StoM.keep Niqit.out).trans HIQ.out : (StoM u12 it R0 R1 R2 R3 R4).heap[iq]? = _)
            have HGA := hid (gd_sto (b := it) (r1 := R0) (c1 := R1) (s1 := R2) (n1 := R3) (k1 := R4) HGA.out HIT.out)
            have HGB := hid (gd_sto (b := it) (r1 := R0) (c1 := R1) (s1 := R2) (n1 := R3) (k1 := R4) HGB.out HIT.out)
            have HGT := hid (gd_sto (b := it) (r1 := R0) (c1 := R1) (s1 := R2) (n1 := R3) (k1 := R4) HGT.out HIT.out)
            have HGU := hid (gd_sto (b := it) (r1 := R0) (c1 := R1) (s1 := R2) (n1 := R3) (k1 := R4) HGU.out HIT.out)
            have HRP := hid (ResM.sto (b := it) (r1 := R0) (c1 := R1) (s1 := R2) (n1 := R3) (k1 := R4) HRP.out HIT.out)
            have HRQ := hid (ResM.sto (b := it) (r1 := R0) (c1 := R1) (s1 := R2) (n1 := R3) (k1 := R4) HRQ.out HIT.out)
            have HRT := hid (ResM.sto (b := it) (r1 := R0) (c1 := R1) (s1 := R2) (n1 := R3) (k1 := R4) HRT.out HIT.out)
            obtain ⟨z0, z1, z2⟩ := mcells_of HIT.out
            have fz := frzM HIT.out
            have HIT : Hid ((StoM u12 it R0 R1 R2 R3 R4).heap[it]? = some (MBox R0 R1 R2 R3 R4)) := mset HIT.out
            obtain ⟨U12, hU12⟩ : ∃ V, Hid ((StoM u12 it R0 R1 R2 R3 R4) = V) := ⟨_, rfl⟩
            rw [hU12.out] at HB HIA HIB HAT HBT HIP HIQ HIT HGA HGB HGT HGU HRP HRQ HRT
            have hU12' := hU12.out
            unfold StoM at hU12'
            have HAL := hid (alike_res c r _ _ R0 R1 Q0 Q1 R2 Q2 R3 R4 Q3 Q4 _ HRT.out HRQ.out (fun _ _ _ _ => rfl))
            obtain ⟨c00, c01, c02⟩ := mcells_of HIT.out
            obtain ⟨c10, c11, c12⟩ := mcells_of HIQ.out
            go_wp2_with fail
            refine (HAL.out).mono ?_
            rintro e u13 ⟨rfl, hb⟩
            have HB := hid (HB.out.trans (hb.mono HB.out.size))
            clear hb
            go_wp2_with fail
            go_ret
            exact ⟨rfl, HB.out⟩
          · have hFz : (F == 0) = false := by simpa using hF0
            have hFn : (F != 0) = true := by simpa using hF0
            clear hF0 HRT
            have HB : Hid (Below w.heap.size w (StoM u12 it R0 R1 R2 R3 R4)) := StoM.below HB.out Nit.out
            have HIA := hid ((StoM.keep Niait.out).trans HIA.out : (StoM u12 it R0 R1 R2 R3 R4).heap[ia]? = _)
            have HIB := hid ((StoM.keep Nibit.out).trans HIB.out : (StoM u12 it R0 R1 R2 R3 R4).heap[ib]? = _)
            have HAT := hid ((StoM.keep Niatit.out).trans HAT.out : (StoM u12 it R0 R1 R2 R3 R4).heap[iat]? = _)
            have HBT := hid ((StoM.keep Nibtit.out).trans HBT.out : (StoM u12 it R0 R1 R2 R3 R4).heap[ibt]? = _)
            have HIP := hid ((StoM.keep Nipit.out).trans HIP.out : (StoM u12 it R0 R1 R2 R3 R4).heap[ip]? = _)
            have HIQ := hid ((StoM.keep Niqit.out).trans HIQ.out : (StoM u12 it R0 R1 R2 R3 R4).heap[iq]? = _)
            have HGA := hid (gd_sto (b := it) (r1 := R0) (c1 := R1) (s1 := R2) (n1 := R3) (k1 := R4) HGA.out HIT.out)
            have HGB := hid (gd_sto (b := it) (r1 := R0) (c1 := R1) (s1 := R2) (n1 := R3) (k1 := R4) HGB.out HIT.out)
            have HGT := hid (gd_sto (b := it) (r1 := R0) (c1 := R1) (s1 := R2) (n1 := R3) (k1 := R4) HGT.out HIT.out)
            have HGU := hid (gd_sto (b := it) (r1 := R0) (c1 := R1) (s1 := R2) (n1 := R3) (k1 := R4) HGU.out HIT.out)
            have HRP := hid (ResM.sto (b := it) (r1 := R0) (c1 := R1) (s1 := R2) (n1 := R3) (k1 := R4) HRP.out HIT.out)
            have HRQ := hid (ResM.sto (b := it) (r1 := R0) (c1 := R1) (s1 := R2) (n1 := R3) (k1 := R4) HRQ.out HIT.out)
            obtain ⟨z0, z1, z2⟩ := mcells_of HIT.out
            have fz := frzM HIT.out
            have HIT : Hid ((StoM u12 it R0 R1 R2 R3 R4).heap[it]? = some (MBox R0 R1 R2 R3 R4)) := mset HIT.out
            obtain ⟨U12, hU12⟩ : ∃ V, Hid ((StoM u12 it R0 R1 R2 R3 R4) = V) := ⟨_, rfl⟩
            rw [hU12.out] at HB HIA HIB HAT HBT HIP HIQ HIT HGA HGB HGT HGU HRP HRQ
            have hU12' := hU12.out
            unfold StoM at hU12'
            obtain ⟨c00, c01, c02⟩ := mcells_of HIT.out
            obtain ⟨c10, c11, c12⟩ := mcells_of HIQ.out
            go_wp2_with fail
            go_ret
            exact ⟨rfl, HB.out⟩
        · have hEz : (E == 0) = false := by simpa using hE0
          clear hE0
          obtain ⟨c00, c01, c02⟩ := mcells_of HIT.out
          obtain ⟨c10, c11, c12⟩ := mcells_of HIQ.out
          clear HRP HRQ HRT
          obtain ⟨c00, c01, c02⟩ := mcells_of HIA.out
          obtain ⟨c10, c11, c12⟩ := mcells_of HIB.out
          obtain ⟨c20, c21, c22⟩ := mcells_of HIP.out
          go_wp2_with fail
          refine (HA1.out _ HGA.out HGB.out).mono ?_
          rintro e u9 ⟨⟨P0, P1, P2, P3, P4, rfl, hp⟩, hb⟩
          have HB := hid (HB.out.trans (hb.mono HB.out.size))
          have HIA := hid (blkM HIA.out hb)
          have HIB := hid (blkM HIB.out hb)
          have HAT := hid (blkM HAT.out hb)
          have HBT := hid (blkM HBT.out hb)
          have HIP := hid (blkM HIP.out hb)
          have HIQ := hid (blkM HIQ.out hb)
          have HIT := hid (blkM HIT.out hb)
          have HGA := hid (HGA.out.below hb)
          have HGB := hid (HGB.out.below hb)
          have HGT := hid (HGT.out.below hb)
          have HGU := hid (HGU.out.below hb)
          have HRP := hid hp
          clear hp
          clear hb
          have HB : Hid (Below w.heap.size w (StoM u9 ip P0 P1 P2 P3 P4)) := StoM.below HB.out Nip.out
          have HIA := hid ((StoM.keep Niaip.out).trans HIA.out : (StoM u9 ip P0 P1 P2 P3 P4).heap[ia]? = _)
          have HIB := hid ((StoM.keep Nibip.out).trans HIB.out : (StoM u9 ip P0 P1 P2 P3 P4).heap[ib]? = _)
          have HAT := hid ((StoM.keep Niatip.out).trans HAT.out : (StoM u9 ip P0 P1 P2 P3 P4).heap[iat]? = _)
          have HBT := hid ((StoM.keep Nibtip.out).trans HBT.out : (StoM u9 ip P0 P1 P2 P3 P4).heap[ibt]? = _)
          have HIQ := hid ((StoM.keep (Ne.symm Nipiq.out)).trans HIQ.out : (StoM u9 ip P0 P1 P2 P3 P4).heap[iq]? = _)
          have HIT := hid ((StoM.keep (Ne.symm Nipit.out)).trans HIT.out : (StoM u9 ip P0 P1 P2 P3 P4).heap[it]? = _)
          have HGA := hid (gd_sto (b := ip) (r1 := P0) (c1 := P1) (s1 := P2) (n1 := P3) (k1 := P4) HGA.out HIP.out)
          have HGB := hid (gd_sto (b := ip) (r1 := P0) (c1 := P1) (s1 := P2) (n1 := P3) (k1 := P4) HGB.out HIP.out)
          have HGT := hid (gd_sto (b := ip) (r1 := P0) (c1 := P1) (s1 := P2) (n1 := P3) (k1 := P4) HGT.out HIP.out)
          have HGU := hid (gd_sto (b := ip) (r1 := P0) (c1 := P1) (s1 := P2) (n1 := P3) (k1 := P4) HGU.out HIP.out)
          have HRP := hid (ResM.sto (b := ip) (r1 := P0) (c1 := P1) (s1 := P2) (n1 := P3) (k1 := P4) HRP.out HIP.out)
          obtain ⟨z0, z1, z2⟩ := mcells_of HIP.out
          have fz := frzM HIP.out
          have HIP : Hid ((StoM u9 ip P0 P1 P2 P3 P4).heap[ip]? = some (MBox P0 P1 P2 P3 P4)) := mset HIP.out
          obtain ⟨U9, hU9⟩ : ∃ V, Hid ((StoM u9 ip P0 P1 P2 P3 P4) = V) := ⟨_, rfl⟩
          rw [hU9.out] at HB HIA HIB HAT HBT HIP HIQ HIT HGA HGB HGT HGU HRP
          have hU9' := hU9.out
          unfold StoM at hU9'
          obtain ⟨c00, c01, c02⟩ := mcells_of HAT.out
          obtain ⟨c10, c11, c12⟩ := mcells_of HBT.out
          obtain ⟨c20, c21, c22⟩ := mcells_of HIQ.out
          go_wp2_with fail
          refine (HA2.out _ HGT.out HGU.out).mono ?_
          rintro e u10 ⟨⟨Q0, Q1, Q2, Q3, Q4, rfl, hp⟩, hb⟩
          have HB := hid (HB.out.trans (hb.mono HB.out.size))
          have HIA := hid (blkM HIA.out hb)
          have HIB := hid (blkM HIB.out hb)
          have HAT := hid (blkM HAT.out hb)
          have HBT := hid (blkM HBT.out hb)
          have HIP := hid (blkM HIP.out hb)
          have HIQ := hid (blkM HIQ.out hb)
          have HIT := hid (blkM HIT.out hb)
          have HGA := hid (HGA.out.below hb)
          have HGB := hid (HGB.out.below hb)
          have HGT := hid (HGT.out.below hb)
          have HGU := hid (HGU.out.below hb)
          have HRP := hid (HRP.out.below hb)
          have HRQ := hid hp
          clear hp
          clear hb
          have HB : Hid (Below w.heap.size w (StoM u10 iq Q0 Q1 Q2 Q3 Q4)) := StoM.below HB.out Niq.out
          have HIA := hid ((StoM.keep Niaiq.out).trans HIA.out : (StoM u10 iq Q0 Q1 Q2 Q3 Q4).heap[ia]? = _)
          have HIB := hid ((StoM.keep Nibiq.out).trans HIB.out : (StoM u10 iq Q0 Q1 Q2 Q3 Q4).heap[ib]? = _)
          have HAT := hid ((StoM.keep Niatiq.out).trans HAT.out : (StoM u10 iq Q0 Q1 Q2 Q3 Q4).heap[iat]? = _)
          have HBT := hid ((StoM.keep Nibtiq.out).trans HBT.out : (StoM u10 iq Q0 Q1 Q2 Q3 Q4).heap[ibt]? = _)
          have HIP := hid ((StoM.keep Nipiq.out).trans HIP.out : (StoM u10 iq Q0 Q1 Q2 Q3 Q4).heap[ip]? = _)
          have HIT := hid ((StoM.keep (Ne.symm Niqit.out)).trans HIT.out : (StoM u10 iq Q0 Q1 Q2 Q3 Q4).heap[it]? = _)
          have HGA := hid (gd_sto (b := iq) (r1 := Q0) (c1 := Q1) (s1 := Q2) (n1 := Q3) (k1 := Q4) HGA.out HIQ.out)
          have HGB := hid (gd_sto (b := iq) (r1 := Q0) (c1 := Q1) (s1 := Q2) (n1 := Q3) (k1 := Q4) HGB.out HIQ.out)
          have HGT := hid (gd_sto (b := iq) (r1 := Q0) (c1 := Q1) (s1 := Q2) (n1 := Q3) (k1 := Q4) HGT.out HIQ.out)
          have HGU := hid (gd_sto (b := iq) (r1 := Q0) (c1 := Q1) (s1 := Q2) (n1 := Q3) (k1 := Q4) HGU.out HIQ.out)
          have HRP := hid (ResM.sto (b := iq) (r1 := Q0) (c1 := Q1) (s1 := Q2) (n1 := Q3) (k1 := Q4) HRP.out HIQ.out)
          have HRQ := hid (ResM.sto (b := iq) (r1 := Q0) (c1 := Q1) (s1 := Q2) (n1 := Q3) (k1 := Q4) HRQ.out HIQ.out)
          obtain ⟨z0, z1, z2⟩ := mcells_of HIQ.out
          have fz := frzM HIQ.out
          have HIQ : Hid ((StoM u10 iq Q0 Q1 Q2 Q3 Q4).heap[iq]? = some (MBox Q0 Q1 Q2 Q3 Q4)) := mset HIQ.out
          obtain ⟨U10, hU10⟩ : ∃ V, Hid ((StoM u10 iq Q0 Q1 Q2 Q3 Q4) = V) := ⟨_, rfl⟩
          rw [hU10.out] at HB HIA HIB HAT HBT HIP HIQ HIT HGA HGB HGT HGU HRP HRQ
          have hU10' := hU10.out
          unfold StoM at hU10'
          obtain ⟨c00, c01, c02⟩ := mcells_of HIP.out
          obtain ⟨c10, c11, c12⟩ := mcells_of HIT.out
          go_wp2_with fail
          refine (Trn_res F r c l1.out.1 l1.out.2.1 z P0 P1 P2 P3 P4 _ HRP.out).mono ?_
          rintro e u11 ⟨⟨R0, R1, R2, R3, R4, rfl, hp⟩, hb⟩
          have HB := hid (HB.out.trans (hb.mono HB.out.size))
          have HIA := hid (blkM HIA.out hb)
          have HIB := hid (blkM HIB.out hb)
          have HAT := hid (blkM HAT.out hb)
          have HBT := hid (blkM HBT.out hb)
          have HIP := hid (blkM HIP.out hb)
          have HIQ := hid (blkM HIQ.out hb)
          have HIT := hid (blkM HIT.out hb)
          have HGA := hid (HGA.out.below hb)
          have HGB := hid (HGB.out.below hb)
          have HGT := hid (HGT.out.below hb)
          have HGU := hid (HGU.out.below hb)
          have HRP := hid (HRP.out.below hb)
          have HRQ := hid (HRQ.out.below hb)
          have HRT := hid hp
          clear hp
          clear hb
          by_cases hF0 : F = 0
          · subst hF0
            have HRT := hid (HRT.out rfl)
            have HB : Hid (Below w.heap.size w (StoM u11 it R0 R1 R2 R3 R4)) := StoM.below HB.out Nit.out
            have HIA := hid ((StoM.keep Niait.out).trans HIA.out : (StoM u11 it R0 R1 R2 R3 R4).heap[ia]? = _)
            have HIB := hid ((StoM.keep Nibit.out).trans HIB.out : (StoM u11 it R0 R1 R2 R3 R4).heap[ib]? = _)
            have HAT := hid ((StoM.keep Niatit.out).trans HAT.out : (StoM u11 it R0 R1 R2 R3 R4).heap[iat]? = _)
            have HBT := hid ((StoM.keep Nibtit.out).trans HBT.out : (StoM u11 it R0 R1 R2 R3 R4).heap[ibt]? = _)
            have HIP := hid ((StoM.keep Nipit.out).trans HIP.out : (StoM u11 it R0 R1 R2 R3 R4).heap[ip]? = _)
            have HIQ := hid ((StoM.keep Niqit.out).trans HIQ.out : (StoM u11 it R0 R1 R2 R3 R4).heap[iq]? = _)
            have HGA := hid (gd_sto (b := it) (r1 := R0) (c1 := R1) (s1 := R2) (n1 := R3) (k1 := R4) HGA.out HIT.out)
            have HGB := hid (gd_sto (b := it) (r1 := R0) (c1 := R1) (s1 := R2) (n1 := R3) (k1 := R4) HGB.out HIT.out)
            have HGT := hid (gd_sto (b := it) (r1 := R0) (c1 := R1) (s1 := R2) (n1 := R3) (k1 := R4) HGT.out HIT.out)
            have HGU := hid (gd_sto (b := it) (r1 := R0) (c1 := R1) (s1 := R2) (n1 := R3) (k1 := R4) HGU.out HIT.out)
            have HRP := hid (ResM.sto (b := it) (r1 := R0) (c1 := R1) (s1 := R2) (n1 := R3) (k1 := R4) HRP.out HIT.out)
            have HRQ := hid (ResM.sto (b := it) (r1 := R0) (c1 := R1) (s1 := R2) (n1 := R3) (k1 := R4) HRQ.out HIT.out)
            have HRT := hid (ResM.sto (b := it) (r1 := R0) (c1 := R1) (s1 := R2) (n1 := R3) (k1 := R4) HRT.out HIT.out)
            obtain ⟨z0, z1, z2⟩ := mcells_of HIT.out
            have fz := frzM HIT.out
            have HIT : Hid ((StoM u11 it R0 R1 R2 R3 R4).heap[it]? = some (MBox R0 R1 R2 R3 R4)) := mset HIT.out
            obtain ⟨U11, hU11⟩ : ∃ V, Hid ((StoM u11 it R0 R1 R2 R3 R4) = V) := ⟨_, rfl⟩
            rw [hU11.out] at HB HIA HIB HAT HBT HIP HIQ HIT HGA HGB HGT HGU HRP HRQ HRT
            have hU11' := hU11.out
            unfold StoM at hU11'
            have HAL := hid (alike_res c r _ _ R0 R1 Q0 Q1 R2 Q2 R3 R4 Q3 Q4 _ HRT.out HRQ.out (fun _ _ _ _ => rfl))
            obtain ⟨c00, c01, c02⟩ := mcells_of HIT.out
            obtain ⟨c10, c11, c12⟩ := mcells_of HIQ.out
            go_wp2_with fail
            refine (HAL.out).mono ?_
            rintro e u12 ⟨rfl, hb⟩
            have HB := hid (HB.out.trans (hb.mono HB.out.size))
            clear hb
            go_wp2_with fail
            go_ret
            exact ⟨rfl, HB.out⟩
          · have hFz : (F == 0) = false := by simpa using hF0
            have hFn : (F != 0) = true := by simpa using hF0
            clear hF0 HRT
            have HB : Hid (Below w.heap.size w (StoM u11 it R0 R1 R2 R3 R4)) := StoM.below HB.out Nit.out
            have HIA := hid ((StoM.keep Niait.out).trans HIA.out : (StoM u11 it R0 R1 R2 R3 R4).heap[ia]? = _)
            have HIB := hid ((StoM.keep Nibit.out).trans HIB.out : (StoM u11 it R0 R1 R2 R3 R4).heap[ib]? = _)
            have HAT := hid ((StoM.keep Niatit.out).trans HAT.out : (StoM u11 it R0 R1 R2 R3 R4).heap[iat]? = _)
            have HBT := hid ((StoM.keep Nibtit.out).trans HBT.out : (StoM u11 it R0 R1 R2 R3 R4).heap[ibt]? = _)
            have HIP := hid ((StoM.keep Nipit.out).trans HIP.out : (StoM u11 it R0 R1 R2 R3 R4).heap[ip]? = _)
            have HIQ := hid ((StoM.keep Niqit.out).trans HIQ.out : (StoM u11 it R0 R1 R2 R3 R4).heap[iq]? = _)
            have HGA := hid (gd_sto (b := it) (r1 := R0) (c1 := R1) (s1 := R2) (n1 := R3) (k1 := R4) HGA.out HIT.out)
            have HGB := hid (gd_sto (b := it) (r1 := R0) (c1 := R1) (s1 := R2) (n1 := R3) (k1 := R4) HGB.out HIT.out)
            have HGT := hid (gd_sto (b := it) (r1 := R0) (c1 := R1) (s1 := R2) (n1 := R3) (k1 := R4) HGT.out HIT.out)
            have HGU := hid (gd_sto (b := it) (r1 := R0) (c1 := R1) (s1 := R2) (n1 := R3) (k1 := R4) HGU.out HIT.out)
            have HRP := hid (ResM.sto (b := it) (r1 := R0) (c1 := R1) (s1 := R2) (n1 := R3) (k1 := R4) HRP.out HIT.out)
            have HRQ := hid (ResM.sto (b := it) (r1 := R0) (c1 := R1) (s1 := R2) (n1 := R3) (k1 := R4) HRQ.out HIT.out)
            obtain ⟨z0, z1, z2⟩ := mcells_of HIT.out
            have fz := frzM HIT.out
            have HIT : Hid ((StoM u11 it R0 R1 R2 R3 R4).heap[it]? = some (MBox R0 R1 R2 R3 R4)) := mset HIT.out
            obtain ⟨U11, hU11⟩ : ∃ V, Hid ((StoM u11 it R0 R1 R2 R3 R4) = V) := ⟨_, rfl⟩
            rw [hU11.out] at HB HIA HIB HAT HBT HIP HIQ HIT HGA HGB HGT HGU HRP HRQ
            have hU11' := hU11.out
            unfold StoM at hU11'
            obtain ⟨c00, c01, c02⟩ := mcells_of HIT.out
            obtain ⟨c10, c11, c12⟩ := mcells_of HIQ.out
            go_wp2_with fail
            go_ret
            exact ⟨rfl, HB.out⟩
      · obtain ⟨E, hE⟩ : ∃ E, Hid (chkM ry cy m ys = E) := ⟨_, rfl⟩
        rw [hE.out] at HTB HCB hEb
        rw [hEa] at HTA HCA
        have hne : (E != 0) = true := by simpa using hEb
        clear hEa hEb
        obtain ⟨c00, c01, c02⟩ := mcells_of HIA.out
        go_wp2_with fail
        refine (HTA.out _ HFA.out).mono ?_
        rintro e u1 ⟨⟨Y0, Y1, Y2, Y3, Y4, rfl⟩, hb⟩
        have HB := hid (HB.out.trans (hb.mono HB.out.size))
        have HIA := hid (blkM HIA.out hb)
        have HIB := hid (blkM HIB.out hb)
        have HFA := hid (HFA.out.below hb)
        have HFB := hid (HFB.out.below hb)
        clear hb
        have hal : Below u1.heap.size u1 (u1.alloc (MBox Y0 Y1 Y2 Y3 Y4)) := (Below.refl _ _).alloc (Nat.le_refl _) _
        have Niaiat : Hid (ia ≠ u1.heap.size) := Nat.ne_of_lt (Array.getElem?_eq_some_iff.1 HIA.out).1
        have Nibiat : Hid (ib ≠ u1.heap.size) := Nat.ne_of_lt (Array.getElem?_eq_some_iff.1 HIB.out).1
        have Niat : Hid (w.heap.size ≤ u1.heap.size) := HB.out.size
        have HB := hid (HB.out.trans (hal.mono HB.out.size))
        have HIA := hid (blkM HIA.out hal)
        have HIB := hid (blkM HIB.out hal)
        have HFA := hid (HFA.out.below hal)
        have HFB := hid (HFB.out.below hal)
        have HAT : Hid ((u1.alloc (MBox Y0 Y1 Y2 Y3 Y4)).heap[u1.heap.size]? = some (MBox Y0 Y1 Y2 Y3 Y4)) := nblkM _ _
        obtain ⟨V1, hV1⟩ : ∃ V, Hid ((u1.alloc (MBox Y0 Y1 Y2 Y3 Y4)) = V) := ⟨_, rfl⟩
        rw [hV1.out] at HB HAT HIA HIB HFA HFB
        have hV1' := hV1.out
        unfold MBox at hV1'
        obtain ⟨iat, hiat⟩ : ∃ t, Hid (u1.heap.size = t) := ⟨_, rfl⟩
        rw [hiat.out] at HAT Niat Niaiat Nibiat
        have hiat' := hiat.out
        clear hal
        obtain ⟨c00, c01, c02⟩ := mcells_of HIB.out
        go_wp2_with fail
        refine (HTB.out _ HFB.out).mono ?_
        rintro e u2 ⟨⟨Z0, Z1, Z2, Z3, Z4, rfl⟩, hb⟩
        have HB := hid (HB.out.trans (hb.mono HB.out.size))
        have HIA := hid (blkM HIA.out hb)
        have HIB := hid (blkM HIB.out hb)
        have HAT := hid (blkM HAT.out hb)
        have HFA := hid (HFA.out.below hb)
        have HFB := hid (HFB.out.below hb)
        clear hb
        have hal : Below u2.heap.size u2 (u2.alloc (MBox Z0 Z1 Z2 Z3 Z4)) := (Below.refl _ _).alloc (Nat.le_refl _) _
        have Niaibt : Hid (ia ≠ u2.heap.size) := Nat.ne_of_lt (Array.getElem?_eq_some_iff.1 HIA.out).1
        have Nibibt : Hid (ib ≠ u2.heap.size) := Nat.ne_of_lt (Array.getElem?_eq_some_iff.1 HIB.out).1
        have Niatibt : Hid (iat ≠ u2.heap.size) := Nat.ne_of_lt (Array.getElem?_eq_some_iff.1 HAT.out).1
        have Nibt : Hid (w.heap.size ≤ u2.heap.size) := HB.out.size
        have HB := hid (HB.out.trans (hal.mono HB.out.size))
        have HIA := hid (blkM HIA.out hal)
        have HIB := hid (blkM HIB.out hal)
        have HAT := hid (blkM HAT.out hal)
        have HFA := hid (HFA.out.below hal)
        have HFB := hid (HFB.out.below hal)
        have HBT : Hid ((u2.alloc (MBox Z0 Z1 Z2 Z3 Z4)).heap[u2.heap.size]? = some (MBox Z0 Z1 Z2 Z3 Z4)) := nblkM _ _
        obtain ⟨V2, hV2⟩ : ∃ V, Hid ((u2.alloc (MBox Z0 Z1 Z2 Z3 Z4)) = V) := ⟨_, rfl⟩
        rw [hV2.out] at HB HBT HIA HIB HAT HFA HFB
        have hV2' := hV2.out
        unfold MBox at hV2'
        obtain ⟨ibt, hibt⟩ : ∃ t, Hid (u2.heap.size = t) := ⟨_, rfl⟩
        rw [hibt.out] at HBT Nibt Niaibt Nibibt Niatibt
        have hibt' := hibt.out
        clear hal
        obtain ⟨c00, c01, c02⟩ := mcells_of HIA.out
        go_wp2_with fail
        refine (HCA.out _ HFA.out).mono ?_
        rintro e u3 ⟨rfl, hb⟩
        have HB := hid (HB.out.trans (hb.mono HB.out.size))
        have HIA := hid (blkM HIA.out hb)
        have HIB := hid (blkM HIB.out hb)
        have HAT := hid (blkM HAT.out hb)
        have HBT := hid (blkM HBT.out hb)
        have HFA := hid (HFA.out.below hb)
        have HFB := hid (HFB.out.below hb)
        clear hb
        obtain ⟨c00, c01, c02⟩ := mcells_of HIB.out
        go_wp2_with fail
        refine (HCB.out _ HFB.out).mono ?_
        rintro e u4 ⟨rfl, hb⟩
        have HB := hid (HB.out.trans (hb.mono HB.out.size))
        have HIA := hid (blkM HIA.out hb)
        have HIB := hid (blkM HIB.out hb)
        have HAT := hid (blkM HAT.out hb)
        have HBT := hid (blkM HBT.out hb)
        have HFA := hid (HFA.out.below hb)
        have HFB := hid (HFB.out.below hb)
        clear hb
        go_wp2_with fail
        go_ret
        exact ⟨rfl, HB.out⟩
    · obtain ⟨E, hE⟩ : ∃ E, Hid (chkM rx cx n xs = E) := ⟨_, rfl⟩
      rw [hE.out] at HTA HCA hEa
      obtain ⟨E2, hE2⟩ : ∃ E, Hid (chkM ry cy m ys = E) := ⟨_, rfl⟩
      rw [hE2.out] at HTB
      have hne : (E != 0) = true := by simpa using hEa
      clear hEa
      obtain ⟨c00, c01, c02⟩ := mcells_of HIA.out
      go_wp2_with fail
      refine (HTA.out _ HFA.out).mono ?_
      rintro e u1 ⟨⟨Y0, Y1, Y2, Y3, Y4, rfl⟩, hb⟩
      have HB := hid (HB.out.trans (hb.mono HB.out.size))
      have HIA := hid (blkM HIA.out hb)
      have HIB := hid (blkM HIB.out hb)
      have HFA := hid (HFA.out.below hb)
      have HFB := hid (HFB.out.below hb)
      clear hb
      have hal : Below u1.heap.size u1 (u1.alloc (MBox Y0 Y1 Y2 Y3 Y4)) := (Below.refl _ _).alloc (Nat.le_refl _) _
      have Niaiat : Hid (ia ≠ u1.heap.size) := Nat.ne_of_lt (Array.getElem?_eq_some_iff.1 HIA.out).1
      have Nibiat : Hid (ib ≠ u1.heap.size) := Nat.ne_of_lt (Array.getElem?_eq_some_iff.1 HIB.out).1
      have Niat : Hid (w.heap.size ≤ u1.heap.size) := HB.out.size
      have HB := hid (HB.out.trans (hal.mono HB.out.size))
      have HIA := hid (blkM HIA.out hal)
      have HIB := hid (blkM HIB.out hal)
      have HFA := hid (HFA.out.below hal)
      have HFB := hid (HFB.out.below hal)
      have HAT : Hid ((u1.alloc (MBox Y0 Y1 Y2 Y3 Y4)).heap[u1.heap.size]? = some (MBox Y0 Y1 Y2 Y3 Y4)) := nblkM _ _
      obtain ⟨V1, hV1⟩ : ∃ V, Hid ((u1.alloc (MBox Y0 Y1 Y2 Y3 Y4)) = V) := ⟨_, rfl⟩
      rw [hV1.out] at HB HAT HIA HIB HFA HFB
      have hV1' := hV1.out
      unfold MBox at hV1'
      obtain ⟨iat, hiat⟩ : ∃ t, Hid (u1.heap.size = t) := ⟨_, rfl⟩
      rw [hiat.out] at HAT Niat Niaiat Nibiat
      have hiat' := hiat.out
      clear hal
      obtain ⟨c00, c01, c02⟩ := mcells_of HIB.out
      go_wp2_with fail
      refine (HTB.out _ HFB.out).mono ?_
      rintro e u2 ⟨⟨Z0, Z1, Z2, Z3, Z4, rfl⟩, hb⟩
      have HB := hid (HB.out.trans (hb.mono HB.out.size))
      have HIA := hid (blkM HIA.out hb)
      have HIB := hid (blkM HIB.out hb)
      have HAT := hid (blkM HAT.out hb)
      have HFA := hid (HFA.out.below hb)
      have HFB := hid (HFB.out.below hb)
      clear hb
      have hal : Below u2.heap.size u2 (u2.alloc (MBox Z0 Z1 Z2 Z3 Z4)) := (Below.refl _ _).alloc (Nat.le_refl _) _
      have Niaibt : Hid (ia ≠ u2.heap.size) := Nat.ne_of_lt (Array.getElem?_eq_some_iff.1 HIA.out).1
      have Nibibt : Hid (ib ≠ u2.heap.size) := Nat.ne_of_lt (Array.getElem?_eq_some_iff.1 HIB.out).1
      have Niatibt : Hid (iat ≠ u2.heap.size) := Nat.ne_of_lt (Array.getElem?_eq_some_iff.1 HAT.out).1
      have Nibt : Hid (w.heap.size ≤ u2.heap.size) := HB.out.size
      have HB := hid (HB.out.trans (hal.mono HB.out.size))
      have HIA := hid (blkM HIA.out hal)
      have HIB := hid (blkM HIB.out hal)
      have HAT := hid (blkM HAT.out hal)
      have HFA := hid (HFA.out.below hal)
      have HFB := hid (HFB.out.below hal)
      have HBT : Hid ((u2.alloc (MBox Z0 Z1 Z2 Z3 Z4)).heap[u2.heap.size]? = some (MBox Z0 Z1 Z2 Z3 Z4)) := nblkM _ _
      obtain ⟨V2, hV2⟩ : ∃ V, Hid ((u2.alloc (MBox Z0 Z1 Z2 Z3 Z4)) = V) := ⟨_, rfl⟩
      rw [hV2.out] at HB HBT HIA HIB HAT HFA HFB
      have hV2' := hV2.out
      unfold MBox at hV2'
      obtain ⟨ibt, hibt⟩ : ∃ t, Hid (u2.heap.size = t) := ⟨_, rfl⟩
      rw [hibt.out] at HBT Nibt Niaibt Nibibt Niatibt
      have hibt' := hibt.out
      clear hal
      obtain ⟨c00, c01, c02⟩ := mcells_of HIA.out
      go_wp2_with fail
      refine (HCA.out _ HFA.out).mono ?_
      rintro e u3 ⟨rfl, hb⟩
      have HB := hid (HB.out.trans (hb.mono HB.out.size))
      have HIA := hid (blkM HIA.out hb)
      have HIB := hid (blkM HIB.out hb)
      have HAT := hid (blkM HAT.out hb)
      have HBT := hid (blkM HBT.out hb)
      have HFA := hid (HFA.out.below hb)
      have HFB := hid (HFB.out.below hb)
      clear hb
      go_wp2_with fail
      go_ret
      exact ⟨rfl, HB.out⟩
end Go.Proofs.Ytpnmfndganalnaa
