
/- The law MatrixSymmetric. (Written by mkmyd.py.) -/
import Derived.Test.YtfkpdjieiifldabP42
namespace Go.Proofs.Ytfkpdjieiifldab
open Go.RowKit Go.IntWalk

set_option maxRecDepth 8000 in
set_option maxHeartbeats 16000000 in
theorem msym_walk (rx cx : Int) (sa : Option Addr) (n ka : Nat) (xs : List Nat) (ry cy : Int) (sb : Option Addr) (m kb : Nat) (ys : List Nat) (w : World) (hu : U64At w sa n xs) (hn : n ≤ 17592186043904) (hv : U64At w sb m ys) (hm : m ≤ 17592186043904) :
    Calls Try.prog 5 #[.agg #[.int .i64 rx, .int .i64 cx, .slice sa n ka], .agg #[.int .i64 ry, .int .i64 cy, .slice sb m kb]] w fun e w' => e = .returned (.bool true) ∧ Below w.heap.size w w' := by
  obtain ⟨t1, t2, t3, t4⟩ := two_b w (BBox rx cx sa n ka) (BBox ry cy sb m kb)
  have HOX := hid (fun W (hW : Below w.heap.size w W) => of_any rx cx sa n ka xs W (hu.below hW) hn)
  have HOY := hid (fun W (hW : Below w.heap.size w W) => of_any ry cy sb m kb ys W (hv.below hW) hm)
  have HNM := hid (And.intro hn hm)
  obtain ⟨V, hV⟩ : ∃ V, Hid ((w.alloc (BBox rx cx sa n ka)).alloc (BBox ry cy sb m kb) = V) := ⟨_, rfl⟩
  rw [hV.out] at t1 t2 t3 t4
  have hV' := hV.out
  unfold BBox at hV'
  obtain ⟨p0, hp0⟩ : ∃ t, Hid (w.heap.size = t) := ⟨_, rfl⟩
  obtain ⟨p1, hp1⟩ : ∃ t, Hid (p0 + 1 = t) := ⟨_, rfl⟩
  rw [hp0.out] at t1 t2
  rw [hp1.out] at t2
  have HV0 : Hid (Fr3 w V p0 p1 (BBox rx cx sa n ka) (BBox ry cy sb m kb)) := ⟨t3, t1, t2⟩
  have hp0' := hp0.out
  have hp1' := hp1.out
  have HKS : Hid (∀ W, Hid (Fr3 w W p0 p1 (BBox rx cx sa n ka) (BBox ry cy sb m kb)) → (W.cell? ⟨p0, 0, none⟩ = some (.int .i64 rx) ∧ W.cell? ⟨p0, 1, none⟩ = some (.int .i64 cx) ∧ W.cell? ⟨p0, 2, none⟩ = some (.slice sa n ka) ∧ W.cell? ⟨p1, 0, none⟩ = some (.int .i64 ry) ∧ W.cell? ⟨p1, 1, none⟩ = some (.int .i64 cy) ∧ W.cell? ⟨p1, 2, none⟩ = some (.slice sb m kb)) ∧ Hid (Fr3 w W p0 p1 (BBox rx cx sa n ka) (BBox ry cy sb m kb))) := fun W hW => by
    obtain ⟨a0, a1, a2⟩ := bcells_of hW.out.2.1
    obtain ⟨b0, b1, b2⟩ := bcells_of hW.out.2.2
    exact ⟨⟨a0, a1, a2, b0, b1, b2⟩, hW⟩
  clear t1 t2 t3 t4 hu hv hn hm
  go_enter Try.func5, Try.ntmps5
  go_wp2_with fail
  refine (awake8_any _).mono ?_
  rintro e w1 ⟨rfl, hb1⟩
  have HQQ := hid (HV0.out.call hb1)
  clear hb1
  go_wp2_with fail
  have HG0 : Hid (Fr3 w w1.drew p0 p1 (BBox rx cx sa n ka) (BBox ry cy sb m kb)) := HQQ.out.drew
  refine region_merge2 (fun a0 a' w' => ∃ (ta : Option Addr) (ca : Nat) (tb : Option Addr) (cb i4 i5 : Nat), a' = Act.put (Act.put (Act.put (Act.put (Act.put (Act.put a0 (some 18) (.agg #[.int .i64 rx, .int .i64 cx, .slice sa n ka])) (some 20) (.agg #[.int .i64 ry, .int .i64 cy, .slice sb m kb])) (some 19) (.agg #[.int .i64 rx, .int .i64 cx, .slice ta n ca])) (some 21) (.agg #[.int .i64 ry, .int .i64 cy, .slice tb m cb])) (some 5) (.pointer (some ⟨i4, 0, none⟩))) (some 6) (.pointer (some ⟨i5, 0, none⟩)) ∧ w'.heap[i4]? = some (MBox rx cx ta n ca) ∧ w'.heap[i5]? = some (MBox ry cy tb m cb) ∧ i4 ≠ i5 ∧ FlM w' ta n ca xs ∧ FlM w' tb m cb ys ∧ Fr3 w w' p0 p1 (BBox rx cx sa n ka) (BBox ry cy sb m kb)) (fun HR => ?_) ?_
  · simp only [Act.put, List.setIfInBounds_toArray, List.set_cons_zero, List.set_cons_succ] at HR
    refine wp_region_held_drew (S := fun W => (W.cell? ⟨p0, 0, none⟩ = some (.int .i64 rx) ∧ W.cell? ⟨p0, 1, none⟩ = some (.int .i64 cx) ∧ W.cell? ⟨p0, 2, none⟩ = some (.slice sa n ka) ∧ W.cell? ⟨p1, 0, none⟩ = some (.int .i64 ry) ∧ W.cell? ⟨p1, 1, none⟩ = some (.int .i64 cy) ∧ W.cell? ⟨p1, 2, none⟩ = some (.slice sb m kb)) ∧ Hid (Fr3 w W p0 p1 (BBox rx cx sa n ka) (BBox ry cy sb m kb))) (by kernel_rfl) (HKS.out _ HG0) (fun hHeld => ?_)
    refine take_at 0 18 (.agg #[.int .i64 rx, .int .i64 cx, .slice sa n ka]) rfl rfl (by kernel_rfl) (by kernel_rfl) (by kernel_rfl) (fun _ _ _ h => h) (Or.inl ⟨by rfl, fun w hSw => by (try dsimp only at hSw); go_simp⟩) (by assumption) ?_
    simp only [Act.put, List.setIfInBounds_toArray, List.set_cons_zero, List.set_cons_succ]
    refine take_at 2 20 (.agg #[.int .i64 ry, .int .i64 cy, .slice sb m kb]) rfl rfl (by kernel_rfl) (by kernel_rfl) (by kernel_rfl) (fun _ _ _ h => h) (Or.inl ⟨by rfl, fun w hSw => by (try dsimp only at hSw); go_simp⟩) (by assumption) ?_
    simp only [Act.put, List.setIfInBounds_toArray, List.set_cons_zero, List.set_cons_succ]
    refine wpAnyH_ready (rs := [1, 4, 5]) (by kernel_rfl) (by simp) ?_
    refine AllReadyH.cons (o := _) rfl (fun K hK => ?_) (AllReadyH.cons (o := _) rfl (fun K hK => ?_) (AllReadyH.cons (o := _) rfl (fun K hK => ?_) AllReadyH.nil))
    · go_simp
      refine (HOX.out _ HG0.out.1).mono ?_
      rintro e u1 ⟨⟨ta, ca, rfl, hf⟩, hbq⟩
      have HF1 := hid hf
      have HG1 := hid (HG0.out.call hbq)
      unfold MV
      clear hbq hf
      go_wp2_with fail
      refine hK.out _ _ (HKS.out _ HG1) (fun hHeld1 => ?_)
      clear hK K
      try simp only [Act.put, List.setIfInBounds_toArray, List.set_cons_zero, List.set_cons_succ]
      refine wpAnyH_ready (rs := [3, 4, 5]) (by kernel_rfl) (by simp) ?_
      refine AllReadyH.cons (o := _) rfl (fun K hK => ?_) (AllReadyH.cons (o := _) rfl (fun K hK => ?_) (AllReadyH.cons (o := _) rfl (fun K hK => ?_) AllReadyH.nil))
      · go_simp
        refine (HOY.out _ HG1.out.1).mono ?_
        rintro e u2 ⟨⟨tb, cb, rfl, hf⟩, hbq⟩
        have HF1 := hid (HF1.out.below hbq)
        have HF2 := hid hf
        have HG2 := hid (HG1.out.call hbq)
        unfold MV
        clear hbq hf
        go_wp2_with fail
        refine hK.out _ _ (HKS.out _ HG2) (fun hHeld2 => ?_)
        clear hK K
        try simp only [Act.put, List.setIfInBounds_toArray, List.set_cons_zero, List.set_cons_succ]
        refine wpAnyH_ready (rs := [4, 5]) (by kernel_rfl) (by simp) ?_
        refine AllReadyH.cons (o := _) rfl (fun K hK => ?_) (AllReadyH.cons (o := _) rfl (fun K hK => ?_) AllReadyH.nil)
        · have hbq : Below u2.heap.size u2 (u2.alloc (MBox 0 0 none 0 0)) := (Below.refl _ _).alloc (Nat.le_refl _) _
          have HB4 : Hid ((u2.alloc (MBox 0 0 none 0 0)).heap[u2.heap.size]? = some (MBox 0 0 none 0 0)) := nblkM _ _
          have HG3 : Hid (Fr3 w (u2.alloc (MBox 0 0 none 0 0)) p0 p1 (BBox rx cx sa n ka) (BBox ry cy sb m kb)) := HG2.out.call hbq
          have HI4 : Hid (p0 ≠ u2.heap.size ∧ p1 ≠ u2.heap.size ∧ w.heap.size ≤ u2.heap.size) := ⟨Nat.ne_of_lt (Array.getElem?_eq_some_iff.1 HG2.out.2.1).1, Nat.ne_of_lt (Array.getElem?_eq_some_iff.1 HG2.out.2.2).1, HG2.out.1.size⟩
          have HF1 := hid (HF1.out.below hbq)
          have HF2 := hid (HF2.out.below hbq)
          clear hbq
          go_simp
          go_wp2_with fail
          refine hK.out _ _ (HKS.out _ HG3) (fun hHeld3 => ?_)
          clear hK K
          try simp only [Act.put, List.setIfInBounds_toArray, List.set_cons_zero, List.set_cons_succ]
          obtain ⟨u3, hu3⟩ : ∃ X, Hid ((u2.alloc (MBox 0 0 none 0 0)) = X) := ⟨_, rfl⟩
          rw [hu3.out] at HB4 HG3 HF1 HF2
          have hy1 := hu3.out
          unfold MBox at hy1
          rw [hy1]
          obtain ⟨i4, hi4⟩ : ∃ X, Hid (u2.heap.size = X) := ⟨_, rfl⟩
          have hy2 := hi4.out
          rw [hi4.out] at HB4 HI4
          rw [hy2]
          clear hy1 hy2
          refine wpAnyH_ready (rs := [5]) (by kernel_rfl) (by simp) ?_
          refine AllReadyH.cons (o := _) rfl (fun K hK => ?_) AllReadyH.nil
          have hbq : Below u3.heap.size u3 (u3.alloc (MBox 0 0 none 0 0)) := (Below.refl _ _).alloc (Nat.le_refl _) _
          have HB5 : Hid ((u3.alloc (MBox 0 0 none 0 0)).heap[u3.heap.size]? = some (MBox 0 0 none 0 0)) := nblkM _ _
          have HG4 : Hid (Fr3 w (u3.alloc (MBox 0 0 none 0 0)) p0 p1 (BBox rx cx sa n ka) (BBox ry cy sb m kb)) := HG3.out.call hbq
          have HI5 : Hid (p0 ≠ u3.heap.size ∧ p1 ≠ u3.heap.size ∧ w.heap.size ≤ u3.heap.size) := ⟨Nat.ne_of_lt (Array.getElem?_eq_some_iff.1 HG3.out.2.1).1, Nat.ne_of_lt (Array.getElem?_eq_some_iff.1 HG3.out.2.2).1, HG3.out.1.size⟩
          have HI45 : Hid (i4 ≠ u3.heap.size) := Nat.ne_of_lt (Array.getElem?_eq_some_iff.1 HB4.out).1
          have HB4 := hid (blkM HB4.out hbq)
          have HF1 := hid (HF1.out.below hbq)
          have HF2 := hid (HF2.out.below hbq)
          clear hbq
          go_simp
          go_wp2_with fail
          refine hK.out _ _ (HKS.out _ HG4) (fun hHeld4 => ?_)
          clear hK K
          try simp only [Act.put, List.setIfInBounds_toArray, List.set_cons_zero, List.set_cons_succ]
          obtain ⟨u4, hu4⟩ : ∃ X, Hid ((u3.alloc (MBox 0 0 none 0 0)) = X) := ⟨_, rfl⟩
          rw [hu4.out] at HB5 HG4 HB4 HF1 HF2
          have hy1 := hu4.out
          unfold MBox at hy1
          rw [hy1]
          obtain ⟨i5, hi5⟩ : ∃ X, Hid (u3.heap.size = X) := ⟨_, rfl⟩
          have hy2 := hi5.out
          rw [hi5.out] at HB5 HI5 HI45
          rw [hy2]
          clear hy1 hy2
          refine wpAnyH_ready (rs := [6]) (by kernel_rfl) (by simp) ?_
          refine AllReadyH.cons (o := _) rfl (fun K hK => ?_) AllReadyH.nil
          obtain ⟨z0, z1, z2⟩ := mcells_of HB4.out
          have fz := frzM HB4.out
          have HGE : Hid (Fr3 w (StoM u4 i4 rx cx ta n ca) p0 p1 (BBox rx cx sa n ka) (BBox ry cy sb m kb)) := HG4.out.sto HI4.out.1 HI4.out.2.1 HI4.out.2.2
          have HB5' : Hid ((StoM u4 i4 rx cx ta n ca).heap[i5]? = some (MBox 0 0 none 0 0)) := (StoM.keep (Ne.symm HI45.out)).trans HB5.out
          have HB4' : Hid ((StoM u4 i4 rx cx ta n ca).heap[i4]? = some (MBox rx cx ta n ca)) := mset HB4.out
          have HF1' := hid (sto_fl (r := rx) (c := cx) (sa := ta) (n := n) (cap := ca) HF1.out HB4.out)
          have HF2' := hid (sto_fl (r := rx) (c := cx) (sa := ta) (n := n) (cap := ca) HF2.out HB4.out)
          obtain ⟨U, hU⟩ : ∃ X, Hid (StoM u4 i4 rx cx ta n ca = X) := ⟨_, rfl⟩
          rw [hU.out] at HGE HB5' HB4' HF1' HF2'
          have hU' := hU.out
          unfold StoM at hU'
          go_simp
          go_wp2_with fail
          refine hK.out _ _ (HKS.out _ HGE) (fun hHeldE => ?_)
          clear hK K z0 z1 z2 fz
          try simp only [Act.put, List.setIfInBounds_toArray, List.set_cons_zero, List.set_cons_succ]
          refine wpAnyH_ready (rs := [7]) (by kernel_rfl) (by simp) ?_
          refine AllReadyH.cons (o := _) rfl (fun K hK => ?_) AllReadyH.nil
          obtain ⟨z0, z1, z2⟩ := mcells_of HB5'.out
          have fz := frzM HB5'.out
          have HGF : Hid (Fr3 w (StoM U i5 ry cy tb m cb) p0 p1 (BBox rx cx sa n ka) (BBox ry cy sb m kb)) := HGE.out.sto HI5.out.1 HI5.out.2.1 HI5.out.2.2
          have HB4'' : Hid ((StoM U i5 ry cy tb m cb).heap[i4]? = some (MBox rx cx ta n ca)) := (StoM.keep HI45.out).trans HB4'.out
          have HB5'' : Hid ((StoM U i5 ry cy tb m cb).heap[i5]? = some (MBox ry cy tb m cb)) := mset HB5'.out
          have HF1'' := hid (sto_fl (r := ry) (c := cy) (sa := tb) (n := m) (cap := cb) HF1'.out HB5'.out)
          have HF2'' := hid (sto_fl (r := ry) (c := cy) (sa := tb) (n := m) (cap := cb) HF2'.out HB5'.out)
          have HGF' := HGF
          unfold StoM at HGF'
          go_simp
          go_wp2_with fail
          refine hK.out _ _ (HKS.out _ HGF') (fun hHeldF => ?_)
          clear hK K
          try simp only [Act.put, List.setIfInBounds_toArray, List.set_cons_zero, List.set_cons_succ]
          refine wpAnyH_done (by kernel_rfl) ?_ _
          exact HR.out _ _ ⟨ta, ca, tb, cb, i4, i5, rfl, HB4''.out, HB5''.out, HI45.out, HF1''.out, HF2''.out, HGF.out⟩
        · have hbq : Below u2.heap.size u2 (u2.alloc (MBox 0 0 none 0 0)) := (Below.refl _ _).alloc (Nat.le_refl _) _
          have HB5 : Hid ((u2.alloc (MBox 0 0 none 0 0)).heap[u2.heap.size]? = some (MBox 0 0 none 0 0)) := nblkM _ _
          have HG3 : Hid (Fr3 w (u2.alloc (MBox 0 0 none 0 0)) p0 p1 (BBox rx cx sa n ka) (BBox ry cy sb m kb)) := HG2.out.call hbq
          have HI5 : Hid (p0 ≠ u2.heap.size ∧ p1 ≠ u2.heap.size ∧ w.heap.size ≤ u2.heap.size) := ⟨Nat.ne_of_lt (Array.getElem?_eq_some_iff.1 HG2.out.2.1).1, Nat.ne_of_lt (Array.getElem?_eq_some_iff.1 HG2.out.2.2).1, HG2.out.1.size⟩
          have HF1 := hid (HF1.out.below hbq)
          have HF2 := hid (HF2.out.below hbq)
          clear hbq
          go_simp
          go_wp2_with fail
          refine hK.out _ _ (HKS.out _ HG3) (fun hHeld3 => ?_)
          clear hK K
          try simp only [Act.put, List.setIfInBounds_toArray, List.set_cons_zero, List.set_cons_succ]
          obtain ⟨u3, hu3⟩ : ∃ X, Hid ((u2.alloc (MBox 0 0 none 0 0)) = X) := ⟨_, rfl⟩
          rw [hu3.out] at HB5 HG3 HF1 HF2
          have hy1 := hu3.out
          unfold MBox at hy1
          rw [hy1]
          obtain ⟨i5, hi5⟩ : ∃ X, Hid (u2.heap.size = X) := ⟨_, rfl⟩
          have hy2 := hi5.out
          rw [hi5.out] at HB5 HI5
          rw [hy2]
          clear hy1 hy2
          refine wpAnyH_ready (rs := [4]) (by kernel_rfl) (by simp) ?_
          refine AllReadyH.cons (o := _) rfl (fun K hK => ?_) AllReadyH.nil
          have hbq : Below u3.heap.size u3 (u3.alloc (MBox 0 0 none 0 0)) := (Below.refl _ _).alloc (Nat.le_refl _) _
          have HB4 : Hid ((u3.alloc (MBox 0 0 none 0 0)).heap[u3.heap.size]? = some (MBox 0 0 none 0 0)) := nblkM _ _
          have HG4 : Hid (Fr3 w (u3.alloc (MBox 0 0 none 0 0)) p0 p1 (BBox rx cx sa n ka) (BBox ry cy sb m kb)) := HG3.out.call hbq
          have HI4 : Hid (p0 ≠ u3.heap.size ∧ p1 ≠ u3.heap.size ∧ w.heap.size ≤ u3.heap.size) := ⟨Nat.ne_of_lt (Array.getElem?_eq_some_iff.1 HG3.out.2.1).1, Nat.ne_of_lt (Array.getElem?_eq_some_iff.1 HG3.out.2.2).1, HG3.out.1.size⟩
          have HI45 : Hid (u3.heap.size ≠ i5) := Ne.symm (Nat.ne_of_lt (Array.getElem?_eq_some_iff.1 HB5.out).1)
          have HB5 := hid (blkM HB5.out hbq)
          have HF1 := hid (HF1.out.below hbq)
          have HF2 := hid (HF2.out.below hbq)
          clear hbq
          go_simp
          go_wp2_with fail
          refine hK.out _ _ (HKS.out _ HG4) (fun hHeld4 => ?_)
          clear hK K
          try simp only [Act.put, List.setIfInBounds_toArray, List.set_cons_zero, List.set_cons_succ]
          obtain ⟨u4, hu4⟩ : ∃ X, Hid ((u3.alloc (MBox 0 0 none 0 0)) = X) := ⟨_, rfl⟩
          rw [hu4.out] at HB4 HG4 HB5 HF1 HF2
          have hy1 := hu4.out
          unfold MBox at hy1
          rw [hy1]
          obtain ⟨i4, hi4⟩ : ∃ X, Hid (u3.heap.size = X) := ⟨_, rfl⟩
          have hy2 := hi4.out
          rw [hi4.out] at HB4 HI4 HI45
          rw [hy2]
          clear hy1 hy2
          refine wpAnyH_ready (rs := [6]) (by kernel_rfl) (by simp) ?_
          refine AllReadyH.cons (o := _) rfl (fun K hK => ?_) AllReadyH.nil
          obtain ⟨z0, z1, z2⟩ := mcells_of HB4.out
          have fz := frzM HB4.out
          have HGE : Hid (Fr3 w (StoM u4 i4 rx cx ta n ca) p0 p1 (BBox rx cx sa n ka) (BBox ry cy sb m kb)) := HG4.out.sto HI4.out.1 HI4.out.2.1 HI4.out.2.2
          have HB5' : Hid ((StoM u4 i4 rx cx ta n ca).heap[i5]? = some (MBox 0 0 none 0 0)) := (StoM.keep (Ne.symm HI45.out)).trans HB5.out
          have HB4' : Hid ((StoM u4 i4 rx cx ta n ca).heap[i4]? = some (MBox rx cx ta n ca)) := mset HB4.out
          have HF1' := hid (sto_fl (r := rx) (c := cx) (sa := ta) (n := n) (cap := ca) HF1.out HB4.out)
          have HF2' := hid (sto_fl (r := rx) (c := cx) (sa := ta) (n := n) (cap := ca) HF2.out HB4.out)
          obtain ⟨U, hU⟩ : ∃ X, Hid (StoM u4 i4 rx cx ta n ca = X) := ⟨_, rfl⟩
          rw [hU.out] at HGE HB5' HB4' HF1' HF2'
          have hU' := hU.out
          unfold StoM at hU'
          go_simp
          go_wp2_with fail
          refine hK.out _ _ (HKS.out _ HGE) (fun hHeldE => ?_)
          clear hK K z0 z1 z2 fz
          try simp only [Act.put, List.setIfInBounds_toArray, List.set_cons_zero, List.set_cons_succ]
          refine wpAnyH_ready (rs := [7]) (by kernel_rfl) (by simp) ?_
          refine AllReadyH.cons (o := _) rfl (fun K hK => ?_) AllReadyH.nil
          obtain ⟨z0, z1, z2⟩ := mcells_of HB5'.out
          have fz := frzM HB5'.out
          have HGF : Hid (Fr3 w (StoM U i5 ry cy tb m cb) p0 p1 (BBox rx cx sa n ka) (BBox ry cy sb m kb)) := HGE.out.sto HI5.out.1 HI5.out.2.1 HI5.out.2.2
          have HB4'' : Hid ((StoM U i5 ry cy tb m cb).heap[i4]? = some (MBox rx cx ta n ca)) := (StoM.keep HI45.out).trans HB4'.out
          have HB5'' : Hid ((StoM U i5 ry cy tb m cb).heap[i5]? = some (MBox ry cy tb m cb)) := mset HB5'.out
          have HF1'' := hid (sto_fl (r := ry) (c := cy) (sa := tb) (n := m) (cap := cb) HF1'.out HB5'.out)
          have HF2'' := hid (sto_fl (r := ry) (c := cy) (sa := tb) (n := m) (cap := cb) HF2'.out HB5'.out)
          have HGF' := HGF
          unfold StoM at HGF'
          go_simp
          go_wp2_with fail
          refine hK.out _ _ (HKS.out _ HGF') (fun hHeldF => ?_)
          clear hK K
          try simp only [Act.put, List.setIfInBounds_toArray, List.set_cons_zero, List.set_cons_succ]
          refine wpAnyH_done (by kernel_rfl) ?_ _
          exact HR.out _ _ ⟨ta, ca, tb, cb, i4, i5, rfl, HB4''.out, HB5''.out, HI45.out, HF1''.out, HF2''.out, HGF.out⟩
      · have hbq : Below u1.heap.size u1 (u1.alloc (MBox 0 0 none 0 0)) := (Below.refl _ _).alloc (Nat.le_refl _) _
        have HB4 : Hid ((u1.alloc (MBox 0 0 none 0 0)).heap[u1.heap.size]? = some (MBox 0 0 none 0 0)) := nblkM _ _
        have HG2 : Hid (Fr3 w (u1.alloc (MBox 0 0 none 0 0)) p0 p1 (BBox rx cx sa n ka) (BBox ry cy sb m kb)) := HG1.out.call hbq
        have HI4 : Hid (p0 ≠ u1.heap.size ∧ p1 ≠ u1.heap.size ∧ w.heap.size ≤ u1.heap.size) := ⟨Nat.ne_of_lt (Array.getElem?_eq_some_iff.1 HG1.out.2.1).1, Nat.ne_of_lt (Array.getElem?_eq_some_iff.1 HG1.out.2.2).1, HG1.out.1.size⟩
        have HF1 := hid (HF1.out.below hbq)
        clear hbq
        go_simp
        go_wp2_with fail
        refine hK.out _ _ (HKS.out _ HG2) (fun hHeld2 => ?_)
        clear hK K
        try simp only [Act.put, List.setIfInBounds_toArray, List.set_cons_zero, List.set_cons_succ]
        obtain ⟨u2, hu2⟩ : ∃ X, Hid ((u1.alloc (MBox 0 0 none 0 0)) = X) := ⟨_, rfl⟩
        rw [hu2.out] at HB4 HG2 HF1
        have hy1 := hu2.out
        unfold MBox at hy1
        rw [hy1]
        obtain ⟨i4, hi4⟩ : ∃ X, Hid (u1.heap.size = X) := ⟨_, rfl⟩
        have hy2 := hi4.out
        rw [hi4.out] at HB4 HI4
        rw [hy2]
        clear hy1 hy2
        refine wpAnyH_ready (rs := [3, 5]) (by kernel_rfl) (by simp) ?_
        refine AllReadyH.cons (o := _) rfl (fun K hK => ?_) (AllReadyH.cons (o := _) rfl (fun K hK => ?_) AllReadyH.nil)
        · go_simp
          refine (HOY.out _ HG2.out.1).mono ?_
          rintro e u3 ⟨⟨tb, cb, rfl, hf⟩, hbq⟩
          have HF1 := hid (HF1.out.below hbq)
          have HF2 := hid hf
          have HG3 := hid (HG2.out.call hbq)
          have HB4 := hid (blkM HB4.out hbq)
          unfold MV
          clear hbq hf
          go_wp2_with fail
          refine hK.out _ _ (HKS.out _ HG3) (fun hHeld3 => ?_)
          clear hK K
          try simp only [Act.put, List.setIfInBounds_toArray, List.set_cons_zero, List.set_cons_succ]
          refine wpAnyH_ready (rs := [5]) (by kernel_rfl) (by simp) ?_
          refine AllReadyH.cons (o := _) rfl (fun K hK => ?_) AllReadyH.nil
          have hbq : Below u3.heap.size u3 (u3.alloc (MBox 0 0 none 0 0)) := (Below.refl _ _).alloc (Nat.le_refl _) _
          have HB5 : Hid ((u3.alloc (MBox 0 0 none 0 0)).heap[u3.heap.size]? = some (MBox 0 0 none 0 0)) := nblkM _ _
          have HG4 : Hid (Fr3 w (u3.alloc (MBox 0 0 none 0 0)) p0 p1 (BBox rx cx sa n ka) (BBox ry cy sb m kb)) := HG3.out.call hbq
          have HI5 : Hid (p0 ≠ u3.heap.size ∧ p1 ≠ u3.heap.size ∧ w.heap.size ≤ u3.heap.size) := ⟨Nat.ne_of_lt (Array.getElem?_eq_some_iff.1 HG3.out.2.1).1, Nat.ne_of_lt (Array.getElem?_eq_some_iff.1 HG3.out.2.2).1, HG3.out.1.size⟩
          have HI45 : Hid (i4 ≠ u3.heap.size) := Nat.ne_of_lt (Array.getElem?_eq_some_iff.1 HB4.out).1
          have HB4 := hid (blkM HB4.out hbq)
          have HF1 := hid (HF1.out.below hbq)
          have HF2 := hid (HF2.out.below hbq)
          clear hbq
          go_simp
          go_wp2_with fail
          refine hK.out _ _ (HKS.out _ HG4) (fun hHeld4 => ?_)
          clear hK K
          try simp only [Act.put, List.setIfInBounds_toArray, List.set_cons_zero, List.set_cons_succ]
          obtain ⟨u4, hu4⟩ : ∃ X, Hid ((u3.alloc (MBox 0 0 none 0 0)) = X) := ⟨_, rfl⟩
          rw [hu4.out] at HB5 HG4 HB4 HF1 HF2
          have hy1 := hu4.out
          unfold MBox at hy1
          rw [hy1]
          obtain ⟨i5, hi5⟩ : ∃ X, Hid (u3.heap.size = X) := ⟨_, rfl⟩
          have hy2 := hi5.out
          rw [hi5.out] at HB5 HI5 HI45
          rw [hy2]
          clear hy1 hy2
          refine wpAnyH_ready (rs := [6]) (by kernel_rfl) (by simp) ?_
          refine AllReadyH.cons (o := _) rfl (fun K hK => ?_) AllReadyH.nil
          obtain ⟨z0, z1, z2⟩ := mcells_of HB4.out
          have fz := frzM HB4.out
          have HGE : Hid (Fr3 w (StoM u4 i4 rx cx ta n ca) p0 p1 (BBox rx cx sa n ka) (BBox ry cy sb m kb)) := HG4.out.sto HI4.out.1 HI4.out.2.1 HI4.out.2.2
          have HB5' : Hid ((StoM u4 i4 rx cx ta n ca).heap[i5]? = some (MBox 0 0 none 0 0)) := (StoM.keep (Ne.symm HI45.out)).trans HB5.out
          have HB4' : Hid ((StoM u4 i4 rx cx ta n ca).heap[i4]? = some (MBox rx cx ta n ca)) := mset HB4.out
          have HF1' := hid (sto_fl (r := rx) (c := cx) (sa := ta) (n := n) (cap := ca) HF1.out HB4.out)
          have HF2' := hid (sto_fl (r := rx) (c := cx) (sa := ta) (n := n) (cap := ca) HF2.out HB4.out)
          obtain ⟨U, hU⟩ : ∃ X, Hid (StoM u4 i4 rx cx ta n ca = X) := ⟨_, rfl⟩
          rw [hU.out] at HGE HB5' HB4' HF1' HF2'
          have hU' := hU.out
          unfold StoM at hU'
          go_simp
          go_wp2_with fail
          refine hK.out _ _ (HKS.out _ HGE) (fun hHeldE => ?_)
          clear hK K z0 z1 z2 fz
          try simp only [Act.put, List.setIfInBounds_toArray, List.set_cons_zero, List.set_cons_succ]
          refine wpAnyH_ready (rs := [7]) (by kernel_rfl) (by simp) ?_
          refine AllReadyH.cons (o := _) rfl (fun K hK => ?_) AllReadyH.nil
          obtain ⟨z0, z1, z2⟩ := mcells_of HB5'.out
          have fz := frzM HB5'.out
          have HGF : Hid (Fr3 w (StoM U i5 ry cy tb m cb) p0 p1 (BBox rx cx sa n ka) (BBox ry cy sb m kb)) := HGE.out.sto HI5.out.1 HI5.out.2.1 HI5.out.2.2
          have HB4'' : Hid ((StoM U i5 ry cy tb m cb).heap[i4]? = some (MBox rx cx ta n ca)) := (StoM.keep HI45.out).trans HB4'.out
          have HB5'' : Hid ((StoM U i5 ry cy tb m cb).heap[i5]? = some (MBox ry cy tb m cb)) := mset HB5'.out
          have HF1'' := hid (sto_fl (r := ry) (c := cy) (sa := tb) (n := m) (cap := cb) HF1'.out HB5'.out)
          have HF2'' := hid (sto_fl (r := ry) (c := cy) (sa := tb) (n := m) (cap := cb) HF2'.out HB5'.out)
          have HGF' := HGF
          unfold StoM at HGF'
          go_simp
          go_wp2_with fail
          refine hK.out _ _ (HKS.out _ HGF') (fun hHeldF => ?_)
          clear hK K
          try simp only [Act.put, List.setIfInBounds_toArray, List.set_cons_zero, List.set_cons_succ]
          refine wpAnyH_done (by kernel_rfl) ?_ _
          exact HR.out _ _ ⟨ta, ca, tb, cb, i4, i5, rfl, HB4''.out, HB5''.out, HI45.out, HF1''.out, HF2''.out, HGF.out⟩
        · have hbq : Below u2.heap.size u2 (u2.alloc (MBox 0 0 none 0 0)) := (Below.refl _ _).alloc (Nat.le_refl _) _
          have HB5 : Hid ((u2.alloc (MBox 0 0 none 0 0)).heap[u2.heap.size]? = some (MBox 0 0 none 0 0)) := nblkM _ _
          have HG3 : Hid (Fr3 w (u2.alloc (MBox 0 0 none 0 0)) p0 p1 (BBox rx cx sa n ka) (BBox ry cy sb m kb)) := HG2.out.call hbq
          have HI5 : Hid (p0 ≠ u2.heap.size ∧ p1 ≠ u2.heap.size ∧ w.heap.size ≤ u2.heap.size) := ⟨Nat.ne_of_lt (Array.getElem?_eq_some_iff.1 HG2.out.2.1).1, Nat.ne_of_lt (Array.getElem?_eq_some_iff.1 HG2.out.2.2).1, HG2.out.1.size⟩
          have HI45 : Hid (i4 ≠ u2.heap.size) := Nat.ne_of_lt (Array.getElem?_eq_some_iff.1 HB4.out).1
          have HB4 := hid (blkM HB4.out hbq)
          have HF1 := hid (HF1.out.below hbq)
          clear hbq
          go_simp
          go_wp2_with fail
          refine hK.out _ _ (HKS.out _ HG3) (fun hHeld3 => ?_)
          clear hK K
          try simp only [Act.put, List.setIfInBounds_toArray, List.set_cons_zero, List.set_cons_succ]
          obtain ⟨u3, hu3⟩ : ∃ X, Hid ((u2.alloc (MBox 0 0 none 0 0)) = X) := ⟨_, rfl⟩
          rw [hu3.out] at HB5 HG3 HB4 HF1
          have hy1 := hu3.out
          unfold MBox at hy1
          rw [hy1]
          obtain ⟨i5, hi5⟩ : ∃ X, Hid (u2.heap.size = X) := ⟨_, rfl⟩
          have hy2 := hi5.out
          rw [hi5.out] at HB5 HI5 HI45
          rw [hy2]
          clear hy1 hy2
          refine wpAnyH_ready (rs := [3]) (by kernel_rfl) (by simp) ?_
          refine AllReadyH.cons (o := _) rfl (fun K hK => ?_) AllReadyH.nil
          go_simp
          refine (HOY.out _ HG3.out.1).mono ?_
          rintro e u4 ⟨⟨tb, cb, rfl, hf⟩, hbq⟩
          have HF1 := hid (HF1.out.below hbq)
          have HF2 := hid hf
          have HG4 := hid (HG3.out.call hbq)
          have HB4 := hid (blkM HB4.out hbq)
          have HB5 := hid (blkM HB5.out hbq)
          unfold MV
          clear hbq hf
          go_wp2_with fail
          refine hK.out _ _ (HKS.out _ HG4) (fun hHeld4 => ?_)
          clear hK K
          try simp only [Act.put, List.setIfInBounds_toArray, List.set_cons_zero, List.set_cons_succ]
          refine wpAnyH_ready (rs := [6]) (by kernel_rfl) (by simp) ?_
          refine AllReadyH.cons (o := _) rfl (fun K hK => ?_) AllReadyH.nil
          obtain ⟨z0, z1, z2⟩ := mcells_of HB4.out
          have fz := frzM HB4.out
          have HGE : Hid (Fr3 w (StoM u4 i4 rx cx ta n ca) p0 p1 (BBox rx cx sa n ka) (BBox ry cy sb m kb)) := HG4.out.sto HI4.out.1 HI4.out.2.1 HI4.out.2.2
          have HB5' : Hid ((StoM u4 i4 rx cx ta n ca).heap[i5]? = some (MBox 0 0 none 0 0)) := (StoM.keep (Ne.symm HI45.out)).trans HB5.out
          have HB4' : Hid ((StoM u4 i4 rx cx ta n ca).heap[i4]? = some (MBox rx cx ta n ca)) := mset HB4.out
          have HF1' := hid (sto_fl (r := rx) (c := cx) (sa := ta) (n := n) (cap := ca) HF1.out HB4.out)
          have HF2' := hid (sto_fl (r := rx) (c := cx) (sa := ta) (n := n) (cap := ca) HF2.out HB4.out)
          obtain ⟨U, hU⟩ : ∃ X, Hid (StoM u4 i4 rx cx ta n ca = X) := ⟨_, rfl⟩
          rw [hU.out] at HGE HB5' HB4' HF1' HF2'
          have hU' := hU.out
          unfold StoM at hU'
          go_simp
          go_wp2_with fail
          refine hK.out _ _ (HKS.out _ HGE) (fun hHeldE => ?_)
          clear hK K z0 z1 z2 fz
          try simp only [Act.put, List.setIfInBounds_toArray, List.set_cons_zero, List.set_cons_succ]
          refine wpAnyH_ready (rs := [7]) (by kernel_rfl) (by simp) ?_
          refine AllReadyH.cons (o := _) rfl (fun K hK => ?_) AllReadyH.nil
          obtain ⟨z0, z1, z2⟩ := mcells_of HB5'.out
          have fz := frzM HB5'.out
          have HGF : Hid (Fr3 w (StoM U i5 ry cy tb m cb) p0 p1 (BBox rx cx sa n ka) (BBox ry cy sb m kb)) := HGE.out.sto HI5.out.1 HI5.out.2.1 HI5.out.2.2
          have HB4'' : Hid ((StoM U i5 ry cy tb m cb).heap[i4]? = some (MBox rx cx ta n ca)) := (StoM.keep HI45.out).trans HB4'.out
          have HB5'' : Hid ((StoM U i5 ry cy tb m cb).heap[i5]? = some (MBox ry cy tb m cb)) := mset HB5'.out
          have HF1'' := hid (sto_fl (r := ry) (c := cy) (sa := tb) (n := m) (cap := cb) HF1'.out HB5'.out)
          have HF2'' := hid (sto_fl (r := ry) (c := cy) (sa := tb) (n := m) (cap := cb) HF2'.out HB5'.out)
          have HGF' := HGF
          unfold StoM at HGF'
          go_simp
          go_wp2_with fail
          refine hK.out _ _ (HKS.out _ HGF') (fun hHeldF => ?_)
          clear hK K
          try simp only [Act.put, List.setIfInBounds_toArray, List.set_cons_zero, List.set_cons_succ]
          refine wpAnyH_done (by kernel_rfl) ?_ _
          exact HR.out _ _ ⟨ta, ca, tb, cb, i4, i5, rfl, HB4''.out, HB5''.out, HI45.out, HF1''.out, HF2''.out, HGF.out⟩
      · have hbq : Below u1.heap.size u1 (u1.alloc (MBox 0 0 none 0 0)) := (Below.refl _ _).alloc (Nat.le_refl _) _
        have HB5 : Hid ((u1.alloc (MBox 0 0 none 0 0)).heap[u1.heap.size]? = some (MBox 0 0 none 0 0)) := nblkM _ _
        have HG2 : Hid (Fr3 w (u1.alloc (MBox 0 0 none 0 0)) p0 p1 (BBox rx cx sa n ka) (BBox ry cy sb m kb)) := HG1.out.call hbq
        have HI5 : Hid (p0 ≠ u1.heap.size ∧ p1 ≠ u1.heap.size ∧ w.heap.size ≤ u1.heap.size) := ⟨Nat.ne_of_lt (Array.getElem?_eq_some_iff.1 HG1.out.2.1).1, Nat.ne_of_lt (Array.getElem?_eq_some_iff.1 HG1.out.2.2).1, HG1.out.1.size⟩
        have HF1 := hid (HF1.out.below hbq)
        clear hbq
        go_simp
        go_wp2_with fail
        refine hK.out _ _ (HKS.out _ HG2) (fun hHeld2 => ?_)
        clear hK K
        try simp only [Act.put, List.setIfInBounds_toArray, List.set_cons_zero, List.set_cons_succ]
        obtain ⟨u2, hu2⟩ : ∃ X, Hid ((u1.alloc (MBox 0 0 none 0 0)) = X) := ⟨_, rfl⟩
        rw [hu2.out] at HB5 HG2 HF1
        have hy1 := hu2.out
        unfold MBox at hy1
        rw [hy1]
        obtain ⟨i5, hi5⟩ : ∃ X, Hid (u1.heap.size = X) := ⟨_, rfl⟩
        have hy2 := hi5.out
        rw [hi5.out] at HB5 HI5
        rw [hy2]
        clear hy1 hy2
        refine wpAnyH_ready (rs := [3, 4]) (by kernel_rfl) (by simp) ?_
        refine AllReadyH.cons (o := _) rfl (fun K hK => ?_) (AllReadyH.cons (o := _) rfl (fun K hK => ?_) AllReadyH.nil)
        · go_simp
          refine (HOY.out _ HG2.out.1).mono ?_
          rintro e u3 ⟨⟨tb, cb, rfl, hf⟩, hbq⟩
          have HF1 := hid (HF1.out.below hbq)
          have HF2 := hid hf
          have HG3 := hid (HG2.out.call hbq)
          have HB5 := hid (blkM HB5.out hbq)
          unfold MV
          clear hbq hf
          go_wp2_with fail
          refine hK.out _ _ (HKS.out _ HG3) (fun hHeld3 => ?_)
          clear hK K
          try simp only [Act.put, List.setIfInBounds_toArray, List.set_cons_zero, List.set_cons_succ]
          refine wpAnyH_ready (rs := [4]) (by kernel_rfl) (by simp) ?_
          refine AllReadyH.cons (o := _) rfl (fun K hK => ?_) AllReadyH.nil
          have hbq : Below u3.heap.size u3 (u3.alloc (MBox 0 0 none 0 0)) := (Below.refl _ _).alloc (Nat.le_refl _) _
          have HB4 : Hid ((u3.alloc (MBox 0 0 none 0 0)).heap[u3.heap.size]? = some (MBox 0 0 none 0 0)) := nblkM _ _
          have HG4 : Hid (Fr3 w (u3.alloc (MBox 0 0 none 0 0)) p0 p1 (BBox rx cx sa n ka) (BBox ry cy sb m kb)) := HG3.out.call hbq
          have HI4 : Hid (p0 ≠ u3.heap.size ∧ p1 ≠ u3.heap.size ∧ w.heap.size ≤ u3.heap.size) := ⟨Nat.ne_of_lt (Array.getElem?_eq_some_iff.1 HG3.out.2.1).1, Nat.ne_of_lt (Array.getElem?_eq_some_iff.1 HG3.out.2.2).1, HG3.out.1.size⟩
          have HI45 : Hid (u3.heap.size ≠ i5) := Ne.symm (Nat.ne_of_lt (Array.getElem?_eq_some_iff.1 HB5.out).1)
          have HB5 := hid (blkM HB5.out hbq)
          have HF1 := hid (HF1.out.below hbq)
          have HF2 := hid (HF2.out.below hbq)
          clear hbq
          go_simp
          go_wp2_with fail
          refine hK.out _ _ (HKS.out _ HG4) (fun hHeld4 => ?_)
          clear hK K
          try simp only [Act.put, List.setIfInBounds_toArray, List.set_cons_zero, List.set_cons_succ]
          obtain ⟨u4, hu4⟩ : ∃ X, Hid ((u3.alloc (MBox 0 0 none 0 0)) = X) := ⟨_, rfl⟩
          rw [hu4.out] at HB4 HG4 HB5 HF1 HF2
          have hy1 := hu4.out
          unfold MBox at hy1
          rw [hy1]
          obtain ⟨i4, hi4⟩ : ∃ X, Hid (u3.heap.size = X) := ⟨_, rfl⟩
          have hy2 := hi4.out
          rw [hi4.out] at HB4 HI4 HI45
          rw [hy2]
          clear hy1 hy2
          refine wpAnyH_ready (rs := [6]) (by kernel_rfl) (by simp) ?_
          refine AllReadyH.cons (o := _) rfl (fun K hK => ?_) AllReadyH.nil
          obtain ⟨z0, z1, z2⟩ := mcells_of HB4.out
          have fz := frzM HB4.out
          have HGE : Hid (Fr3 w (StoM u4 i4 rx cx ta n ca) p0 p1 (BBox rx cx sa n ka) (BBox ry cy sb m kb)) := HG4.out.sto HI4.out.1 HI4.out.2.1 HI4.out.2.2
          have HB5' : Hid ((StoM u4 i4 rx cx ta n ca).heap[i5]? = some (MBox 0 0 none 0 0)) := (StoM.keep (Ne.symm HI45.out)).trans HB5.out
          have HB4' : Hid ((StoM u4 i4 rx cx ta n ca).heap[i4]? = some (MBox rx cx ta n ca)) := mset HB4.out
          have HF1' := hid (sto_fl (r := rx) (c := cx) (sa := ta) (n := n) (cap := ca) HF1.out HB4.out)
          have HF2' := hid (sto_fl (r := rx) (c := cx) (sa := ta) (n := n) (cap := ca) HF2.out HB4.out)
          obtain ⟨U, hU⟩ : ∃ X, Hid (StoM u4 i4 rx cx ta n ca = X) := ⟨_, rfl⟩
          rw [hU.out] at HGE HB5' HB4' HF1' HF2'
          have hU' := hU.out
          unfold StoM at hU'
          go_simp
          go_wp2_with fail
          refine hK.out _ _ (HKS.out _ HGE) (fun hHeldE => ?_)
          clear hK K z0 z1 z2 fz
          try simp only [Act.put, List.setIfInBounds_toArray, List.set_cons_zero, List.set_cons_succ]
          refine wpAnyH_ready (rs := [7]) (by kernel_rfl) (by simp) ?_
          refine AllReadyH.cons (o := _) rfl (fun K hK => ?_) AllReadyH.nil
          obtain ⟨z0, z1, z2⟩ := mcells_of HB5'.out
          have fz := frzM HB5'.out
          have HGF : Hid (Fr3 w (StoM U i5 ry cy tb m cb) p0 p1 (BBox rx cx sa n ka) (BBox ry cy sb m kb)) := HGE.out.sto HI5.out.1 HI5.out.2.1 HI5.out.2.2
          have HB4'' : Hid ((StoM U i5 ry cy tb m cb).heap[i4]? = some (MBox rx cx ta n ca)) := (StoM.keep HI45.out).trans HB4'.out
          have HB5'' : Hid ((StoM U i5 ry cy tb m cb).heap[i5]? = some (MBox ry cy tb m cb)) := mset HB5'.out
          have HF1'' := hid (sto_fl (r := ry) (c := cy) (sa := tb) (n := m) (cap := cb) HF1'.out HB5'.out)
          have HF2'' := hid (sto_fl (r := ry) (c := cy) (sa := tb) (n := m) (cap := cb) HF2'.out HB5'.out)
          have HGF' := HGF
          unfold StoM at HGF'
          go_simp
          go_wp2_with fail
          refine hK.out _ _ (HKS.out _ HGF') (fun hHeldF => ?_)
          clear hK K
          try simp only [Act.put, List.setIfInBounds_toArray, List.set_cons_zero, List.set_cons_succ]
          refine wpAnyH_done (by kernel_rfl) ?_ _
          exact HR.out _ _ ⟨ta, ca, tb, cb, i4, i5, rfl, HB4''.out, HB5''.out, HI45.out, HF1''.out, HF2''.out, HGF.out⟩
        · have hbq : Below u2.heap.size u2 (u2.alloc (MBox 0 0 none 0 0)) := (Below.refl _ _).alloc (Nat.le_refl _) _
          have HB4 : Hid ((u2.alloc (MBox 0 0 none 0 0)).heap[u2.heap.size]? = some (MBox 0 0 none 0 0)) := nblkM _ _
          have HG3 : Hid (Fr3 w (u2.alloc (MBox 0 0 none 0 0)) p0 p1 (BBox rx cx sa n ka) (BBox ry cy sb m kb)) := HG2.out.call hbq
          have HI4 : Hid (p0 ≠ u2.heap.size ∧ p1 ≠ u2.heap.size ∧ w.heap.size ≤ u2.heap.size) := ⟨Nat.ne_of_lt (Array.getElem?_eq_some_iff.1 HG2.out.2.1).1, Nat.ne_of_lt (Array.getElem?_eq_some_iff.1 HG2.out.2.2).1, HG2.out.1.size⟩
          have HI45 : Hid (u2.heap.size ≠ i5) := Ne.symm (Nat.ne_of_lt (Array.getElem?_eq_some_iff.1 HB5.out).1)
          have HB5 := hid (blkM HB5.out hbq)
          have HF1 := hid (HF1.out.below hbq)
          clear hbq
          go_simp
          go_wp2_with fail
          refine hK.out _ _ (HKS.out _ HG3) (fun hHeld3 => ?_)
          clear hK K
          try simp only [Act.put, List.setIfInBounds_toArray, List.set_cons_zero, List.set_cons_succ]
          obtain ⟨u3, hu3⟩ : ∃ X, Hid ((u2.alloc (MBox 0 0 none 0 0)) = X) := ⟨_, rfl⟩
          rw [hu3.out] at HB4 HG3 HB5 HF1
          have hy1 := hu3.out
          unfold MBox at hy1
          rw [hy1]
          obtain ⟨i4, hi4⟩ : ∃ X, Hid (u2.heap.size = X) := ⟨_, rfl⟩
          have hy2 := hi4.out
          rw [hi4.out] at HB4 HI4 HI45
          rw [hy2]
          clear hy1 hy2
          refine wpAnyH_ready (rs := [3]) (by kernel_rfl) (by simp) ?_
          refine AllReadyH.cons (o := _) rfl (fun K hK => ?_) AllReadyH.nil
          go_simp
          refine (HOY.out _ HG3.out.1).mono ?_
          rintro e u4 ⟨⟨tb, cb, rfl, hf⟩, hbq⟩
          have HF1 := hid (HF1.out.below hbq)
          have HF2 := hid hf
          have HG4 := hid (HG3.out.call hbq)
          have HB5 := hid (blkM HB5.out hbq)
          have HB4 := hid (blkM HB4.out hbq)
          unfold MV
          clear hbq hf
          go_wp2_with fail
          refine hK.out _ _ (HKS.out _ HG4) (fun hHeld4 => ?_)
          clear hK K
          try simp only [Act.put, List.setIfInBounds_toArray, List.set_cons_zero, List.set_cons_succ]
          refine wpAnyH_ready (rs := [6]) (by kernel_rfl) (by simp) ?_
          refine AllReadyH.cons (o := _) rfl (fun K hK => ?_) AllReadyH.nil
          obtain ⟨z0, z1, z2⟩ := mcells_of HB4.out
          have fz := frzM HB4.out
          have HGE : Hid (Fr3 w (StoM u4 i4 rx cx ta n ca) p0 p1 (BBox rx cx sa n ka) (BBox ry cy sb m kb)) := HG4.out.sto HI4.out.1 HI4.out.2.1 HI4.out.2.2
          have HB5' : Hid ((StoM u4 i4 rx cx ta n ca).heap[i5]? = some (MBox 0 0 none 0 0)) := (StoM.keep (Ne.symm HI45.out)).trans HB5.out
          have HB4' : Hid ((StoM u4 i4 rx cx ta n ca).heap[i4]? = some (MBox rx cx ta n ca)) := mset HB4.out
          have HF1' := hid (sto_fl (r := rx) (c := cx) (sa := ta) (n := n) (cap := ca) HF1.out HB4.out)
          have HF2' := hid (sto_fl (r := rx) (c := cx) (sa := ta) (n := n) (cap := ca) HF2.out HB4.out)
          obtain ⟨U, hU⟩ : ∃ X, Hid (StoM u4 i4 rx cx ta n ca = X) := ⟨_, rfl⟩
          rw [hU.out] at HGE HB5' HB4' HF1' HF2'
          have hU' := hU.out
          unfold StoM at hU'
          go_simp
          go_wp2_with fail
          refine hK.out _ _ (HKS.out _ HGE) (fun hHeldE => ?_)
          clear hK K z0 z1 z2 fz
          try simp only [Act.put, List.setIfInBounds_toArray, List.set_cons_zero, List.set_cons_succ]
          refine wpAnyH_ready (rs := [7]) (by kernel_rfl) (by simp) ?_
          refine AllReadyH.cons (o := _) rfl (fun K hK => ?_) AllReadyH.nil
          obtain ⟨z0, z1, z2⟩ := mcells_of HB5'.out
          have fz := frzM HB5'.out
          have HGF : Hid (Fr3 w (StoM U i5 ry cy tb m cb) p0 p1 (BBox rx cx sa n ka) (BBox ry cy sb m kb)) := HGE.out.sto HI5.out.1 HI5.out.2.1 HI5.out.2.2
          have HB4'' : Hid ((StoM U i5 ry cy tb m cb).heap[i4]? = some (MBox rx cx ta n ca)) := (StoM.keep HI45.out).trans HB4'.out
          have HB5'' : Hid ((StoM U i5 ry cy tb m cb).heap[i5]? = some (MBox ry cy tb m cb)) := mset HB5'.out
          have HF1'' := hid (sto_fl (r := ry) (c := cy) (sa := tb) (n := m) (cap := cb) HF1'.out HB5'.out)
          have HF2'' := hid (sto_fl (r := ry) (c := cy) (sa := tb) (n := m) (cap := cb) HF2'.out HB5'.out)
          have HGF' := HGF
          unfold StoM at HGF'
          go_simp
          go_wp2_with fail
          refine hK.out _ _ (HKS.out _ HGF') (fun hHeldF => ?_)
          clear hK K
          try simp only [Act.put, List.setIfInBounds_toArray, List.set_cons_zero, List.set_cons_succ]
          refine wpAnyH_done (by kernel_rfl) ?_ _
          exact HR.out _ _ ⟨ta, ca, tb, cb, i4, i5, rfl, HB4''.out, HB5''.out, HI45.out, HF1''.out, HF2''.out, HGF.out⟩
    · have hbq : Below w1.drew.heap.size w1.drew (w1.drew.alloc (MBox 0 0 none 0 0)) := (Below.refl _ _).alloc (Nat.le_refl _) _
      have HB4 : Hid ((w1.drew.alloc (MBox 0 0 none 0 0)).heap[w1.drew.heap.size]? = some (MBox 0 0 none 0 0)) := nblkM _ _
      have HG1 : Hid (Fr3 w (w1.drew.alloc (MBox 0 0 none 0 0)) p0 p1 (BBox rx cx sa n ka) (BBox ry cy sb m kb)) := HG0.out.call hbq
      have HI4 : Hid (p0 ≠ w1.drew.heap.size ∧ p1 ≠ w1.drew.heap.size ∧ w.heap.size ≤ w1.drew.heap.size) := ⟨Nat.ne_of_lt (Array.getElem?_eq_some_iff.1 HG0.out.2.1).1, Nat.ne_of_lt (Array.getElem?_eq_some_iff.1 HG0.out.2.2).1, HG0.out.1.size⟩
      clear hbq
      go_simp
      go_wp2_with fail
      refine hK.out _ _ (HKS.out _ HG1) (fun hHeld1 => ?_)
      clear hK K
      try simp only [Act.put, List.setIfInBounds_toArray, List.set_cons_zero, List.set_cons_succ]
      obtain ⟨u1, hu1⟩ : ∃ X, Hid ((w1.drew.alloc (MBox 0 0 none 0 0)) = X) := ⟨_, rfl⟩
      rw [hu1.out] at HB4 HG1
      have hy1 : (w1.alloc (.cells #[.int .i64 0, .int .i64 0, .slice none 0 0] 28)).drew = u1 := hu1.out
      rw [hy1]
      obtain ⟨i4, hi4⟩ : ∃ X, Hid (w1.drew.heap.size = X) := ⟨_, rfl⟩
      have hy2 : w1.heap.size = i4 := hi4.out
      rw [hi4.out] at HB4 HI4
      rw [hy2]
      clear hy1 hy2
      refine wpAnyH_ready (rs := [1, 5]) (by kernel_rfl) (by simp) ?_
      refine AllReadyH.cons (o := _) rfl (fun K hK => ?_) (AllReadyH.cons (o := _) rfl (fun K hK => ?_) AllReadyH.nil)
      · go_simp
        refine (HOX.out _ HG1.out.1).mono ?_
        rintro e u2 ⟨⟨ta, ca, rfl, hf⟩, hbq⟩
        have HF1 := hid hf
        have HG2 := hid (HG1.out.call hbq)
        have HB4 := hid (blkM HB4.out hbq)
        unfold MV
        clear hbq hf
        go_wp2_with fail
        refine hK.out _ _ (HKS.out _ HG2) (fun hHeld2 => ?_)
        clear hK K
        try simp only [Act.put, List.setIfInBounds_toArray, List.set_cons_zero, List.set_cons_succ]
        refine wpAnyH_ready (rs := [3, 5]) (by kernel_rfl) (by simp) ?_
        refine AllReadyH.cons (o := _) rfl (fun K hK => ?_) (AllReadyH.cons (o := _) rfl (fun K hK => ?_) AllReadyH.nil)
        · go_simp
          refine (HOY.out _ HG2.out.1).mono ?_
          rintro e u3 ⟨⟨tb, cb, rfl, hf⟩, hbq⟩
          have HF1 := hid (HF1.out.below hbq)
          have HF2 := hid hf
          have HG3 := hid (HG2.out.call hbq)
          have HB4 := hid (blkM HB4.out hbq)
          unfold MV
          clear hbq hf
          go_wp2_with fail
          refine hK.out _ _ (HKS.out _ HG3) (fun hHeld3 => ?_)
          clear hK K
          try simp only [Act.put, List.setIfInBounds_toArray, List.set_cons_zero, List.set_cons_succ]
          refine wpAnyH_ready (rs := [5]) (by kernel_rfl) (by simp) ?_
          refine AllReadyH.cons (o := _) rfl (fun K hK => ?_) AllReadyH.nil
          have hbq : Below u3.heap.size u3 (u3.alloc (MBox 0 0 none 0 0)) := (Below.refl _ _).alloc (Nat.le_refl _) _
          have HB5 : Hid ((u3.alloc (MBox 0 0 none 0 0)).heap[u3.heap.size]? = some (MBox 0 0 none 0 0)) := nblkM _ _
          have HG4 : Hid (Fr3 w (u3.alloc (MBox 0 0 none 0 0)) p0 p1 (BBox rx cx sa n ka) (BBox ry cy sb m kb)) := HG3.out.call hbq
          have HI5 : Hid (p0 ≠ u3.heap.size ∧ p1 ≠ u3.heap.size ∧ w.heap.size ≤ u3.heap.size) := ⟨Nat.ne_of_lt (Array.getElem?_eq_some_iff.1 HG3.out.2.1).1, Nat.ne_of_lt (Array.getElem?_eq_some_iff.1 HG3.out.2.2).1, HG3.out.1.size⟩
          have HI45 : Hid (i4 ≠ u3.heap.size) := Nat.ne_of_lt (Array.getElem?_eq_some_iff.1 HB4.out).1
          have HB4 := hid (blkM HB4.out hbq)
          have HF1 := hid (HF1.out.below hbq)
          have HF2 := hid (HF2.out.below hbq)
          clear hbq
          go_simp
          go_wp2_with fail
          refine hK.out _ _ (HKS.out _ HG4) (fun hHeld4 => ?_)
          clear hK K
          try simp only [Act.put, List.setIfInBounds_toArray, List.set_cons_zero, List.set_cons_succ]
          obtain ⟨u4, hu4⟩ : ∃ X, Hid ((u3.alloc (MBox 0 0 none 0 0)) = X) := ⟨_, rfl⟩
          rw [hu4.out] at HB5 HG4 HB4 HF1 HF2
          have hy1 := hu4.out
          unfold MBox at hy1
          rw [hy1]
          obtain ⟨i5, hi5⟩ : ∃ X, Hid (u3.heap.size = X) := ⟨_, rfl⟩
          have hy2 := hi5.out
          rw [hi5.out] at HB5 HI5 HI45
          rw [hy2]
          clear hy1 hy2
          refine wpAnyH_ready (rs := [6]) (by kernel_rfl) (by simp) ?_
          refine AllReadyH.cons (o := _) rfl (fun K hK => ?_) AllReadyH.nil
          obtain ⟨z0, z1, z2⟩ := mcells_of HB4.out
          have fz := frzM HB4.out
          have HGE : Hid (Fr3 w (StoM u4 i4 rx cx ta n ca) p0 p1 (BBox rx cx sa n ka) (BBox ry cy sb m kb)) := HG4.out.sto HI4.out.1 HI4.out.2.1 HI4.out.2.2
          have HB5' : Hid ((StoM u4 i4 rx cx ta n ca).heap[i5]? = some (MBox 0 0 none 0 0)) := (StoM.keep (Ne.symm HI45.out)).trans HB5.out
          have HB4' : Hid ((StoM u4 i4 rx cx ta n ca).heap[i4]? = some (MBox rx cx ta n ca)) := mset HB4.out
          have HF1' := hid (sto_fl (r := rx) (c := cx) (sa := ta) (n := n) (cap := ca) HF1.out HB4.out)
          have HF2' := hid (sto_fl (r := rx) (c := cx) (sa := ta) (n := n) (cap := ca) HF2.out HB4.out)
          obtain ⟨U, hU⟩ : ∃ X, Hid (StoM u4 i4 rx cx ta n ca = X) := ⟨_, rfl⟩
          rw [hU.out] at HGE HB5' HB4' HF1' HF2'
          have hU' := hU.out
          unfold StoM at hU'
          go_simp
          go_wp2_with fail
          refine hK.out _ _ (HKS.out _ HGE) (fun hHeldE => ?_)
          clear hK K z0 z1 z2 fz
          try simp only [Act.put, List.setIfInBounds_toArray, List.set_cons_zero, List.set_cons_succ]
          refine wpAnyH_ready (rs := [7]) (by kernel_rfl) (by simp) ?_
          refine AllReadyH.cons (o := _) rfl (fun K hK => ?_) AllReadyH.nil
          obtain ⟨z0, z1, z2⟩ := mcells_of HB5'.out
          have fz := frzM HB5'.out
          have HGF : Hid (Fr3 w (StoM U i5 ry cy tb m cb) p0 p1 (BBox rx cx sa n ka) (BBox ry cy sb m kb)) := HGE.out.sto HI5.out.1 HI5.out.2.1 HI5.out.2.2
          have HB4'' : Hid ((StoM U i5 ry cy tb m cb).heap[i4]? = some (MBox rx cx ta n ca)) := (StoM.keep HI45.out).trans HB4'.out
          have HB5'' : Hid ((StoM U i5 ry cy tb m cb).heap[i5]? = some (MBox ry cy tb m cb)) := mset HB5'.out
          have HF1'' := hid (sto_fl (r := ry) (c := cy) (sa := tb) (n := m) (cap := cb) HF1'.out HB5'.out)
          have HF2'' := hid (sto_fl (r := ry) (c := cy) (sa := tb) (n := m) (cap := cb) HF2'.out HB5'.out)
          have HGF' := HGF
          unfold StoM at HGF'
          go_simp
          go_wp2_with fail
          refine hK.out _ _ (HKS.out _ HGF') (fun hHeldF => ?_)
          clear hK K
          try simp only [Act.put, List.setIfInBounds_toArray, List.set_cons_zero, List.set_cons_succ]
          refine wpAnyH_done (by kernel_rfl) ?_ _
          exact HR.out _ _ ⟨ta, ca, tb, cb, i4, i5, rfl, HB4''.out, HB5''.out, HI45.out, HF1''.out, HF2''.out, HGF.out⟩
        · have hbq : Below u2.heap.size u2 (u2.alloc (MBox 0 0 none 0 0)) := (Below.refl _ _).alloc (Nat.le_refl _) _
          have HB5 : Hid ((u2.alloc (MBox 0 0 none 0 0)).heap[u2.heap.size]? = some (MBox 0 0 none 0 0)) := nblkM _ _
          have HG3 : Hid (Fr3 w (u2.alloc (MBox 0 0 none 0 0)) p0 p1 (BBox rx cx sa n ka) (BBox ry cy sb m kb)) := HG2.out.call hbq
          have HI5 : Hid (p0 ≠ u2.heap.size ∧ p1 ≠ u2.heap.size ∧ w.heap.size ≤ u2.heap.size) := ⟨Nat.ne_of_lt (Array.getElem?_eq_some_iff.1 HG2.out.2.1).1, Nat.ne_of_lt (Array.getElem?_eq_some_iff.1 HG2.out.2.2).1, HG2.out.1.size⟩
          have HI45 : Hid (i4 ≠ u2.heap.size) := Nat.ne_of_lt (Array.getElem?_eq_some_iff.1 HB4.out).1
          have HB4 := hid (blkM HB4.out hbq)
          have HF1 := hid (HF1.out.below hbq)
          clear hbq
          go_simp
          go_wp2_with fail
          refine hK.out _ _ (HKS.out _ HG3) (fun hHeld3 => ?_)
          clear hK K
          try simp only [Act.put, List.setIfInBounds_toArray, List.set_cons_zero, List.set_cons_succ]
          obtain ⟨u3, hu3⟩ : ∃ X, Hid ((u2.alloc (MBox 0 0 none 0 0)) = X) := ⟨_, rfl⟩
          rw [hu3.out] at HB5 HG3 HB4 HF1
          have hy1 := hu3.out
          unfold MBox at hy1
          rw [hy1]
          obtain ⟨i5, hi5⟩ : ∃ X, Hid (u2.heap.size = X) := ⟨_, rfl⟩
          have hy2 := hi5.out
          rw [hi5.out] at HB5 HI5 HI45
          rw [hy2]
          clear hy1 hy2
          refine wpAnyH_ready (rs := [3]) (by kernel_rfl) (by simp) ?_
          refine AllReadyH.cons (o := _) rfl (fun K hK => ?_) AllReadyH.nil
          go_simp
          refine (HOY.out _ HG3.out.1).mono ?_
          rintro e u4 ⟨⟨tb, cb, rfl, hf⟩, hbq⟩
          have HF1 := hid (HF1.out.below hbq)
          have HF2 := hid hf
          have HG4 := hid (HG3.out.call hbq)
          have HB4 := hid (blkM HB4.out hbq)
          have HB5 := hid (blkM HB5.out hbq)
          unfold MV
          clear hbq hf
          go_wp2_with fail
          refine hK.out _ _ (HKS.out _ HG4) (fun hHeld4 => ?_)
          clear hK K
          try simp only [Act.put, List.setIfInBounds_toArray, List.set_cons_zero, List.set_cons_succ]
          refine wpAnyH_ready (rs := [6]) (by kernel_rfl) (by simp) ?_
          refine AllReadyH.cons (o := _) rfl (fun K hK => ?_) AllReadyH.nil
          obtain ⟨z0, z1, z2⟩ := mcells_of HB4.out
          have fz := frzM HB4.out
          have HGE : Hid (Fr3 w (StoM u4 i4 rx cx ta n ca) p0 p1 (BBox rx cx sa n ka) (BBox ry cy sb m kb)) := HG4.out.sto HI4.out.1 HI4.out.2.1 HI4.out.2.2
          have HB5' : Hid ((StoM u4 i4 rx cx ta n ca).heap[i5]? = some (MBox 0 0 none 0 0)) := (StoM.keep (Ne.symm HI45.out)).trans HB5.out
          have HB4' : Hid ((StoM u4 i4 rx cx ta n ca).heap[i4]? = some (MBox rx cx ta n ca)) := mset HB4.out
          have HF1' := hid (sto_fl (r := rx) (c := cx) (sa := ta) (n := n) (cap := ca) HF1.out HB4.out)
          have HF2' := hid (sto_fl (r := rx) (c := cx) (sa := ta) (n := n) (cap := ca) HF2.out HB4.out)
          obtain ⟨U, hU⟩ : ∃ X, Hid (StoM u4 i4 rx cx ta n ca = X) := ⟨_, rfl⟩
          rw [hU.out] at HGE HB5' HB4' HF1' HF2'
          have hU' := hU.out
          unfold StoM at hU'
          go_simp
          go_wp2_with fail
          refine hK.out _ _ (HKS.out _ HGE) (fun hHeldE => ?_)
          clear hK K z0 z1 z2 fz
          try simp only [Act.put, List.setIfInBounds_toArray, List.set_cons_zero, List.set_cons_succ]
          refine wpAnyH_ready (rs := [7]) (by kernel_rfl) (by simp) ?_
          refine AllReadyH.cons (o := _) rfl (fun K hK => ?_) AllReadyH.nil
          obtain ⟨z0, z1, z2⟩ := mcells_of HB5'.out
          have fz := frzM HB5'.out
          have HGF : Hid (Fr3 w (StoM U i5 ry cy tb m cb) p0 p1 (BBox rx cx sa n ka) (BBox ry cy sb m kb)) := HGE.out.sto HI5.out.1 HI5.out.2.1 HI5.out.2.2
          have HB4'' : Hid ((StoM U i5 ry cy tb m cb).heap[i4]? = some (MBox rx cx ta n ca)) := (StoM.keep HI45.out).trans HB4'.out
          have HB5'' : Hid ((StoM U i5 ry cy tb m cb).heap[i5]? = some (MBox ry cy tb m cb)) := mset HB5'.out
          have HF1'' := hid (sto_fl (r := ry) (c := cy) (sa := tb) (n := m) (cap := cb) HF1'.out HB5'.out)
          have HF2'' := hid (sto_fl (r := ry) (c := cy) (sa := tb) (n := m) (cap := cb) HF2'.out HB5'.out)
          have HGF' := HGF
          unfold StoM at HGF'
          go_simp
          go_wp2_with fail
          refine hK.out _ _ (HKS.out _ HGF') (fun hHeldF => ?_)
          clear hK K
          try simp only [Act.put, List.setIfInBounds_toArray, List.set_cons_zero, List.set_cons_succ]
          refine wpAnyH_done (by kernel_rfl) ?_ _
          exact HR.out _ _ ⟨ta, ca, tb, cb, i4, i5, rfl, HB4''.out, HB5''.out, HI45.out, HF1''.out, HF2''.out, HGF.out⟩
      · have hbq : Below u1.heap.size u1 (u1.alloc (MBox 0 0 none 0 0)) := (Below.refl _ _).alloc (Nat.le_refl _) _
        have HB5 : Hid ((u1.alloc (MBox 0 0 none 0 0)).heap[u1.heap.size]? = some (MBox 0 0 none 0 0)) := nblkM _ _
        have HG2 : Hid (Fr3 w (u1.alloc (MBox 0 0 none 0 0)) p0 p1 (BBox rx cx sa n ka) (BBox ry cy sb m kb)) := HG1.out.call hbq
        have HI5 : Hid (p0 ≠ u1.heap.size ∧ p1 ≠ u1.heap.size ∧ w.heap.size ≤ u1.heap.size) := ⟨Nat.ne_of_lt (Array.getElem?_eq_some_iff.1 HG1.out.2.1).1, Nat.ne_of_lt (Array.getElem?_eq_some_iff.1 HG1.out.2.2).1, HG1.out.1.size⟩
        have HI45 : Hid (i4 ≠ u1.heap.size) := Nat.ne_of_lt (Array.getElem?_eq_some_iff.1 HB4.out).1
        have HB4 := hid (blkM HB4.out hbq)
        clear hbq
        go_simp
        go_wp2_with fail
        refine hK.out _ _ (HKS.out _ HG2) (fun hHeld2 => ?_)
        clear hK K
        try simp only [Act.put, List.setIfInBounds_toArray, List.set_cons_zero, List.set_cons_succ]
        obtain ⟨u2, hu2⟩ : ∃ X, Hid ((u1.alloc (MBox 0 0 none 0 0)) = X) := ⟨_, rfl⟩
        rw [hu2.out] at HB5 HG2 HB4
        have hy1 := hu2.out
        unfold MBox at hy1
        rw [hy1]
        obtain ⟨i5, hi5⟩ : ∃ X, Hid (u1.heap.size = X) := ⟨_, rfl⟩
        have hy2 := hi5.out
        rw [hi5.out] at HB5 HI5 HI45
        rw [hy2]
        clear hy1 hy2
        refine wpAnyH_ready (rs := [1]) (by kernel_rfl) (by simp) ?_
        refine AllReadyH.cons (o := _) rfl (fun K hK => ?_) AllReadyH.nil
        go_simp
        refine (HOX.out _ HG2.out.1).mono ?_
        rintro e u3 ⟨⟨ta, ca, rfl, hf⟩, hbq⟩
        have HF1 := hid hf
        have HG3 := hid (HG2.out.call hbq)
        have HB4 := hid (blkM HB4.out hbq)
        have HB5 := hid (blkM HB5.out hbq)
        unfold MV
        clear hbq hf
        go_wp2_with fail
        refine hK.out _ _ (HKS.out _ HG3) (fun hHeld3 => ?_)
        clear hK K
        try simp only [Act.put, List.setIfInBounds_toArray, List.set_cons_zero, List.set_cons_succ]
        refine wpAnyH_ready (rs := [3]) (by kernel_rfl) (by simp) ?_
        refine AllReadyH.cons (o := _) rfl (fun K hK => ?_) AllReadyH.nil
        go_simp
        refine (HOY.out _ HG3.out.1).mono ?_
        rintro e u4 ⟨⟨tb, cb, rfl, hf⟩, hbq⟩
        have HF1 := hid (HF1.out.below hbq)
        have HF2 := hid hf
        have HG4 := hid (HG3.out.call hbq)
        have HB4 := hid (blkM HB4.out hbq)
        have HB5 := hid (blkM HB5.out hbq)
        unfold MV
        clear hbq hf
        go_wp2_with fail
        refine hK.out _ _ (HKS.out _ HG4) (fun hHeld4 => ?_)
        clear hK K
        try simp only [Act.put, List.setIfInBounds_toArray, List.set_cons_zero, List.set_cons_succ]
        refine wpAnyH_ready (rs := [6]) (by kernel_rfl) (by simp) ?_
        refine AllReadyH.cons (o := _) rfl (fun K hK => ?_) AllReadyH.nil
        obtain ⟨z0, z1, z2⟩ := mcells_of HB4.out
        have fz := frzM HB4.out
        have HGE : Hid (Fr3 w (StoM u4 i4 rx cx ta n ca) p0 p1 (BBox rx cx sa n ka) (BBox ry cy sb m kb)) := HG4.out.sto HI4.out.1 HI4.out.2.1 HI4.out.2.2
        have HB5' : Hid ((StoM u4 i4 rx cx ta n ca).heap[i5]? = some (MBox 0 0 none 0 0)) := (StoM.keep (Ne.symm HI45.out)).trans HB5.out
        have HB4' : Hid ((StoM u4 i4 rx cx ta n ca).heap[i4]? = some (MBox rx cx ta n ca)) := mset HB4.out
        have HF1' := hid (sto_fl (r := rx) (c := cx) (sa := ta) (n := n) (cap := ca) HF1.out HB4.out)
        have HF2' := hid (sto_fl (r := rx) (c := cx) (sa := ta) (n := n) (cap := ca) HF2.out HB4.out)
        obtain ⟨U, hU⟩ : ∃ X, Hid (StoM u4 i4 rx cx ta n ca = X) := ⟨_, rfl⟩
        rw [hU.out] at HGE HB5' HB4' HF1' HF2'
        have hU' := hU.out
        unfold StoM at hU'
        go_simp
        go_wp2_with fail
        refine hK.out _ _ (HKS.out _ HGE) (fun hHeldE => ?_)
        clear hK K z0 z1 z2 fz
        try simp only [Act.put, List.setIfInBounds_toArray, List.set_cons_zero, List.set_cons_succ]
        refine wpAnyH_ready (rs := [7]) (by kernel_rfl) (by simp) ?_
        refine AllReadyH.cons (o := _) rfl (fun K hK => ?_) AllReadyH.nil
        obtain ⟨z0, z1, z2⟩ := mcells_of HB5'.out
        have fz := frzM HB5'.out
        have HGF : Hid (Fr3 w (StoM U i5 ry cy tb m cb) p0 p1 (BBox rx cx sa n ka) (BBox ry cy sb m kb)) := HGE.out.sto HI5.out.1 HI5.out.2.1 HI5.out.2.2
        have HB4'' : Hid ((StoM U i5 ry cy tb m cb).heap[i4]? = some (MBox rx cx ta n ca)) := (StoM.keep HI45.out).trans HB4'.out
        have HB5'' : Hid ((StoM U i5 ry cy tb m cb).heap[i5]? = some (MBox ry cy tb m cb)) := mset HB5'.out
        have HF1'' := hid (sto_fl (r := ry) (c := cy) (sa := tb) (n := m) (cap := cb) HF1'.out HB5'.out)
        have HF2'' := hid (sto_fl (r := ry) (c := cy) (sa := tb) (n := m) (cap := cb) HF2'.out HB5'.out)
        have HGF' := HGF
        unfold StoM at HGF'
        go_simp
        go_wp2_with fail
        refine hK.out _ _ (HKS.out _ HGF') (fun hHeldF => ?_)
        clear hK K
        try simp only [Act.put, List.setIfInBounds_toArray, List.set_cons_zero, List.set_cons_succ]
        refine wpAnyH_done (by kernel_rfl) ?_ _
        exact HR.out _ _ ⟨ta, ca, tb, cb, i4, i5, rfl, HB4''.out, HB5''.out, HI45.out, HF1''.out, HF2''.out, HGF.out⟩
    · have hbq : Below w1.drew.heap.size w1.drew (w1.drew.alloc (MBox 0 0 none 0 0)) := (Below.refl _ _).alloc (Nat.le_refl _) _
      have HB5 : Hid ((w1.drew.alloc (MBox 0 0 none 0 0)).heap[w1.drew.heap.size]? = some (MBox 0 0 none 0 0)) := nblkM _ _
      have HG1 : Hid (Fr3 w (w1.drew.alloc (MBox 0 0 none 0 0)) p0 p1 (BBox rx cx sa n ka) (BBox ry cy sb m kb)) := HG0.out.call hbq
      have HI5 : Hid (p0 ≠ w1.drew.heap.size ∧ p1 ≠ w1.drew.heap.size ∧ w.heap.size ≤ w1.drew.heap.size) := ⟨Nat.ne_of_lt (Array.getElem?_eq_some_iff.1 HG0.out.2.1).1, Nat.ne_of_lt (Array.getElem?_eq_some_iff.1 HG0.out.2.2).1, HG0.out.1.size⟩
      clear hbq
      go_simp
      go_wp2_with fail
      refine hK.out _ _ (HKS.out _ HG1) (fun hHeld1 => ?_)
      clear hK K
      try simp only [Act.put, List.setIfInBounds_toArray, List.set_cons_zero, List.set_cons_succ]
      obtain ⟨u1, hu1⟩ : ∃ X, Hid ((w1.drew.alloc (MBox 0 0 none 0 0)) = X) := ⟨_, rfl⟩
      rw [hu1.out] at HB5 HG1
      have hy1 : (w1.alloc (.cells #[.int .i64 0, .int .i64 0, .slice none 0 0] 28)).drew = u1 := hu1.out
      rw [hy1]
      obtain ⟨i5, hi5⟩ : ∃ X, Hid (w1.drew.heap.size = X) := ⟨_, rfl⟩
      have hy2 : w1.heap.size = i5 := hi5.out
      rw [hi5.out] at HB5 HI5
      rw [hy2]
      clear hy1 hy2
      refine wpAnyH_ready (rs := [1, 4]) (by kernel_rfl) (by simp) ?_
      refine AllReadyH.cons (o := _) rfl (fun K hK => ?_) (AllReadyH.cons (o := _) rfl (fun K hK => ?_) AllReadyH.nil)
      · go_simp
        refine (HOX.out _ HG1.out.1).mono ?_
        rintro e u2 ⟨⟨ta, ca, rfl, hf⟩, hbq⟩
        have HF1 := hid hf
        have HG2 := hid (HG1.out.call hbq)
        have HB5 := hid (blkM HB5.out hbq)
        unfold MV
        clear hbq hf
        go_wp2_with fail
        refine hK.out _ _ (HKS.out _ HG2) (fun hHeld2 => ?_)
        clear hK K
        try simp only [Act.put, List.setIfInBounds_toArray, List.set_cons_zero, List.set_cons_succ]
        refine wpAnyH_ready (rs := [3, 4]) (by kernel_rfl) (by simp) ?_
        refine AllReadyH.cons (o := _) rfl (fun K hK => ?_) (AllReadyH.cons (o := _) rfl (fun K hK => ?_) AllReadyH.nil)
        · go_simp
          refine (HOY.out _ HG2.out.1).mono ?_
          rintro e u3 ⟨⟨tb, cb, rfl, hf⟩, hbq⟩
          have HF1 := hid (HF1.out.below hbq)
          have HF2 := hid hf
          have HG3 := hid (HG2.out.call hbq)
          have HB5 := hid (blkM HB5.out hbq)
          unfold MV
          clear hbq hf
          go_wp2_with fail
          refine hK.out _ _ (HKS.out _ HG3) (fun hHeld3 => ?_)
          clear hK K
          try simp only [Act.put, List.setIfInBounds_toArray, List.set_cons_zero, List.set_cons_succ]
          refine wpAnyH_ready (rs := [4]) (by kernel_rfl) (by simp) ?_
          refine AllReadyH.cons (o := _) rfl (fun K hK => ?_) AllReadyH.nil
          have hbq : Below u3.heap.size u3 (u3.alloc (MBox 0 0 none 0 0)) := (Below.refl _ _).alloc (Nat.le_refl _) _
          have HB4 : Hid ((u3.alloc (MBox 0 0 none 0 0)).heap[u3.heap.size]? = some (MBox 0 0 none 0 0)) := nblkM _ _
          have HG4 : Hid (Fr3 w (u3.alloc (MBox 0 0 none 0 0)) p0 p1 (BBox rx cx sa n ka) (BBox ry cy sb m kb)) := HG3.out.call hbq
          have HI4 : Hid (p0 ≠ u3.heap.size ∧ p1 ≠ u3.heap.size ∧ w.heap.size ≤ u3.heap.size) := ⟨Nat.ne_of_lt (Array.getElem?_eq_some_iff.1 HG3.out.2.1).1, Nat.ne_of_lt (Array.getElem?_eq_some_iff.1 HG3.out.2.2).1, HG3.out.1.size⟩
          have HI45 : Hid (u3.heap.size ≠ i5) := Ne.symm (Nat.ne_of_lt (Array.getElem?_eq_some_iff.1 HB5.out).1)
          have HB5 := hid (blkM HB5.out hbq)
          have HF1 := hid (HF1.out.below hbq)
          have HF2 := hid (HF2.out.below hbq)
          clear hbq
          go_simp
          go_wp2_with fail
          refine hK.out _ _ (HKS.out _ HG4) (fun hHeld4 => ?_)
          clear hK K
          try simp only [Act.put, List.setIfInBounds_toArray, List.set_cons_zero, List.set_cons_succ]
          obtain ⟨u4, hu4⟩ : ∃ X, Hid ((u3.alloc (MBox 0 0 none 0 0)) = X) := ⟨_, rfl⟩
          rw [hu4.out] at HB4 HG4 HB5 HF1 HF2
          have hy1 := hu4.out
          unfold MBox at hy1
          rw [hy1]
          obtain ⟨i4, hi4⟩ : ∃ X, Hid (u3.heap.size = X) := ⟨_, rfl⟩
          have hy2 := hi4.out
          rw [hi4.out] at HB4 HI4 HI45
          rw [hy2]
          clear hy1 hy2
          refine wpAnyH_ready (rs := [6]) (by kernel_rfl) (by simp) ?_
          refine AllReadyH.cons (o := _) rfl (fun K hK => ?_) AllReadyH.nil
          obtain ⟨z0, z1, z2⟩ := mcells_of HB4.out
          have fz := frzM HB4.out
          have HGE : Hid (Fr3 w (StoM u4 i4 rx cx ta n ca) p0 p1 (BBox rx cx sa n ka) (BBox ry cy sb m kb)) := HG4.out.sto HI4.out.1 HI4.out.2.1 HI4.out.2.2
          have HB5' : Hid ((StoM u4 i4 rx cx ta n ca).heap[i5]? = some (MBox 0 0 none 0 0)) := (StoM.keep (Ne.symm HI45.out)).trans HB5.out
          have HB4' : Hid ((StoM u4 i4 rx cx ta n ca).heap[i4]? = some (MBox rx cx ta n ca)) := mset HB4.out
          have HF1' := hid (sto_fl (r := rx) (c := cx) (sa := ta) (n := n) (cap := ca) HF1.out HB4.out)
          have HF2' := hid (sto_fl (r := rx) (c := cx) (sa := ta) (n := n) (cap := ca) HF2.out HB4.out)
          obtain ⟨U, hU⟩ : ∃ X, Hid (StoM u4 i4 rx cx ta n ca = X) := ⟨_, rfl⟩
          rw [hU.out] at HGE HB5' HB4' HF1' HF2'
          have hU' := hU.out
          unfold StoM at hU'
          go_simp
          go_wp2_with fail
          refine hK.out _ _ (HKS.out _ HGE) (fun hHeldE => ?_)
          clear hK K z0 z1 z2 fz
          try simp only [Act.put, List.setIfInBounds_toArray, List.set_cons_zero, List.set_cons_succ]
          refine wpAnyH_ready (rs := [7]) (by kernel_rfl) (by simp) ?_
          refine AllReadyH.cons (o := _) rfl (fun K hK => ?_) AllReadyH.nil
          obtain ⟨z0, z1, z2⟩ := mcells_of HB5'.out
          have fz := frzM HB5'.out
          have HGF : Hid (Fr3 w (StoM U i5 ry cy tb m cb) p0 p1 (BBox rx cx sa n ka) (BBox ry cy sb m kb)) := HGE.out.sto HI5.out.1 HI5.out.2.1 HI5.out.2.2
          have HB4'' : Hid ((StoM U i5 ry cy tb m cb).heap[i4]? = some (MBox rx cx ta n ca)) := (StoM.keep HI45.out).trans HB4'.out
          have HB5'' : Hid ((StoM U i5 ry cy tb m cb).heap[i5]? = some (MBox ry cy tb m cb)) := mset HB5'.out
          have HF1'' := hid (sto_fl (r := ry) (c := cy) (sa := tb) (n := m) (cap := cb) HF1'.out HB5'.out)
          have HF2'' := hid (sto_fl (r := ry) (c := cy) (sa := tb) (n := m) (cap := cb) HF2'.out HB5'.out)
          have HGF' := HGF
          unfold StoM at HGF'
          go_simp
          go_wp2_with fail
          refine hK.out _ _ (HKS.out _ HGF') (fun hHeldF => ?_)
          clear hK K
          try simp only [Act.put, List.setIfInBounds_toArray, List.set_cons_zero, List.set_cons_succ]
          refine wpAnyH_done (by kernel_rfl) ?_ _
          exact HR.out _ _ ⟨ta, ca, tb, cb, i4, i5, rfl, HB4''.out, HB5''.out, HI45.out, HF1''.out, HF2''.out, HGF.out⟩
        · have hbq : Below u2.heap.size u2 (u2.alloc (MBox 0 0 none 0 0)) := (Below.refl _ _).alloc (Nat.le_refl _) _
          have HB4 : Hid ((u2.alloc (MBox 0 0 none 0 0)).heap[u2.heap.size]? = some (MBox 0 0 none 0 0)) := nblkM _ _
          have HG3 : Hid (Fr3 w (u2.alloc (MBox 0 0 none 0 0)) p0 p1 (BBox rx cx sa n ka) (BBox ry cy sb m kb)) := HG2.out.call hbq
          have HI4 : Hid (p0 ≠ u2.heap.size ∧ p1 ≠ u2.heap.size ∧ w.heap.size ≤ u2.heap.size) := ⟨Nat.ne_of_lt (Array.getElem?_eq_some_iff.1 HG2.out.2.1).1, Nat.ne_of_lt (Array.getElem?_eq_some_iff.1 HG2.out.2.2).1, HG2.out.1.size⟩
          have HI45 : Hid (u2.heap.size ≠ i5) := Ne.symm (Nat.ne_of_lt (Array.getElem?_eq_some_iff.1 HB5.out).1)
          have HB5 := hid (blkM HB5.out hbq)
          have HF1 := hid (HF1.out.below hbq)
          clear hbq
          go_simp
          go_wp2_with fail
          refine hK.out _ _ (HKS.out _ HG3) (fun hHeld3 => ?_)
          clear hK K
          try simp only [Act.put, List.setIfInBounds_toArray, List.set_cons_zero, List.set_cons_succ]
          obtain ⟨u3, hu3⟩ : ∃ X, Hid ((u2.alloc (MBox 0 0 none 0 0)) = X) := ⟨_, rfl⟩
          rw [hu3.out] at HB4 HG3 HB5 HF1
          have hy1 := hu3.out
          unfold MBox at hy1
          rw [hy1]
          obtain ⟨i4, hi4⟩ : ∃ X, Hid (u2.heap.size = X) := ⟨_, rfl⟩
          have hy2 := hi4.out
          rw [hi4.out] at HB4 HI4 HI45
          rw [hy2]
          clear hy1 hy2
          refine wpAnyH_ready (rs := [3]) (by kernel_rfl) (by simp) ?_
          refine AllReadyH.cons (o := _) rfl (fun K hK => ?_) AllReadyH.nil
          go_simp
          refine (HOY.out _ HG3.out.1).mono ?_
          rintro e u4 ⟨⟨tb, cb, rfl, hf⟩, hbq⟩
          have HF1 := hid (HF1.out.below hbq)
          have HF2 := hid hf
          have HG4 := hid (HG3.out.call hbq)
          have HB5 := hid (blkM HB5.out hbq)
          have HB4 := hid (blkM HB4.out hbq)
          unfold MV
          clear hbq hf
          go_wp2_with fail
          refine hK.out _ _ (HKS.out _ HG4) (fun hHeld4 => ?_)
          clear hK K
          try simp only [Act.put, List.setIfInBounds_toArray, List.set_cons_zero, List.set_cons_succ]
          refine wpAnyH_ready (rs := [6]) (by kernel_rfl) (by simp) ?_
          refine AllReadyH.cons (o := _) rfl (fun K hK => ?_) AllReadyH.nil
          obtain ⟨z0, z1, z2⟩ := mcells_of HB4.out
          have fz := frzM HB4.out
          have HGE : Hid (Fr3 w (StoM u4 i4 rx cx ta n ca) p0 p1 (BBox rx cx sa n ka) (BBox ry cy sb m kb)) := HG4.out.sto HI4.out.1 HI4.out.2.1 HI4.out.2.2
          have HB5' : Hid ((StoM u4 i4 rx cx ta n ca).heap[i5]? = some (MBox 0 0 none 0 0)) := (StoM.keep (Ne.symm HI45.out)).trans HB5.out
          have HB4' : Hid ((StoM u4 i4 rx cx ta n ca).heap[i4]? = some (MBox rx cx ta n ca)) := mset HB4.out
          have HF1' := hid (sto_fl (r := rx) (c := cx) (sa := ta) (n := n) (cap := ca) HF1.out HB4.out)
          have HF2' := hid (sto_fl (r := rx) (c := cx) (sa := ta) (n := n) (cap := ca) HF2.out HB4.out)
          obtain ⟨U, hU⟩ : ∃ X, Hid (StoM u4 i4 rx cx ta n ca = X) := ⟨_, rfl⟩
          rw [hU.out] at HGE HB5' HB4' HF1' HF2'
          have hU' := hU.out
          unfold StoM at hU'
          go_simp
          go_wp2_with fail
          refine hK.out _ _ (HKS.out _ HGE) (fun hHeldE => ?_)
          clear hK K z0 z1 z2 fz
          try simp only [Act.put, List.setIfInBounds_toArray, List.set_cons_zero, List.set_cons_succ]
          refine wpAnyH_ready (rs := [7]) (by kernel_rfl) (by simp) ?_
          refine AllReadyH.cons (o := _) rfl (fun K hK => ?_) AllReadyH.nil
          obtain ⟨z0, z1, z2⟩ := mcells_of HB5'.out
          have fz := frzM HB5'.out
          have HGF : Hid (Fr3 w (StoM U i5 ry cy tb m cb) p0 p1 (BBox rx cx sa n ka) (BBox ry cy sb m kb)) := HGE.out.sto HI5.out.1 HI5.out.2.1 HI5.out.2.2
          have HB4'' : Hid ((StoM U i5 ry cy tb m cb).heap[i4]? = some (MBox rx cx ta n ca)) := (StoM.keep HI45.out).trans HB4'.out
          have HB5'' : Hid ((StoM U i5 ry cy tb m cb).heap[i5]? = some (MBox ry cy tb m cb)) := mset HB5'.out
          have HF1'' := hid (sto_fl (r := ry) (c := cy) (sa := tb) (n := m) (cap := cb) HF1'.out HB5'.out)
          have HF2'' := hid (sto_fl (r := ry) (c := cy) (sa := tb) (n := m) (cap := cb) HF2'.out HB5'.out)
          have HGF' := HGF
          unfold StoM at HGF'
          go_simp
          go_wp2_with fail
          refine hK.out _ _ (HKS.out _ HGF') (fun hHeldF => ?_)
          clear hK K
          try simp only [Act.put, List.setIfInBounds_toArray, List.set_cons_zero, List.set_cons_succ]
          refine wpAnyH_done (by kernel_rfl) ?_ _
          exact HR.out _ _ ⟨ta, ca, tb, cb, i4, i5, rfl, HB4''.out, HB5''.out, HI45.out, HF1''.out, HF2''.out, HGF.out⟩
      · have hbq : Below u1.heap.size u1 (u1.alloc (MBox 0 0 none 0 0)) := (Below.refl _ _).alloc (Nat.le_refl _) _
        have HB4 : Hid ((u1.alloc (MBox 0 0 none 0 0)).heap[u1.heap.size]? = some (MBox 0 0 none 0 0)) := nblkM _ _
        have HG2 : Hid (Fr3 w (u1.alloc (MBox 0 0 none 0 0)) p0 p1 (BBox rx cx sa n ka) (BBox ry cy sb m kb)) := HG1.out.call hbq
        have HI4 : Hid (p0 ≠ u1.heap.size ∧ p1 ≠ u1.heap.size ∧ w.heap.size ≤ u1.heap.size) := ⟨Nat.ne_of_lt (Array.getElem?_eq_some_iff.1 HG1.out.2.1).1, Nat.ne_of_lt (Array.getElem?_eq_some_iff.1 HG1.out.2.2).1, HG1.out.1.size⟩
        have HI45 : Hid (u1.heap.size ≠ i5) := Ne.symm (Nat.ne_of_lt (Array.getElem?_eq_some_iff.1 HB5.out).1)
        have HB5 := hid (blkM HB5.out hbq)
        clear hbq
        go_simp
        go_wp2_with fail
        refine hK.out _ _ (HKS.out _ HG2) (fun hHeld2 => ?_)
        clear hK K
        try simp only [Act.put, List.setIfInBounds_toArray, List.set_cons_zero, List.set_cons_succ]
        obtain ⟨u2, hu2⟩ : ∃ X, Hid ((u1.alloc (MBox 0 0 none 0 0)) = X) := ⟨_, rfl⟩
        rw [hu2.out] at HB4 HG2 HB5
        have hy1 := hu2.out
        unfold MBox at hy1
        rw [hy1]
        obtain ⟨i4, hi4⟩ : ∃ X, Hid (u1.heap.size = X) := ⟨_, rfl⟩
        have hy2 := hi4.out
        rw [hi4.out] at HB4 HI4 HI45
        rw [hy2]
        clear hy1 hy2
        refine wpAnyH_ready (rs := [1]) (by kernel_rfl) (by simp) ?_
        refine AllReadyH.cons (o := _) rfl (fun K hK => ?_) AllReadyH.nil
        go_simp
        refine (HOX.out _ HG2.out.1).mono ?_
        rintro e u3 ⟨⟨ta, ca, rfl, hf⟩, hbq⟩
        have HF1 := hid hf
        have HG3 := hid (HG2.out.call hbq)
        have HB5 := hid (blkM HB5.out hbq)
        have HB4 := hid (blkM HB4.out hbq)
        unfold MV
        clear hbq hf
        go_wp2_with fail
        refine hK.out _ _ (HKS.out _ HG3) (fun hHeld3 => ?_)
        clear hK K
        try simp only [Act.put, List.setIfInBounds_toArray, List.set_cons_zero, List.set_cons_succ]
        refine wpAnyH_ready (rs := [3]) (by kernel_rfl) (by simp) ?_
        refine AllReadyH.cons (o := _) rfl (fun K hK => ?_) AllReadyH.nil
        go_simp
        refine (HOY.out _ HG3.out.1).mono ?_
        rintro e u4 ⟨⟨tb, cb, rfl, hf⟩, hbq⟩
        have HF1 := hid (HF1.out.below hbq)
        have HF2 := hid hf
        have HG4 := hid (HG3.out.call hbq)
        have HB5 := hid (blkM HB5.out hbq)
        have HB4 := hid (blkM HB4.out hbq)
        unfold MV
        clear hbq hf
        go_wp2_with fail
        refine hK.out _ _ (HKS.out _ HG4) (fun hHeld4 => ?_)
        clear hK K
        try simp only [Act.put, List.setIfInBounds_toArray, List.set_cons_zero, List.set_cons_succ]
        refine wpAnyH_ready (rs := [6]) (by kernel_rfl) (by simp) ?_
        refine AllReadyH.cons (o := _) rfl (fun K hK => ?_) AllReadyH.nil
        obtain ⟨z0, z1, z2⟩ := mcells_of HB4.out
        have fz := frzM HB4.out
        have HGE : Hid (Fr3 w (StoM u4 i4 rx cx ta n ca) p0 p1 (BBox rx cx sa n ka) (BBox ry cy sb m kb)) := HG4.out.sto HI4.out.1 HI4.out.2.1 HI4.out.2.2
        have HB5' : Hid ((StoM u4 i4 rx cx ta n ca).heap[i5]? = some (MBox 0 0 none 0 0)) := (StoM.keep (Ne.symm HI45.out)).trans HB5.out
        have HB4' : Hid ((StoM u4 i4 rx cx ta n ca).heap[i4]? = some (MBox rx cx ta n ca)) := mset HB4.out
        have HF1' := hid (sto_fl (r := rx) (c := cx) (sa := ta) (n := n) (cap := ca) HF1.out HB4.out)
        have HF2' := hid (sto_fl (r := rx) (c := cx) (sa := ta) (n := n) (cap := ca) HF2.out HB4.out)
        obtain ⟨U, hU⟩ : ∃ X, Hid (StoM u4 i4 rx cx ta n ca = X) := ⟨_, rfl⟩
        rw [hU.out] at HGE HB5' HB4' HF1' HF2'
        have hU' := hU.out
        unfold StoM at hU'
        go_simp
        go_wp2_with fail
        refine hK.out _ _ (HKS.out _ HGE) (fun hHeldE => ?_)
        clear hK K z0 z1 z2 fz
        try simp only [Act.put, List.setIfInBounds_toArray, List.set_cons_zero, List.set_cons_succ]
        refine wpAnyH_ready (rs := [7]) (by kernel_rfl) (by simp) ?_
        refine AllReadyH.cons (o := _) rfl (fun K hK => ?_) AllReadyH.nil
        obtain ⟨z0, z1, z2⟩ := mcells_of HB5'.out
        have fz := frzM HB5'.out
        have HGF : Hid (Fr3 w (StoM U i5 ry cy tb m cb) p0 p1 (BBox rx cx sa n ka) (BBox ry cy sb m kb)) := HGE.out.sto HI5.out.1 HI5.out.2.1 HI5.out.2.2
        have HB4'' : Hid ((StoM U i5 ry cy tb m cb).heap[i4]? = some (MBox rx cx ta n ca)) := (StoM.keep HI45.out).trans HB4'.out
        have HB5'' : Hid ((StoM U i5 ry cy tb m cb).heap[i5]? = some (MBox ry cy tb m cb)) := mset HB5'.out
        have HF1'' := hid (sto_fl (r := ry) (c := cy) (sa := tb) (n := m) (cap := cb) HF1'.out HB5'.out)
        have HF2'' := hid (sto_fl (r := ry) (c := cy) (sa := tb) (n := m) (cap := cb) HF2'.out HB5'.out)
        have HGF' := HGF
        unfold StoM at HGF'
        go_simp
        go_wp2_with fail
        refine hK.out _ _ (HKS.out _ HGF') (fun hHeldF => ?_)
        clear hK K
        try simp only [Act.put, List.setIfInBounds_toArray, List.set_cons_zero, List.set_cons_succ]
        refine wpAnyH_done (by kernel_rfl) ?_ _
        exact HR.out _ _ ⟨ta, ca, tb, cb, i4, i5, rfl, HB4''.out, HB5''.out, HI45.out, HF1''.out, HF2''.out, HGF.out⟩
  · rintro a' w2 ⟨ta, ca, tb, cb, ia, ib, rfl, hia, hib, hab, hfa, hfb, hfr⟩
    simp only [Act.put, List.setIfInBounds_toArray, List.set_cons_zero, List.set_cons_succ]
    have HB := hid hfr.1
    have HIA := hid hia
    have HIB := hid hib
    have HFA := hid hfa
    have HFB := hid hfb
    have HSA := hid (fun W (hA : FlM W ta n ca xs) (hB : FlM W tb m cb ys) => Sand_any rx cx ry cy n m ta tb ca cb xs ys W hA hB HNM.out.1 HNM.out.2)
    have HCA := hid (fun W (h : FlM W ta n ca xs) => Check_any rx cx ta n ca xs W h HNM.out.1)
    unfold MV at HCA
    clear hia hib hfa hfb hfr hab HKS HQQ HG0 HV0
    obtain ⟨c00, c01, c02⟩ := mcells_of HIA.out
    obtain ⟨c10, c11, c12⟩ := mcells_of HIB.out
    go_wp2_with fail
    refine (HSA.out _ HFA.out HFB.out).mono ?_
    rintro e u1 ⟨⟨X0, X1, X2, X3, X4, E, rfl, hs⟩, hb⟩
    have HB := hid (HB.out.trans (hb.mono HB.out.size))
    have HIA := hid (blkM HIA.out hb)
    have HIB := hid (blkM HIB.out hb)
    have HFA := hid (HFA.out.below hb)
    have HFB := hid (HFB.out.below hb)
    have HRS := hid hs
    clear hs
    clear hb
    clear HIB HFB HSA
    have hal : Below u1.heap.size u1 (u1.alloc (MBox X0 X1 X2 X3 X4)) := (Below.refl _ _).alloc (Nat.le_refl _) _
    have HB := hid (HB.out.trans (hal.mono HB.out.size))
    have HIA := hid (blkM HIA.out hal)
    have HFA := hid (HFA.out.below hal)
    have HRS := hid (HRS.out.below hal)
    have HIS : Hid ((u1.alloc (MBox X0 X1 X2 X3 X4)).heap[u1.heap.size]? = some (MBox X0 X1 X2 X3 X4)) := nblkM _ _
    obtain ⟨V1, hV1⟩ : ∃ V, Hid ((u1.alloc (MBox X0 X1 X2 X3 X4)) = V) := ⟨_, rfl⟩
    rw [hV1.out] at HB HIS HIA HFA HRS
    have hV1' := hV1.out
    unfold MBox at hV1'
    obtain ⟨is, his⟩ : ∃ t, Hid (u1.heap.size = t) := ⟨_, rfl⟩
    rw [his.out] at HIS
    have his' := his.out
    clear hal
    by_cases hE0 : E = 0
    · subst hE0
      obtain ⟨rs, os, x0, x1, hgs, hvs⟩ : ∃ (r : Nat) (o : Nat → Nat), X0 = r ∧ X1 = r ∧ Gd V1 r r X2 X3 X4 o ∧ ∀ i j, i < r → j < r → o (i * r + j) = o (j * r + i) := by
        rcases HRS.out with ⟨_, r, o, h1, h2, h3, h4⟩ | ⟨h, _⟩
        · exact ⟨r, o, h1, h2, h3, h4⟩
        · exact absurd rfl h
      subst x0 x1
      have HGS := hid hgs
      have HSS := hid (Sym_good rs rs _ _ _ os _ HGS.out)
      rw [show symB rs rs os = true from (symB_iff _ _).2 (fun i j hi hj => by rw [hvs i j hi hj])] at HSS
      clear hgs hvs HRS
      obtain ⟨c00, c01, c02⟩ := mcells_of HIS.out
      go_wp2_with fail
      refine (HSS.out).mono ?_
      rintro e u2 ⟨rfl, hb⟩
      have HB := hid (HB.out.trans (hb.mono HB.out.size))
      have HIA := hid (blkM HIA.out hb)
      have HIS := hid (blkM HIS.out hb)
      have HFA := hid (HFA.out.below hb)
      clear hb
      clear HIS HGS
      by_cases hEa : chkM rx cx n xs = 0
      · obtain ⟨r, c, hr, hc, hga⟩ := gd_of HFA.out hEa
        subst hr hc
        by_cases hrc : r = c
        · subst hrc
          have hn1 := hga.2.2.1
          subst hn1
          obtain ⟨f, hf⟩ : ∃ f : Nat → Nat, Hid ((fun j => xs.getD j 0) = f) := ⟨_, rfl⟩
          rw [hf.out] at hga
          have HGA := hid hga
          have HSY := hid (fun W (h : Gd W r r ta (r * r) ca f) => Sym_good r r _ ta ca f W h)
          obtain ⟨v, hv⟩ : ∃ v, Hid (symB r r f = v) := ⟨_, rfl⟩
          rw [hv.out] at HSY
          have HM1 := hid (fun W (h : Gd W r r ta (r * r) ca f) => Mir_good r _ ta ca f W h)
          have HN1 := hid (fun W (h : Gd W r r ta (r * r) ca f) => Mean_any r _ ta ca f W h)
          clear hga HCA hEa HFA
          obtain ⟨c00, c01, c02⟩ := mcells_of HIA.out
          go_wp2_with fail
          refine (HM1.out _ HGA.out).mono ?_
          rintro e u3 ⟨⟨g1, o1, rfl, hg1, hv1, hk1⟩, hb⟩
          have HB := hid (HB.out.trans (hb.mono HB.out.size))
          have HIA := hid (blkM HIA.out hb)
          have HGA := hid (HGA.out.below hb)
          have HGM := hid hg1
          have HV1 := hid hv1
          have HK1 := hid hk1
          clear hg1 hv1 hk1
          clear hb
          have HSM := hid (fun W (h : Gd W r r (some ⟨g1, 0, none⟩) (r * r) (r * r) o1) => Sym_good r r _ _ _ o1 W h)
          rw [show symB r r o1 = true from (symB_iff _ _).2 (fun i j hi hj => by rw [HV1.out i j hi hj])] at HSM
          have HM2 := hid (fun W (h : Gd W r r (some ⟨g1, 0, none⟩) (r * r) (r * r) o1) => Mean_sym r _ _ _ o1 W h HV1.out)
          have HM3 := hid (fun W (h : Gd W r r (some ⟨g1, 0, none⟩) (r * r) (r * r) o1) => Mir_good r _ _ _ o1 W h)
          have HV1 : Hid (∀ i j, i < r → j < r → canonOf (o1 (i * r + j)) = canonOf (o1 (j * r + i))) := fun i j hi hj => by rw [HV1.out i j hi hj]
          have hal : Below u3.heap.size u3 (u3.alloc (MBox r r (some ⟨g1, 0, none⟩) (r * r) (r * r))) := (Below.refl _ _).alloc (Nat.le_refl _) _
          have HB := hid (HB.out.trans (hal.mono HB.out.size))
          have HIA := hid (blkM HIA.out hal)
          have HGA := hid (HGA.out.below hal)
          have HGM := hid (HGM.out.below hal)
          have HIM : Hid ((u3.alloc (MBox r r (some ⟨g1, 0, none⟩) (r * r) (r * r))).heap[u3.heap.size]? = some (MBox r r (some ⟨g1, 0, none⟩) (r * r) (r * r))) := nblkM _ _
          obtain ⟨V3, hV3⟩ : ∃ V, Hid ((u3.alloc (MBox r r (some ⟨g1, 0, none⟩) (r * r) (r * r))) = V) := ⟨_, rfl⟩
          rw [hV3.out] at HB HIM HIA HGA HGM
          have hV3' := hV3.out
          unfold MBox at hV3'
          obtain ⟨im, him⟩ : ∃ t, Hid (u3.heap.size = t) := ⟨_, rfl⟩
          rw [him.out] at HIM
          have him' := him.out
          clear hal
          obtain ⟨c00, c01, c02⟩ := mcells_of HIA.out
          go_wp2_with fail
          refine (HN1.out _ HGA.out).mono ?_
          rintro e u4 ⟨⟨Y0, Y1, Y2, Y3, Y4, G, rfl, hs⟩, hb⟩
          have HB := hid (HB.out.trans (hb.mono HB.out.size))
          have HIA := hid (blkM HIA.out hb)
          have HIM := hid (blkM HIM.out hb)
          have HGA := hid (HGA.out.below hb)
          have HGM := hid (HGM.out.below hb)
          have HRN := hid hs
          clear hs
          clear hb
          have hal : Below u4.heap.size u4 (u4.alloc (MBox Y0 Y1 Y2 Y3 Y4)) := (Below.refl _ _).alloc (Nat.le_refl _) _
          have HB := hid (HB.out.trans (hal.mono HB.out.size))
          have HIA := hid (blkM HIA.out hal)
          have HIM := hid (blkM HIM.out hal)
          have HGA := hid (HGA.out.below hal)
          have HGM := hid (HGM.out.below hal)
          have HRN := hid (HRN.out.below hal)
          have HIN : Hid ((u4.alloc (MBox Y0 Y1 Y2 Y3 Y4)).heap[u4.heap.size]? = some (MBox Y0 Y1 Y2 Y3 Y4)) := nblkM _ _
          obtain ⟨V4, hV4⟩ : ∃ V, Hid ((u4.alloc (MBox Y0 Y1 Y2 Y3 Y4)) = V) := ⟨_, rfl⟩
          rw [hV4.out] at HB HIN HIA HIM HGA HGM HRN
          have hV4' := hV4.out
          unfold MBox at hV4'
          obtain ⟨inn, hinn⟩ : ∃ t, Hid (u4.heap.size = t) := ⟨_, rfl⟩
          rw [hinn.out] at HIN
          have hinn' := hinn.out
          clear hal
          obtain ⟨c00, c01, c02⟩ := mcells_of HIM.out
          go_wp2_with fail
          refine (HSM.out _ HGM.out).mono ?_
          rintro e u5 ⟨rfl, hb⟩
          have HB := hid (HB.out.trans (hb.mono HB.out.size))
          have HIA := hid (blkM HIA.out hb)
          have HIM := hid (blkM HIM.out hb)
          have HIN := hid (blkM HIN.out hb)
          have HGA := hid (HGA.out.below hb)
          have HGM := hid (HGM.out.below hb)
          have HRN := hid (HRN.out.below hb)
          clear hb
          by_cases hG : G = 0
          · subst hG
            obtain ⟨rn, on, y0, y1, hgn, hvn⟩ : ∃ (r : Nat) (o : Nat → Nat), Y0 = r ∧ Y1 = r ∧ Gd u5 r r Y2 Y3 Y4 o ∧ ∀ i j, i < r → j < r → o (i * r + j) = o (j * r + i) := by
              rcases HRN.out with ⟨_, r, o, h1, h2, h3, h4⟩ | ⟨h, _⟩
              · exact ⟨r, o, h1, h2, h3, h4⟩
              · exact absurd rfl h
            subst y0 y1
            have HGN := hid hgn
            have HSN := hid (Sym_good rn rn _ _ _ on _ HGN.out)
            rw [show symB rn rn on = true from (symB_iff _ _).2 (fun i j hi hj => by rw [hvn i j hi hj])] at HSN
            clear hgn hvn HRN
            obtain ⟨c00, c01, c02⟩ := mcells_of HIN.out
            go_wp2_with fail
            refine (HSN.out).mono ?_
            rintro e u6 ⟨rfl, hb⟩
            have HB := hid (HB.out.trans (hb.mono HB.out.size))
            have HIA := hid (blkM HIA.out hb)
            have HIM := hid (blkM HIM.out hb)
            have HIN := hid (blkM HIN.out hb)
            have HGA := hid (HGA.out.below hb)
            have HGM := hid (HGM.out.below hb)
            clear hb
            clear HIN HGN
            obtain ⟨c00, c01, c02⟩ := mcells_of HIM.out
            go_wp2_with fail
            refine (HM2.out _ HGM.out).mono ?_
            rintro e u7 ⟨⟨Z0, Z1, Z2, Z3, Z4, G2, rfl, hs⟩, hb⟩
            have HB := hid (HB.out.trans (hb.mono HB.out.size))
            have HIA := hid (blkM HIA.out hb)
            have HIM := hid (blkM HIM.out hb)
            have HGA := hid (HGA.out.below hb)
            have HGM := hid (HGM.out.below hb)
            have HRO := hid hs
            clear hs
            clear hb
            have hal : Below u7.heap.size u7 (u7.alloc (MBox Z0 Z1 Z2 Z3 Z4)) := (Below.refl _ _).alloc (Nat.le_refl _) _
            have HB := hid (HB.out.trans (hal.mono HB.out.size))
            have HIA := hid (blkM HIA.out hal)
            have HIM := hid (blkM HIM.out hal)
            have HGA := hid (HGA.out.below hal)
            have HGM := hid (HGM.out.below hal)
            have HRO := hid (HRO.out.below hal)
            have HIO : Hid ((u7.alloc (MBox Z0 Z1 Z2 Z3 Z4)).heap[u7.heap.size]? = some (MBox Z0 Z1 Z2 Z3 Z4)) := nblkM _ _
            obtain ⟨V7, hV7⟩ : ∃ V, Hid ((u7.alloc (MBox Z0 Z1 Z2 Z3 Z4)) = V) := ⟨_, rfl⟩
            rw [hV7.out] at HB HIO HIA HIM HGA HGM HRO
            have hV7' := hV7.out
            unfold MBox at hV7'
            obtain ⟨io, hio⟩ : ∃ t, Hid (u7.heap.size = t) := ⟨_, rfl⟩
            rw [hio.out] at HIO
            have hio' := hio.out
            clear hal
            obtain ⟨c00, c01, c02⟩ := mcells_of HIM.out
            go_wp2_with fail
            refine (HM3.out _ HGM.out).mono ?_
            rintro e u8 ⟨⟨g3, o3, rfl, hg3, _, hk3⟩, hb⟩
            have HB := hid (HB.out.trans (hb.mono HB.out.size))
            have HIA := hid (blkM HIA.out hb)
            have HIM := hid (blkM HIM.out hb)
            have HIO := hid (blkM HIO.out hb)
            have HGA := hid (HGA.out.below hb)
            have HGM := hid (HGM.out.below hb)
            have HRO := hid (HRO.out.below hb)
            have HF3 := hid hg3.2.2.2.1
            have HK3 : Hid (∀ k, k < r * r → canonOf (o3 k) = canonOf (o1 k)) := hk3 HV1.out
            clear hg3 hk3
            clear hb
            have hal : Below u8.heap.size u8 (u8.alloc (MBox r r (some ⟨g3, 0, none⟩) (r * r) (r * r))) := (Below.refl _ _).alloc (Nat.le_refl _) _
            have HB := hid (HB.out.trans (hal.mono HB.out.size))
            have HIA := hid (blkM HIA.out hal)
            have HIM := hid (blkM HIM.out hal)
            have HIO := hid (blkM HIO.out hal)
            have HGA := hid (HGA.out.below hal)
            have HGM := hid (HGM.out.below hal)
            have HRO := hid (HRO.out.below hal)
            have HF3 := hid (HF3.out.below hal)
            have HIP : Hid ((u8.alloc (MBox r r (some ⟨g3, 0, none⟩) (r * r) (r * r))).heap[u8.heap.size]? = some (MBox r r (some ⟨g3, 0, none⟩) (r * r) (r * r))) := nblkM _ _
            obtain ⟨V8, hV8⟩ : ∃ V, Hid ((u8.alloc (MBox r r (some ⟨g3, 0, none⟩) (r * r) (r * r))) = V) := ⟨_, rfl⟩
            rw [hV8.out] at HB HIP HIA HIM HIO HGA HGM HRO HF3
            have hV8' := hV8.out
            unfold MBox at hV8'
            obtain ⟨ip, hip⟩ : ∃ t, Hid (u8.heap.size = t) := ⟨_, rfl⟩
            rw [hip.out] at HIP
            have hip' := hip.out
            clear hal
            by_cases hG2 : G2 = 0
            · subst hG2
              obtain ⟨z0, z1, z3, oo, hoo, hok⟩ : Z0 = r ∧ Z1 = r ∧ Z3 = r * r ∧ ∃ o : Nat → Nat, FnM V8 Z2 Z3 Z4 o ∧ ∀ k, k < r * r → canonOf (o k) = canonOf (o1 k) := by
                rcases HRO.out with ⟨_, h1, h2, h3, h4⟩ | h
                · exact ⟨h1, h2, h3, h4⟩
                · exact absurd rfl h
              subst z0 z1 z3
              have HFO := hid hoo
              have HKO := hid hok
              clear hoo hok
              obtain ⟨c00, c01, c02⟩ := mcells_of HIO.out
              obtain ⟨c10, c11, c12⟩ := mcells_of HIM.out
              go_wp2_with fail
              refine (alike_yes r r _ _ (r * r) _ (r * r) oo o1 _ HFO.out HGM.out.2.2.2.1 HKO.out).mono ?_
              rintro e u9 ⟨rfl, hb⟩
              have HB := hid (HB.out.trans (hb.mono HB.out.size))
              have HIA := hid (blkM HIA.out hb)
              have HIM := hid (blkM HIM.out hb)
              have HIO := hid (blkM HIO.out hb)
              have HIP := hid (blkM HIP.out hb)
              have HGA := hid (HGA.out.below hb)
              have HGM := hid (HGM.out.below hb)
              have HRO := hid (HRO.out.below hb)
              have HF3 := hid (HF3.out.below hb)
              clear hb
              obtain ⟨c00, c01, c02⟩ := mcells_of HIP.out
              obtain ⟨c10, c11, c12⟩ := mcells_of HIM.out
              obtain ⟨c20, c21, c22⟩ := mcells_of HIA.out
              have HZ := hid HK3.out
              go_wp2_with fail
              refine (alike_yes r r _ _ (r * r) (r * r) (r * r) o3 o1 _ HF3.out HGM.out.2.2.2.1 HK3.out).mono ?_
              rintro e u10 ⟨rfl, hb⟩
              have HB := hid (HB.out.trans (hb.mono HB.out.size))
              have HIA := hid (blkM HIA.out hb)
              have HIM := hid (blkM HIM.out hb)
              have HIO := hid (blkM HIO.out hb)
              have HIP := hid (blkM HIP.out hb)
              have HGA := hid (HGA.out.below hb)
              have HGM := hid (HGM.out.below hb)
              have HRO := hid (HRO.out.below hb)
              have HF3 := hid (HF3.out.below hb)
              clear hb
              obtain ⟨c00, c01, c02⟩ := mcells_of HIP.out
              obtain ⟨c10, c11, c12⟩ := mcells_of HIM.out
              obtain ⟨c20, c21, c22⟩ := mcells_of HIA.out
              go_wp2_with fail
              refine (HSY.out _ HGA.out).mono ?_
              rintro e u11 ⟨rfl, hb⟩
              have HB := hid (HB.out.trans (hb.mono HB.out.size))
              have HIA := hid (blkM HIA.out hb)
              have HIM := hid (blkM HIM.out hb)
              have HIO := hid (blkM HIO.out hb)
              have HIP := hid (blkM HIP.out hb)
              have HGA := hid (HGA.out.below hb)
              have HGM := hid (HGM.out.below hb)
              have HRO := hid (HRO.out.below hb)
              have HF3 := hid (HF3.out.below hb)
              clear hb
              cases hvv : v with
              | false =>
                rw [hvv] at *
                go_wp2_with fail
                go_ret
                exact ⟨rfl, HB.out⟩
              | true =>
                obtain ⟨c00, c01, c02⟩ := mcells_of HIM.out
                obtain ⟨c10, c11, c12⟩ := mcells_of HIA.out
                go_wp2_with fail
                refine (alike_yes r r _ _ (r * r) (r * r) ca o1 _ _ HGM.out.2.2.2.1 HGA.out.2.2.2.1 (HK1.out ((symB_iff _ _).1 (hv.out.trans hvv)))).mono ?_
                rintro e u12 ⟨rfl, hb⟩
                have HB := hid (HB.out.trans (hb.mono HB.out.size))
                have HIA := hid (blkM HIA.out hb)
                have HIM := hid (blkM HIM.out hb)
                have HIO := hid (blkM HIO.out hb)
                have HIP := hid (blkM HIP.out hb)
                have HGA := hid (HGA.out.below hb)
                have HGM := hid (HGM.out.below hb)
                have HRO := hid (HRO.out.below hb)
                have HF3 := hid (HF3.out.below hb)
                clear hb
                go_wp2_with fail
                go_ret
                exact ⟨rfl, HB.out⟩
            · have hGz : (G2 != 0) = true := by simpa using hG2
              clear hG2
              obtain ⟨c00, c01, c02⟩ := mcells_of HIO.out
              obtain ⟨c10, c11, c12⟩ := mcells_of HIM.out
              obtain ⟨c20, c21, c22⟩ := mcells_of HIP.out
              obtain ⟨c00, c01, c02⟩ := mcells_of HIP.out
              obtain ⟨c10, c11, c12⟩ := mcells_of HIM.out
              obtain ⟨c20, c21, c22⟩ := mcells_of HIA.out
              have HZ := hid HK3.out
              go_wp2_with fail
              refine (alike_yes r r _ _ (r * r) (r * r) (r * r) o3 o1 _ HF3.out HGM.out.2.2.2.1 HK3.out).mono ?_
              rintro e u9 ⟨rfl, hb⟩
              have HB := hid (HB.out.trans (hb.mono HB.out.size))
              have HIA := hid (blkM HIA.out hb)
              have HIM := hid (blkM HIM.out hb)
              have HIO := hid (blkM HIO.out hb)
              have HIP := hid (blkM HIP.out hb)
              have HGA := hid (HGA.out.below hb)
              have HGM := hid (HGM.out.below hb)
              have HRO := hid (HRO.out.below hb)
              have HF3 := hid (HF3.out.below hb)
              clear hb
              obtain ⟨c00, c01, c02⟩ := mcells_of HIP.out
              obtain ⟨c10, c11, c12⟩ := mcells_of HIM.out
              obtain ⟨c20, c21, c22⟩ := mcells_of HIA.out
              go_wp2_with fail
              refine (HSY.out _ HGA.out).mono ?_
              rintro e u10 ⟨rfl, hb⟩
              have HB := hid (HB.out.trans (hb.mono HB.out.size))
              have HIA := hid (blkM HIA.out hb)
              have HIM := hid (blkM HIM.out hb)
              have HIO := hid (blkM HIO.out hb)
              have HIP := hid (blkM HIP.out hb)
              have HGA := hid (HGA.out.below hb)
              have HGM := hid (HGM.out.below hb)
              have HRO := hid (HRO.out.below hb)
              have HF3 := hid (HF3.out.below hb)
              clear hb
              cases hvv : v with
              | false =>
                rw [hvv] at *
                go_wp2_with fail
                go_ret
                exact ⟨rfl, HB.out⟩
              | true =>
                obtain ⟨c00, c01, c02⟩ := mcells_of HIM.out
                obtain ⟨c10, c11, c12⟩ := mcells_of HIA.out
                go_wp2_with fail
                refine (alike_yes r r _ _ (r * r) (r * r) ca o1 _ _ HGM.out.2.2.2.1 HGA.out.2.2.2.1 (HK1.out ((symB_iff _ _).1 (hv.out.trans hvv)))).mono ?_
                rintro e u11 ⟨rfl, hb⟩
                have HB := hid (HB.out.trans (hb.mono HB.out.size))
                have HIA := hid (blkM HIA.out hb)
                have HIM := hid (blkM HIM.out hb)
                have HIO := hid (blkM HIO.out hb)
                have HIP := hid (blkM HIP.out hb)
                have HGA := hid (HGA.out.below hb)
                have HGM := hid (HGM.out.below hb)
                have HRO := hid (HRO.out.below hb)
                have HF3 := hid (HF3.out.below hb)
                clear hb
                go_wp2_with fail
                go_ret
                exact ⟨rfl, HB.out⟩
          · have hGy : (G == 0) = false := by simpa using hG
            clear hG HRN
            obtain ⟨c00, c01, c02⟩ := mcells_of HIN.out
            clear HIN
            obtain ⟨c00, c01, c02⟩ := mcells_of HIM.out
            go_wp2_with fail
            refine (HM2.out _ HGM.out).mono ?_
            rintro e u6 ⟨⟨Z0, Z1, Z2, Z3, Z4, G2, rfl, hs⟩, hb⟩
            have HB := hid (HB.out.trans (hb.mono HB.out.size))
            have HIA := hid (blkM HIA.out hb)
            have HIM := hid (blkM HIM.out hb)
            have HGA := hid (HGA.out.below hb)
            have HGM := hid (HGM.out.below hb)
            have HRO := hid hs
            clear hs
            clear hb
            have hal : Below u6.heap.size u6 (u6.alloc (MBox Z0 Z1 Z2 Z3 Z4)) := (Below.refl _ _).alloc (Nat.le_refl _) _
            have HB := hid (HB.out.trans (hal.mono HB.out.size))
            have HIA := hid (blkM HIA.out hal)
            have HIM := hid (blkM HIM.out hal)
            have HGA := hid (HGA.out.below hal)
            have HGM := hid (HGM.out.below hal)
            have HRO := hid (HRO.out.below hal)
            have HIO : Hid ((u6.alloc (MBox Z0 Z1 Z2 Z3 Z4)).heap[u6.heap.size]? = some (MBox Z0 Z1 Z2 Z3 Z4)) := nblkM _ _
            obtain ⟨V6, hV6⟩ : ∃ V, Hid ((u6.alloc (MBox Z0 Z1 Z2 Z3 Z4)) = V) := ⟨_, rfl⟩
            rw [hV6.out] at HB HIO HIA HIM HGA HGM HRO
            have hV6' := hV6.out
            unfold MBox at hV6'
            obtain ⟨io, hio⟩ : ∃ t, Hid (u6.heap.size = t) := ⟨_, rfl⟩
            rw [hio.out] at HIO
            have hio' := hio.out
            clear hal
            obtain ⟨c00, c01, c02⟩ := mcells_of HIM.out
            go_wp2_with fail
            refine (HM3.out _ HGM.out).mono ?_
            rintro e u7 ⟨⟨g3, o3, rfl, hg3, _, hk3⟩, hb⟩
            have HB := hid (HB.out.trans (hb.mono HB.out.size))
            have HIA := hid (blkM HIA.out hb)
            have HIM := hid (blkM HIM.out hb)
            have HIO := hid (blkM HIO.out hb)
            have HGA := hid (HGA.out.below hb)
            have HGM := hid (HGM.out.below hb)
            have HRO := hid (HRO.out.below hb)
            have HF3 := hid hg3.2.2.2.1
            have HK3 : Hid (∀ k, k < r * r → canonOf (o3 k) = canonOf (o1 k)) := hk3 HV1.out
            clear hg3 hk3
            clear hb
            have hal : Below u7.heap.size u7 (u7.alloc (MBox r r (some ⟨g3, 0, none⟩) (r * r) (r * r))) := (Below.refl _ _).alloc (Nat.le_refl _) _
            have HB := hid (HB.out.trans (hal.mono HB.out.size))
            have HIA := hid (blkM HIA.out hal)
            have HIM := hid (blkM HIM.out hal)
            have HIO := hid (blkM HIO.out hal)
            have HGA := hid (HGA.out.below hal)
            have HGM := hid (HGM.out.below hal)
            have HRO := hid (HRO.out.below hal)
            have HF3 := hid (HF3.out.below hal)
            have HIP : Hid ((u7.alloc (MBox r r (some ⟨g3, 0, none⟩) (r * r) (r * r))).heap[u7.heap.size]? = some (MBox r r (some ⟨g3, 0, none⟩) (r * r) (r * r))) := nblkM _ _
            obtain ⟨V7, hV7⟩ : ∃ V, Hid ((u7.alloc (MBox r r (some ⟨g3, 0, none⟩) (r * r) (r * r))) = V) := ⟨_, rfl⟩
            rw [hV7.out] at HB HIP HIA HIM HIO HGA HGM HRO HF3
            have hV7' := hV7.out
            unfold MBox at hV7'
            obtain ⟨ip, hip⟩ : ∃ t, Hid (u7.heap.size = t) := ⟨_, rfl⟩
            rw [hip.out] at HIP
            have hip' := hip.out
            clear hal
            by_cases hG2 : G2 = 0
            · subst hG2
              obtain ⟨z0, z1, z3, oo, hoo, hok⟩ : Z0 = r ∧ Z1 = r ∧ Z3 = r * r ∧ ∃ o : Nat → Nat, FnM V7 Z2 Z3 Z4 o ∧ ∀ k, k < r * r → canonOf (o k) = canonOf (o1 k) := by
                rcases HRO.out with ⟨_, h1, h2, h3, h4⟩ | h
                · exact ⟨h1, h2, h3, h4⟩
                · exact absurd rfl h
              subst z0 z1 z3
              have HFO := hid hoo
              have HKO := hid hok
              clear hoo hok
              obtain ⟨c00, c01, c02⟩ := mcells_of HIO.out
              obtain ⟨c10, c11, c12⟩ := mcells_of HIM.out
              go_wp2_with fail
              refine (alike_yes r r _ _ (r * r) _ (r * r) oo o1 _ HFO.out HGM.out.2.2.2.1 HKO.out).mono ?_
              rintro e u8 ⟨rfl, hb⟩
              have HB := hid (HB.out.trans (hb.mono HB.out.size))
              have HIA := hid (blkM HIA.out hb)
              have HIM := hid (blkM HIM.out hb)
              have HIO := hid (blkM HIO.out hb)
              have HIP := hid (blkM HIP.out hb)
              have HGA := hid (HGA.out.below hb)
              have HGM := hid (HGM.out.below hb)
              have HRO := hid (HRO.out.below hb)
              have HF3 := hid (HF3.out.below hb)
              clear hb
              obtain ⟨c00, c01, c02⟩ := mcells_of HIP.out
              obtain ⟨c10, c11, c12⟩ := mcells_of HIM.out
              obtain ⟨c20, c21, c22⟩ := mcells_of HIA.out
              have HZ := hid HK3.out
              go_wp2_with fail
              refine (alike_yes r r _ _ (r * r) (r * r) (r * r) o3 o1 _ HF3.out HGM.out.2.2.2.1 HK3.out).mono ?_
              rintro e u9 ⟨rfl, hb⟩
              have HB := hid (HB.out.trans (hb.mono HB.out.size))
              have HIA := hid (blkM HIA.out hb)
              have HIM := hid (blkM HIM.out hb)
              have HIO := hid (blkM HIO.out hb)
              have HIP := hid (blkM HIP.out hb)
              have HGA := hid (HGA.out.below hb)
              have HGM := hid (HGM.out.below hb)
              have HRO := hid (HRO.out.below hb)
              have HF3 := hid (HF3.out.below hb)
              clear hb
              obtain ⟨c00, c01, c02⟩ := mcells_of HIP.out
              obtain ⟨c10, c11, c12⟩ := mcells_of HIM.out
              obtain ⟨c20, c21, c22⟩ := mcells_of HIA.out
              go_wp2_with fail
              refine (HSY.out _ HGA.out).mono ?_
              rintro e u10 ⟨rfl, hb⟩
              have HB := hid (HB.out.trans (hb.mono HB.out.size))
              have HIA := hid (blkM HIA.out hb)
              have HIM := hid (blkM HIM.out hb)
              have HIO := hid (blkM HIO.out hb)
              have HIP := hid (blkM HIP.out hb)
              have HGA := hid (HGA.out.below hb)
              have HGM := hid (HGM.out.below hb)
              have HRO := hid (HRO.out.below hb)
              have HF3 := hid (HF3.out.below hb)
              clear hb
              cases hvv : v with
              | false =>
                rw [hvv] at *
                go_wp2_with fail
                go_ret
                exact ⟨rfl, HB.out⟩
              | true =>
                obtain ⟨c00, c01, c02⟩ := mcells_of HIM.out
                obtain ⟨c10, c11, c12⟩ := mcells_of HIA.out
                go_wp2_with fail
                refine (alike_yes r r _ _ (r * r) (r * r) ca o1 _ _ HGM.out.2.2.2.1 HGA.out.2.2.2.1 (HK1.out ((symB_iff _ _).1 (hv.out.trans hvv)))).mono ?_
                rintro e u11 ⟨rfl, hb⟩
                have HB := hid (HB.out.trans (hb.mono HB.out.size))
                have HIA := hid (blkM HIA.out hb)
                have HIM := hid (blkM HIM.out hb)
                have HIO := hid (blkM HIO.out hb)
                have HIP := hid (blkM HIP.out hb)
                have HGA := hid (HGA.out.below hb)
                have HGM := hid (HGM.out.below hb)
                have HRO := hid (HRO.out.below hb)
                have HF3 := hid (HF3.out.below hb)
                clear hb
                go_wp2_with fail
                go_ret
                exact ⟨rfl, HB.out⟩
            · have hGz : (G2 != 0) = true := by simpa using hG2
              clear hG2
              obtain ⟨c00, c01, c02⟩ := mcells_of HIO.out
              obtain ⟨c10, c11, c12⟩ := mcells_of HIM.out
              obtain ⟨c20, c21, c22⟩ := mcells_of HIP.out
              obtain ⟨c00, c01, c02⟩ := mcells_of HIP.out
              obtain ⟨c10, c11, c12⟩ := mcells_of HIM.out
              obtain ⟨c20, c21, c22⟩ := mcells_of HIA.out
              have HZ := hid HK3.out
              go_wp2_with fail
              refine (alike_yes r r _ _ (r * r) (r * r) (r * r) o3 o1 _ HF3.out HGM.out.2.2.2.1 HK3.out).mono ?_
              rintro e u8 ⟨rfl, hb⟩
              have HB := hid (HB.out.trans (hb.mono HB.out.size))
              have HIA := hid (blkM HIA.out hb)
              have HIM := hid (blkM HIM.out hb)
              have HIO := hid (blkM HIO.out hb)
              have HIP := hid (blkM HIP.out hb)
              have HGA := hid (HGA.out.below hb)
              have HGM := hid (HGM.out.below hb)
              have HRO := hid (HRO.out.below hb)
              have HF3 := hid (HF3.out.below hb)
              clear hb
              obtain ⟨c00, c01, c02⟩ := mcells_of HIP.out
              obtain ⟨c10, c11, c12⟩ := mcells_of HIM.out
              obtain ⟨c20, c21, c22⟩ := mcells_of HIA.out
              go_wp2_with fail
              refine (HSY.out _ HGA.out).mono ?_
              rintro e u9 ⟨rfl, hb⟩
              have HB := hid (HB.out.trans (hb.mono HB.out.size))
              have HIA := hid (blkM HIA.out hb)
              have HIM := hid (blkM HIM.out hb)
              have HIO := hid (blkM HIO.out hb)
              have HIP := hid (blkM HIP.out hb)
              have HGA := hid (HGA.out.below hb)
              have HGM := hid (HGM.out.below hb)
              have HRO := hid (HRO.out.below hb)
              have HF3 := hid (HF3.out.below hb)
              clear hb
              cases hvv : v with
              | false =>
                rw [hvv] at *
                go_wp2_with fail
                go_ret
                exact ⟨rfl, HB.out⟩
              | true =>
                obtain ⟨c00, c01, c02⟩ := mcells_of HIM.out
                obtain ⟨c10, c11, c12⟩ := mcells_of HIA.out
                go_wp2_with fail
                refine (alike_yes r r _ _ (r * r) (r * r) ca o1 _ _ HGM.out.2.2.2.1 HGA.out.2.2.2.1 (HK1.out ((symB_iff _ _).1 (hv.out.trans hvv)))).mono ?_
                rintro e u10 ⟨rfl, hb⟩
                have HB := hid (HB.out.trans (hb.mono HB.out.size))
                have HIA := hid (blkM HIA.out hb)
                have HIM := hid (blkM HIM.out hb)
                have HIO := hid (blkM HIO.out hb)
                have HIP := hid (blkM HIP.out hb)
                have HGA := hid (HGA.out.below hb)
                have HGM := hid (HGM.out.below hb)
                have HRO := hid (HRO.out.below hb)
                have HF3 := hid (HF3.out.below hb)
                clear hb
                go_wp2_with fail
                go_ret
                exact ⟨rfl, HB.out⟩
        · have HMN := hid (fun W (h : Gd W r c ta n ca (fun j => xs.getD j 0)) => Mirror_non r c 3 n ta ca W (by decide) (fun W2 h2 => by
              have := square_good r c n ta ca _ W2 (h.below h2)
              rw [if_neg hrc] at this
              exact this))
          unfold NonM MV at HMN
          have HGA := hid hga
          rw [hEa] at HCA
          have hne : ((r : Int) != (c : Int)) = true := by simp; omega
          clear hga hEa hrc
          have HMN : Hid (∀ W, Gd W r c ta n ca (fun j => xs.getD j 0) → Calls Try.prog 21 #[.agg #[.int .i64 r, .int .i64 c, .slice ta n ca]] W fun e w' => (∃ Y0 Y1 Y2 Y3 Y4, e = .returned (.tuple #[.agg #[.int .i64 Y0, .int .i64 Y1, .slice Y2 Y3 Y4], .int .i64 3])) ∧ Below W.heap.size W w') := fun W h => (HMN.out W h).mono (fun _ _ h => ⟨⟨0, 0, none, 0, 0, h.1⟩, h.2⟩)
          obtain ⟨c00, c01, c02⟩ := mcells_of HIA.out
          go_wp2_with fail
          refine (HMN.out _ HGA.out).mono ?_
          rintro e u3 ⟨⟨Y0, Y1, Y2, Y3, Y4, rfl⟩, hb⟩
          have HB := hid (HB.out.trans (hb.mono HB.out.size))
          have HIA := hid (blkM HIA.out hb)
          have HFA := hid (HFA.out.below hb)
          have HGA := hid (HGA.out.below hb)
          clear hb
          have hal : Below u3.heap.size u3 (u3.alloc (MBox Y0 Y1 Y2 Y3 Y4)) := (Below.refl _ _).alloc (Nat.le_refl _) _
          have HB := hid (HB.out.trans (hal.mono HB.out.size))
          have HIA := hid (blkM HIA.out hal)
          have HFA := hid (HFA.out.below hal)
          have HGA := hid (HGA.out.below hal)
          have HIM : Hid ((u3.alloc (MBox Y0 Y1 Y2 Y3 Y4)).heap[u3.heap.size]? = some (MBox Y0 Y1 Y2 Y3 Y4)) := nblkM _ _
          obtain ⟨V3, hV3⟩ : ∃ V, Hid ((u3.alloc (MBox Y0 Y1 Y2 Y3 Y4)) = V) := ⟨_, rfl⟩
          rw [hV3.out] at HB HIM HIA HFA HGA
          have hV3' := hV3.out
          unfold MBox at hV3'
          obtain ⟨im, him⟩ : ∃ t, Hid (u3.heap.size = t) := ⟨_, rfl⟩
          rw [him.out] at HIM
          have him' := him.out
          clear hal
          obtain ⟨c00, c01, c02⟩ := mcells_of HIA.out
          go_wp2_with fail
          refine (HCA.out _ HFA.out).mono ?_
          rintro e u4 ⟨rfl, hb⟩
          have HB := hid (HB.out.trans (hb.mono HB.out.size))
          have HIA := hid (blkM HIA.out hb)
          have HIM := hid (blkM HIM.out hb)
          have HFA := hid (HFA.out.below hb)
          have HGA := hid (HGA.out.below hb)
          clear hb
          obtain ⟨c00, c01, c02⟩ := mcells_of HIA.out
          go_wp2_with fail
          go_ret
          exact ⟨rfl, HB.out⟩
      · have HMN := hid (fun W (h : FlM W ta n ca xs) => Mirror_non rx cx _ n ta ca W hEa (fun W2 h2 => square_bad rx cx n ta ca xs W2 (h.below h2) HNM.out.1 hEa))
        obtain ⟨F, hF⟩ : ∃ E, Hid (chkM rx cx n xs = E) := ⟨_, rfl⟩
        rw [hF.out] at HMN HCA hEa
        unfold NonM MV at HMN
        have hne : (F != 0) = true := by simpa using hEa
        clear hEa
        have HMN : Hid (∀ W, FlM W ta n ca xs → Calls Try.prog 21 #[.agg #[.int .i64 rx, .int .i64 cx, .slice ta n ca]] W fun e w' => (∃ Y0 Y1 Y2 Y3 Y4, e = .returned (.tuple #[.agg #[.int .i64 Y0, .int .i64 Y1, .slice Y2 Y3 Y4], .int .i64 F])) ∧ Below W.heap.size W w') := fun W h => (HMN.out W h).mono (fun _ _ h => ⟨⟨0, 0, none, 0, 0, h.1⟩, h.2⟩)
        obtain ⟨c00, c01, c02⟩ := mcells_of HIA.out
        go_wp2_with fail
        refine (HMN.out _ HFA.out).mono ?_
        rintro e u3 ⟨⟨Y0, Y1, Y2, Y3, Y4, rfl⟩, hb⟩
        have HB := hid (HB.out.trans (hb.mono HB.out.size))
        have HIA := hid (blkM HIA.out hb)
        have HFA := hid (HFA.out.below hb)
        clear hb
        have hal : Below u3.heap.size u3 (u3.alloc (MBox Y0 Y1 Y2 Y3 Y4)) := (Below.refl _ _).alloc (Nat.le_refl _) _
        have HB := hid (HB.out.trans (hal.mono HB.out.size))
        have HIA := hid (blkM HIA.out hal)
        have HFA := hid (HFA.out.below hal)
        have HIM : Hid ((u3.alloc (MBox Y0 Y1 Y2 Y3 Y4)).heap[u3.heap.size]? = some (MBox Y0 Y1 Y2 Y3 Y4)) := nblkM _ _
        obtain ⟨V3, hV3⟩ : ∃ V, Hid ((u3.alloc (MBox Y0 Y1 Y2 Y3 Y4)) = V) := ⟨_, rfl⟩
        rw [hV3.out] at HB HIM HIA HFA
        have hV3' := hV3.out
        unfold MBox at hV3'
        obtain ⟨im, him⟩ : ∃ t, Hid (u3.heap.size = t) := ⟨_, rfl⟩
        rw [him.out] at HIM
        have him' := him.out
        clear hal
        obtain ⟨c00, c01, c02⟩ := mcells_of HIA.out
        go_wp2_with fail
        refine (HCA.out _ HFA.out).mono ?_
        rintro e u4 ⟨rfl, hb⟩
        have HB := hid (HB.out.trans (hb.mono HB.out.size))
        have HIA := hid (blkM HIA.out hb)
        have HIM := hid (blkM HIM.out hb)
        have HFA := hid (HFA.out.below hb)
        clear hb
        go_wp2_with fail
        go_ret
        exact ⟨rfl, HB.out⟩
    · have hEz : (E == 0) = false := by simpa using hE0
      clear hE0 HRS
      obtain ⟨c00, c01, c02⟩ := mcells_of HIS.out
      clear HIS
      by_cases hEa : chkM rx cx n xs = 0
      · obtain ⟨r, c, hr, hc, hga⟩ := gd_of HFA.out hEa
        subst hr hc
        by_cases hrc : r = c
        · subst hrc
          have hn1 := hga.2.2.1
          subst hn1
          obtain ⟨f, hf⟩ : ∃ f : Nat → Nat, Hid ((fun j => xs.getD j 0) = f) := ⟨_, rfl⟩
          rw [hf.out] at hga
          have HGA := hid hga
          have HSY := hid (fun W (h : Gd W r r ta (r * r) ca f) => Sym_good r r _ ta ca f W h)
          obtain ⟨v, hv⟩ : ∃ v, Hid (symB r r f = v) := ⟨_, rfl⟩
          rw [hv.out] at HSY
          have HM1 := hid (fun W (h : Gd W r r ta (r * r) ca f) => Mir_good r _ ta ca f W h)
          have HN1 := hid (fun W (h : Gd W r r ta (r * r) ca f) => Mean_any r _ ta ca f W h)
          clear hga HCA hEa HFA
          obtain ⟨c00, c01, c02⟩ := mcells_of HIA.out
          go_wp2_with fail
          refine (HM1.out _ HGA.out).mono ?_
          rintro e u2 ⟨⟨g1, o1, rfl, hg1, hv1, hk1⟩, hb⟩
          have HB := hid (HB.out.trans (hb.mono HB.out.size))
          have HIA := hid (blkM HIA.out hb)
          have HGA := hid (HGA.out.below hb)
          have HGM := hid hg1
          have HV1 := hid hv1
          have HK1 := hid hk1
          clear hg1 hv1 hk1
          clear hb
          have HSM := hid (fun W (h : Gd W r r (some ⟨g1, 0, none⟩) (r * r) (r * r) o1) => Sym_good r r _ _ _ o1 W h)
          rw [show symB r r o1 = true from (symB_iff _ _).2 (fun i j hi hj => by rw [HV1.out i j hi hj])] at HSM
          have HM2 := hid (fun W (h : Gd W r r (some ⟨g1, 0, none⟩) (r * r) (r * r) o1) => Mean_sym r _ _ _ o1 W h HV1.out)
          have HM3 := hid (fun W (h : Gd W r r (some ⟨g1, 0, none⟩) (r * r) (r * r) o1) => Mir_good r _ _ _ o1 W h)
          have HV1 : Hid (∀ i j, i < r → j < r → canonOf (o1 (i * r + j)) = canonOf (o1 (j * r + i))) := fun i j hi hj => by rw [HV1.out i j hi hj]
          have hal : Below u2.heap.size u2 (u2.alloc (MBox r r (some ⟨g1, 0, none⟩) (r * r) (r * r))) := (Below.refl _ _).alloc (Nat.le_refl _) _
          have HB := hid (HB.out.trans (hal.mono HB.out.size))
          have HIA := hid (blkM HIA.out hal)
          have HGA := hid (HGA.out.below hal)
          have HGM := hid (HGM.out.below hal)
          have HIM : Hid ((u2.alloc (MBox r r (some ⟨g1, 0, none⟩) (r * r) (r * r))).heap[u2.heap.size]? = some (MBox r r (some ⟨g1, 0, none⟩) (r * r) (r * r))) := nblkM _ _
          obtain ⟨V2, hV2⟩ : ∃ V, Hid ((u2.alloc (MBox r r (some ⟨g1, 0, none⟩) (r * r) (r * r))) = V) := ⟨_, rfl⟩
          rw [hV2.out] at HB HIM HIA HGA HGM
          have hV2' := hV2.out
          unfold MBox at hV2'
          obtain ⟨im, him⟩ : ∃ t, Hid (u2.heap.size = t) := ⟨_, rfl⟩
          rw [him.out] at HIM
          have him' := him.out
          clear hal
          obtain ⟨c00, c01, c02⟩ := mcells_of HIA.out
          go_wp2_with fail
          refine (HN1.out _ HGA.out).mono ?_
          rintro e u3 ⟨⟨Y0, Y1, Y2, Y3, Y4, G, rfl, hs⟩, hb⟩
          have HB := hid (HB.out.trans (hb.mono HB.out.size))
          have HIA := hid (blkM HIA.out hb)
          have HIM := hid (blkM HIM.out hb)
          have HGA := hid (HGA.out.below hb)
          have HGM := hid (HGM.out.below hb)
          have HRN := hid hs
          clear hs
          clear hb
          have hal : Below u3.heap.size u3 (u3.alloc (MBox Y0 Y1 Y2 Y3 Y4)) := (Below.refl _ _).alloc (Nat.le_refl _) _
          have HB := hid (HB.out.trans (hal.mono HB.out.size))
          have HIA := hid (blkM HIA.out hal)
          have HIM := hid (blkM HIM.out hal)
          have HGA := hid (HGA.out.below hal)
          have HGM := hid (HGM.out.below hal)
          have HRN := hid (HRN.out.below hal)
          have HIN : Hid ((u3.alloc (MBox Y0 Y1 Y2 Y3 Y4)).heap[u3.heap.size]? = some (MBox Y0 Y1 Y2 Y3 Y4)) := nblkM _ _
          obtain ⟨V3, hV3⟩ : ∃ V, Hid ((u3.alloc (MBox Y0 Y1 Y2 Y3 Y4)) = V) := ⟨_, rfl⟩
          rw [hV3.out] at HB HIN HIA HIM HGA HGM HRN
          have hV3' := hV3.out
          unfold MBox at hV3'
          obtain ⟨inn, hinn⟩ : ∃ t, Hid (u3.heap.size = t) := ⟨_, rfl⟩
          rw [hinn.out] at HIN
          have hinn' := hinn.out
          clear hal
          obtain ⟨c00, c01, c02⟩ := mcells_of HIM.out
          go_wp2_with fail
          refine (HSM.out _ HGM.out).mono ?_
          rintro e u4 ⟨rfl, hb⟩
          have HB := hid (HB.out.trans (hb.mono HB.out.size))
          have HIA := hid (blkM HIA.out hb)
          have HIM := hid (blkM HIM.out hb)
          have HIN := hid (blkM HIN.out hb)
          have HGA := hid (HGA.out.below hb)
          have HGM := hid (HGM.out.below hb)
          have HRN := hid (HRN.out.below hb)
          clear hb
          by_cases hG : G = 0
          · subst hG
            obtain ⟨rn, on, y0, y1, hgn, hvn⟩ : ∃ (r : Nat) (o : Nat → Nat), Y0 = r ∧ Y1 = r ∧ Gd u4 r r Y2 Y3 Y4 o ∧ ∀ i j, i < r → j < r → o (i * r + j) = o (j * r + i) := by
              rcases HRN.out with ⟨_, r, o, h1, h2, h3, h4⟩ | ⟨h, _⟩
              · exact ⟨r, o, h1, h2, h3, h4⟩
              · exact absurd rfl h
            subst y0 y1
            have HGN := hid hgn
            have HSN := hid (Sym_good rn rn _ _ _ on _ HGN.out)
            rw [show symB rn rn on = true from (symB_iff _ _).2 (fun i j hi hj => by rw [hvn i j hi hj])] at HSN
            clear hgn hvn HRN
            obtain ⟨c00, c01, c02⟩ := mcells_of HIN.out
            go_wp2_with fail
            refine (HSN.out).mono ?_
            rintro e u5 ⟨rfl, hb⟩
            have HB := hid (HB.out.trans (hb.mono HB.out.size))
            have HIA := hid (blkM HIA.out hb)
            have HIM := hid (blkM HIM.out hb)
            have HIN := hid (blkM HIN.out hb)
            have HGA := hid (HGA.out.below hb)
            have HGM := hid (HGM.out.below hb)
            clear hb
            clear HIN HGN
            obtain ⟨c00, c01, c02⟩ := mcells_of HIM.out
            go_wp2_with fail
            refine (HM2.out _ HGM.out).mono ?_
            rintro e u6 ⟨⟨Z0, Z1, Z2, Z3, Z4, G2, rfl, hs⟩, hb⟩
            have HB := hid (HB.out.trans (hb.mono HB.out.size))
            have HIA := hid (blkM HIA.out hb)
            have HIM := hid (blkM HIM.out hb)
            have HGA := hid (HGA.out.below hb)
            have HGM := hid (HGM.out.below hb)
            have HRO := hid hs
            clear hs
            clear hb
            have hal : Below u6.heap.size u6 (u6.alloc (MBox Z0 Z1 Z2 Z3 Z4)) := (Below.refl _ _).alloc (Nat.le_refl _) _
            have HB := hid (HB.out.trans (hal.mono HB.out.size))
            have HIA := hid (blkM HIA.out hal)
            have HIM := hid (blkM HIM.out hal)
            have HGA := hid (HGA.out.below hal)
            have HGM := hid (HGM.out.below hal)
            have HRO := hid (HRO.out.below hal)
            have HIO : Hid ((u6.alloc (MBox Z0 Z1 Z2 Z3 Z4)).heap[u6.heap.size]? = some (MBox Z0 Z1 Z2 Z3 Z4)) := nblkM _ _
            obtain ⟨V6, hV6⟩ : ∃ V, Hid ((u6.alloc (MBox Z0 Z1 Z2 Z3 Z4)) = V) := ⟨_, rfl⟩
            rw [hV6.out] at HB HIO HIA HIM HGA HGM HRO
            have hV6' := hV6.out
            unfold MBox at hV6'
            obtain ⟨io, hio⟩ : ∃ t, Hid (u6.heap.size = t) := ⟨_, rfl⟩
            rw [hio.out] at HIO
            have hio' := hio.out
            clear hal
            obtain ⟨c00, c01, c02⟩ := mcells_of HIM.out
            go_wp2_with fail
            refine (HM3.out _ HGM.out).mono ?_
            rintro e u7 ⟨⟨g3, o3, rfl, hg3, _, hk3⟩, hb⟩
            have HB := hid (HB.out.trans (hb.mono HB.out.size))
            have HIA := hid (blkM HIA.out hb)
            have HIM := hid (blkM HIM.out hb)
            have HIO := hid (blkM HIO.out hb)
            have HGA := hid (HGA.out.below hb)
            have HGM := hid (HGM.out.below hb)
            have HRO := hid (HRO.out.below hb)
            have HF3 := hid hg3.2.2.2.1
            have HK3 : Hid (∀ k, k < r * r → canonOf (o3 k) = canonOf (o1 k)) := hk3 HV1.out
            clear hg3 hk3
            clear hb
            have hal : Below u7.heap.size u7 (u7.alloc (MBox r r (some ⟨g3, 0, none⟩) (r * r) (r * r))) := (Below.refl _ _).alloc (Nat.le_refl _) _
            have HB := hid (HB.out.trans (hal.mono HB.out.size))
            have HIA := hid (blkM HIA.out hal)
            have HIM := hid (blkM HIM.out hal)
            have HIO := hid (blkM HIO.out hal)
            have HGA := hid (HGA.out.below hal)
            have HGM := hid (HGM.out.below hal)
            have HRO := hid (HRO.out.below hal)
            have HF3 := hid (HF3.out.below hal)
            have HIP : Hid ((u7.alloc (MBox r r (some ⟨g3, 0, none⟩) (r * r) (r * r))).heap[u7.heap.size]? = some (MBox r r (some ⟨g3, 0, none⟩) (r * r) (r * r))) := nblkM _ _
            obtain ⟨V7, hV7⟩ : ∃ V, Hid ((u7.alloc (MBox r r (some ⟨g3, 0, none⟩) (r * r) (r * r))) = V) := ⟨_, rfl⟩
            rw [hV7.out] at HB HIP HIA HIM HIO HGA HGM HRO HF3
            have hV7' := hV7.out
            unfold MBox at hV7'
            obtain ⟨ip, hip⟩ : ∃ t, Hid (u7.heap.size = t) := ⟨_, rfl⟩
            rw [hip.out] at HIP
            have hip' := hip.out
            clear hal
            by_cases hG2 : G2 = 0
            · subst hG2
              obtain ⟨z0, z1, z3, oo, hoo, hok⟩ : Z0 = r ∧ Z1 = r ∧ Z3 = r * r ∧ ∃ o : Nat → Nat, FnM V7 Z2 Z3 Z4 o ∧ ∀ k, k < r * r → canonOf (o k) = canonOf (o1 k) := by
                rcases HRO.out with ⟨_, h1, h2, h3, h4⟩ | h
                · exact ⟨h1, h2, h3, h4⟩
                · exact absurd rfl h
              subst z0 z1 z3
              have HFO := hid hoo
              have HKO := hid hok
              clear hoo hok
              obtain ⟨c00, c01, c02⟩ := mcells_of HIO.out
              obtain ⟨c10, c11, c12⟩ := mcells_of HIM.out
              go_wp2_with fail
              refine (alike_yes r r _ _ (r * r) _ (r * r) oo o1 _ HFO.out HGM.out.2.2.2.1 HKO.out).mono ?_
              rintro e u8 ⟨rfl, hb⟩
              have HB := hid (HB.out.trans (hb.mono HB.out.size))
              have HIA := hid (blkM HIA.out hb)
              have HIM := hid (blkM HIM.out hb)
              have HIO := hid (blkM HIO.out hb)
              have HIP := hid (blkM HIP.out hb)
              have HGA := hid (HGA.out.below hb)
              have HGM := hid (HGM.out.below hb)
              have HRO := hid (HRO.out.below hb)
              have HF3 := hid (HF3.out.below hb)
              clear hb
              obtain ⟨c00, c01, c02⟩ := mcells_of HIP.out
              obtain ⟨c10, c11, c12⟩ := mcells_of HIM.out
              obtain ⟨c20, c21, c22⟩ := mcells_of HIA.out
              have HZ := hid HK3.out
              go_wp2_with fail
              refine (alike_yes r r _ _ (r * r) (r * r) (r * r) o3 o1 _ HF3.out HGM.out.2.2.2.1 HK3.out).mono ?_
              rintro e u9 ⟨rfl, hb⟩
              have HB := hid (HB.out.trans (hb.mono HB.out.size))
              have HIA := hid (blkM HIA.out hb)
              have HIM := hid (blkM HIM.out hb)
              have HIO := hid (blkM HIO.out hb)
              have HIP := hid (blkM HIP.out hb)
              have HGA := hid (HGA.out.below hb)
              have HGM := hid (HGM.out.below hb)
              have HRO := hid (HRO.out.below hb)
              have HF3 := hid (HF3.out.below hb)
              clear hb
              obtain ⟨c00, c01, c02⟩ := mcells_of HIP.out
              obtain ⟨c10, c11, c12⟩ := mcells_of HIM.out
              obtain ⟨c20, c21, c22⟩ := mcells_of HIA.out
              go_wp2_with fail
              refine (HSY.out _ HGA.out).mono ?_
              rintro e u10 ⟨rfl, hb⟩
              have HB := hid (HB.out.trans (hb.mono HB.out.size))
              have HIA := hid (blkM HIA.out hb)
              have HIM := hid (blkM HIM.out hb)
              have HIO := hid (blkM HIO.out hb)
              have HIP := hid (blkM HIP.out hb)
              have HGA := hid (HGA.out.below hb)
              have HGM := hid (HGM.out.below hb)
              have HRO := hid (HRO.out.below hb)
              have HF3 := hid (HF3.out.below hb)
              clear hb
              cases hvv : v with
              | false =>
                rw [hvv] at *
                go_wp2_with fail
                go_ret
                exact ⟨rfl, HB.out⟩
              | true =>
                obtain ⟨c00, c01, c02⟩ := mcells_of HIM.out
                obtain ⟨c10, c11, c12⟩ := mcells_of HIA.out
                go_wp2_with fail
                refine (alike_yes r r _ _ (r * r) (r * r) ca o1 _ _ HGM.out.2.2.2.1 HGA.out.2.2.2.1 (HK1.out ((symB_iff _ _).1 (hv.out.trans hvv)))).mono ?_
                rintro e u11 ⟨rfl, hb⟩
                have HB := hid (HB.out.trans (hb.mono HB.out.size))
                have HIA := hid (blkM HIA.out hb)
                have HIM := hid (blkM HIM.out hb)
                have HIO := hid (blkM HIO.out hb)
                have HIP := hid (blkM HIP.out hb)
                have HGA := hid (HGA.out.below hb)
                have HGM := hid (HGM.out.below hb)
                have HRO := hid (HRO.out.below hb)
                have HF3 := hid (HF3.out.below hb)
                clear hb
                go_wp2_with fail
                go_ret
                exact ⟨rfl, HB.out⟩
            · have hGz : (G2 != 0) = true := by simpa using hG2
              clear hG2
              obtain ⟨c00, c01, c02⟩ := mcells_of HIO.out
              obtain ⟨c10, c11, c12⟩ := mcells_of HIM.out
              obtain ⟨c20, c21, c22⟩ := mcells_of HIP.out
              obtain ⟨c00, c01, c02⟩ := mcells_of HIP.out
              obtain ⟨c10, c11, c12⟩ := mcells_of HIM.out
              obtain ⟨c20, c21, c22⟩ := mcells_of HIA.out
              have HZ := hid HK3.out
              go_wp2_with fail
              refine (alike_yes r r _ _ (r * r) (r * r) (r * r) o3 o1 _ HF3.out HGM.out.2.2.2.1 HK3.out).mono ?_
              rintro e u8 ⟨rfl, hb⟩
              have HB := hid (HB.out.trans (hb.mono HB.out.size))
              have HIA := hid (blkM HIA.out hb)
              have HIM := hid (blkM HIM.out hb)
              have HIO := hid (blkM HIO.out hb)
              have HIP := hid (blkM HIP.out hb)
              have HGA := hid (HGA.out.below hb)
              have HGM := hid (HGM.out.below hb)
              have HRO := hid (HRO.out.below hb)
              have HF3 := hid (HF3.out.below hb)
              clear hb
              obtain ⟨c00, c01, c02⟩ := mcells_of HIP.out
              obtain ⟨c10, c11, c12⟩ := mcells_of HIM.out
              obtain ⟨c20, c21, c22⟩ := mcells_of HIA.out
              go_wp2_with fail
              refine (HSY.out _ HGA.out).mono ?_
              rintro e u9 ⟨rfl, hb⟩
              have HB := hid (HB.out.trans (hb.mono HB.out.size))
              have HIA := hid (blkM HIA.out hb)
              have HIM := hid (blkM HIM.out hb)
              have HIO := hid (blkM HIO.out hb)
              have HIP := hid (blkM HIP.out hb)
              have HGA := hid (HGA.out.below hb)
              have HGM := hid (HGM.out.below hb)
              have HRO := hid (HRO.out.below hb)
              have HF3 := hid (HF3.out.below hb)
              clear hb
              cases hvv : v with
              | false =>
                rw [hvv] at *
                go_wp2_with fail
                go_ret
                exact ⟨rfl, HB.out⟩
              | true =>
                obtain ⟨c00, c01, c02⟩ := mcells_of HIM.out
                obtain ⟨c10, c11, c12⟩ := mcells_of HIA.out
                go_wp2_with fail
                refine (alike_yes r r _ _ (r * r) (r * r) ca o1 _ _ HGM.out.2.2.2.1 HGA.out.2.2.2.1 (HK1.out ((symB_iff _ _).1 (hv.out.trans hvv)))).mono ?_
                rintro e u10 ⟨rfl, hb⟩
                have HB := hid (HB.out.trans (hb.mono HB.out.size))
                have HIA := hid (blkM HIA.out hb)
                have HIM := hid (blkM HIM.out hb)
                have HIO := hid (blkM HIO.out hb)
                have HIP := hid (blkM HIP.out hb)
                have HGA := hid (HGA.out.below hb)
                have HGM := hid (HGM.out.below hb)
                have HRO := hid (HRO.out.below hb)
                have HF3 := hid (HF3.out.below hb)
                clear hb
                go_wp2_with fail
                go_ret
                exact ⟨rfl, HB.out⟩
          · have hGy : (G == 0) = false := by simpa using hG
            clear hG HRN
            obtain ⟨c00, c01, c02⟩ := mcells_of HIN.out
            clear HIN
            obtain ⟨c00, c01, c02⟩ := mcells_of HIM.out
            go_wp2_with fail
            refine (HM2.out _ HGM.out).mono ?_
            rintro e u5 ⟨⟨Z0, Z1, Z2, Z3, Z4, G2, rfl, hs⟩, hb⟩
            have HB := hid (HB.out.trans (hb.mono HB.out.size))
            have HIA := hid (blkM HIA.out hb)
            have HIM := hid (blkM HIM.out hb)
            have HGA := hid (HGA.out.below hb)
            have HGM := hid (HGM.out.below hb)
            have HRO := hid hs
            clear hs
            clear hb
            have hal : Below u5.heap.size u5 (u5.alloc (MBox Z0 Z1 Z2 Z3 Z4)) := (Below.refl _ _).alloc (Nat.le_refl _) _
            have HB := hid (HB.out.trans (hal.mono HB.out.size))
            have HIA := hid (blkM HIA.out hal)
            have HIM := hid (blkM HIM.out hal)
            have HGA := hid (HGA.out.below hal)
            have HGM := hid (HGM.out.below hal)
            have HRO := hid (HRO.out.below hal)
            have HIO : Hid ((u5.alloc (MBox Z0 Z1 Z2 Z3 Z4)).heap[u5.heap.size]? = some (MBox Z0 Z1 Z2 Z3 Z4)) := nblkM _ _
            obtain ⟨V5, hV5⟩ : ∃ V, Hid ((u5.alloc (MBox Z0 Z1 Z2 Z3 Z4)) = V) := ⟨_, rfl⟩
            rw [hV5.out] at HB HIO HIA HIM HGA HGM HRO
            have hV5' := hV5.out
            unfold MBox at hV5'
            obtain ⟨io, hio⟩ : ∃ t, Hid (u5.heap.size = t) := ⟨_, rfl⟩
            rw [hio.out] at HIO
            have hio' := hio.out
            clear hal
            obtain ⟨c00, c01, c02⟩ := mcells_of HIM.out
            go_wp2_with fail
            refine (HM3.out _ HGM.out).mono ?_
            rintro e u6 ⟨⟨g3, o3, rfl, hg3, _, hk3⟩, hb⟩
            have HB := hid (HB.out.trans (hb.mono HB.out.size))
            have HIA := hid (blkM HIA.out hb)
            have HIM := hid (blkM HIM.out hb)
            have HIO := hid (blkM HIO.out hb)
            have HGA := hid (HGA.out.below hb)
            have HGM := hid (HGM.out.below hb)
            have HRO := hid (HRO.out.below hb)
            have HF3 := hid hg3.2.2.2.1
            have HK3 : Hid (∀ k, k < r * r → canonOf (o3 k) = canonOf (o1 k)) := hk3 HV1.out
            clear hg3 hk3
            clear hb
            have hal : Below u6.heap.size u6 (u6.alloc (MBox r r (some ⟨g3, 0, none⟩) (r * r) (r * r))) := (Below.refl _ _).alloc (Nat.le_refl _) _
            have HB := hid (HB.out.trans (hal.mono HB.out.size))
            have HIA := hid (blkM HIA.out hal)
            have HIM := hid (blkM HIM.out hal)
            have HIO := hid (blkM HIO.out hal)
            have HGA := hid (HGA.out.below hal)
            have HGM := hid (HGM.out.below hal)
            have HRO := hid (HRO.out.below hal)
            have HF3 := hid (HF3.out.below hal)
            have HIP : Hid ((u6.alloc (MBox r r (some ⟨g3, 0, none⟩) (r * r) (r * r))).heap[u6.heap.size]? = some (MBox r r (some ⟨g3, 0, none⟩) (r * r) (r * r))) := nblkM _ _
            obtain ⟨V6, hV6⟩ : ∃ V, Hid ((u6.alloc (MBox r r (some ⟨g3, 0, none⟩) (r * r) (r * r))) = V) := ⟨_, rfl⟩
            rw [hV6.out] at HB HIP HIA HIM HIO HGA HGM HRO HF3
            have hV6' := hV6.out
            unfold MBox at hV6'
            obtain ⟨ip, hip⟩ : ∃ t, Hid (u6.heap.size = t) := ⟨_, rfl⟩
            rw [hip.out] at HIP
            have hip' := hip.out
            clear hal
            by_cases hG2 : G2 = 0
            · subst hG2
              obtain ⟨z0, z1, z3, oo, hoo, hok⟩ : Z0 = r ∧ Z1 = r ∧ Z3 = r * r ∧ ∃ o : Nat → Nat, FnM V6 Z2 Z3 Z4 o ∧ ∀ k, k < r * r → canonOf (o k) = canonOf (o1 k) := by
                rcases HRO.out with ⟨_, h1, h2, h3, h4⟩ | h
                · exact ⟨h1, h2, h3, h4⟩
                · exact absurd rfl h
              subst z0 z1 z3
              have HFO := hid hoo
              have HKO := hid hok
              clear hoo hok
              obtain ⟨c00, c01, c02⟩ := mcells_of HIO.out
              obtain ⟨c10, c11, c12⟩ := mcells_of HIM.out
              go_wp2_with fail
              refine (alike_yes r r _ _ (r * r) _ (r * r) oo o1 _ HFO.out HGM.out.2.2.2.1 HKO.out).mono ?_
              rintro e u7 ⟨rfl, hb⟩
              have HB := hid (HB.out.trans (hb.mono HB.out.size))
              have HIA := hid (blkM HIA.out hb)
              have HIM := hid (blkM HIM.out hb)
              have HIO := hid (blkM HIO.out hb)
              have HIP := hid (blkM HIP.out hb)
              have HGA := hid (HGA.out.below hb)
              have HGM := hid (HGM.out.below hb)
              have HRO := hid (HRO.out.below hb)
              have HF3 := hid (HF3.out.below hb)
              clear hb
              obtain ⟨c00, c01, c02⟩ := mcells_of HIP.out
              obtain ⟨c10, c11, c12⟩ := mcells_of HIM.out
              obtain ⟨c20, c21, c22⟩ := mcells_of HIA.out
              have HZ := hid HK3.out
              go_wp2_with fail
              refine (alike_yes r r _ _ (r * r) (r * r) (r * r) o3 o1 _ HF3.out HGM.out.2.2.2.1 HK3.out).mono ?_
              rintro e u8 ⟨rfl, hb⟩
              have HB := hid (HB.out.trans (hb.mono HB.out.size))
              have HIA := hid (blkM HIA.out hb)
              have HIM := hid (blkM HIM.out hb)
              have HIO := hid (blkM HIO.out hb)
              have HIP := hid (blkM HIP.out hb)
              have HGA := hid (HGA.out.below hb)
              have HGM := hid (HGM.out.below hb)
              have HRO := hid (HRO.out.below hb)
              have HF3 := hid (HF3.out.below hb)
              clear hb
              obtain ⟨c00, c01, c02⟩ := mcells_of HIP.out
              obtain ⟨c10, c11, c12⟩ := mcells_of HIM.out
              obtain ⟨c20, c21, c22⟩ := mcells_of HIA.out
              go_wp2_with fail
              refine (HSY.out _ HGA.out).mono ?_
              rintro e u9 ⟨rfl, hb⟩
              have HB := hid (HB.out.trans (hb.mono HB.out.size))
              have HIA := hid (blkM HIA.out hb)
              have HIM := hid (blkM HIM.out hb)
              have HIO := hid (blkM HIO.out hb)
              have HIP := hid (blkM HIP.out hb)
              have HGA := hid (HGA.out.below hb)
              have HGM := hid (HGM.out.below hb)
              have HRO := hid (HRO.out.below hb)
              have HF3 := hid (HF3.out.below hb)
              clear hb
              cases hvv : v with
              | false =>
                rw [hvv] at *
                go_wp2_with fail
                go_ret
                exact ⟨rfl, HB.out⟩
              | true =>
                obtain ⟨c00, c01, c02⟩ := mcells_of HIM.out
                obtain ⟨c10, c11, c12⟩ := mcells_of HIA.out
                go_wp2_with fail
                refine (alike_yes r r _ _ (r * r) (r * r) ca o1 _ _ HGM.out.2.2.2.1 HGA.out.2.2.2.1 (HK1.out ((symB_iff _ _).1 (hv.out.trans hvv)))).mono ?_
                rintro e u10 ⟨rfl, hb⟩
                have HB := hid (HB.out.trans (hb.mono HB.out.size))
                have HIA := hid (blkM HIA.out hb)
                have HIM := hid (blkM HIM.out hb)
                have HIO := hid (blkM HIO.out hb)
                have HIP := hid (blkM HIP.out hb)
                have HGA := hid (HGA.out.below hb)
                have HGM := hid (HGM.out.below hb)
                have HRO := hid (HRO.out.below hb)
                have HF3 := hid (HF3.out.below hb)
                clear hb
                go_wp2_with fail
                go_ret
                exact ⟨rfl, HB.out⟩
            · have hGz : (G2 != 0) = true := by simpa using hG2
              clear hG2
              obtain ⟨c00, c01, c02⟩ := mcells_of HIO.out
              obtain ⟨c10, c11, c12⟩ := mcells_of HIM.out
              obtain ⟨c20, c21, c22⟩ := mcells_of HIP.out
              obtain ⟨c00, c01, c02⟩ := mcells_of HIP.out
              obtain ⟨c10, c11, c12⟩ := mcells_of HIM.out
              obtain ⟨c20, c21, c22⟩ := mcells_of HIA.out
              have HZ := hid HK3.out
              go_wp2_with fail
              refine (alike_yes r r _ _ (r * r) (r * r) (r * r) o3 o1 _ HF3.out HGM.out.2.2.2.1 HK3.out).mono ?_
              rintro e u7 ⟨rfl, hb⟩
              have HB := hid (HB.out.trans (hb.mono HB.out.size))
              have HIA := hid (blkM HIA.out hb)
              have HIM := hid (blkM HIM.out hb)
              have HIO := hid (blkM HIO.out hb)
              have HIP := hid (blkM HIP.out hb)
              have HGA := hid (HGA.out.below hb)
              have HGM := hid (HGM.out.below hb)
              have HRO := hid (HRO.out.below hb)
              have HF3 := hid (HF3.out.below hb)
              clear hb
              obtain ⟨c00, c01, c02⟩ := mcells_of HIP.out
              obtain ⟨c10, c11, c12⟩ := mcells_of HIM.out
              obtain ⟨c20, c21, c22⟩ := mcells_of HIA.out
              go_wp2_with fail
              refine (HSY.out _ HGA.out).mono ?_
              rintro e u8 ⟨rfl, hb⟩
              have HB := hid (HB.out.trans (hb.mono HB.out.size))
              have HIA := hid (blkM HIA.out hb)
              have HIM := hid (blkM HIM.out hb)
              have HIO := hid (blkM HIO.out hb)
              have HIP := hid (blkM HIP.out hb)
              have HGA := hid (HGA.out.below hb)
              have HGM := hid (HGM.out.below hb)
              have HRO := hid (HRO.out.below hb)
              have HF3 := hid (HF3.out.below hb)
              clear hb
              cases hvv : v with
              | false =>
                rw [hvv] at *
                go_wp2_with fail
                go_ret
                exact ⟨rfl, HB.out⟩
              | true =>
                obtain ⟨c00, c01, c02⟩ := mcells_of HIM.out
                obtain ⟨c10, c11, c12⟩ := mcells_of HIA.out
                go_wp2_with fail
                refine (alike_yes r r _ _ (r * r) (r * r) ca o1 _ _ HGM.out.2.2.2.1 HGA.out.2.2.2.1 (HK1.out ((symB_iff _ _).1 (hv.out.trans hvv)))).mono ?_
                rintro e u9 ⟨rfl, hb⟩
                have HB := hid (HB.out.trans (hb.mono HB.out.size))
                have HIA := hid (blkM HIA.out hb)
                have HIM := hid (blkM HIM.out hb)
                have HIO := hid (blkM HIO.out hb)
                have HIP := hid (blkM HIP.out hb)
                have HGA := hid (HGA.out.below hb)
                have HGM := hid (HGM.out.below hb)
                have HRO := hid (HRO.out.below hb)
                have HF3 := hid (HF3.out.below hb)
                clear hb
                go_wp2_with fail
                go_ret
                exact ⟨rfl, HB.out⟩
        · have HMN := hid (fun W (h : Gd W r c ta n ca (fun j => xs.getD j 0)) => Mirror_non r c 3 n ta ca W (by decide) (fun W2 h2 => by
              have := square_good r c n ta ca _ W2 (h.below h2)
              rw [if_neg hrc] at this
              exact this))
          unfold NonM MV at HMN
          have HGA := hid hga
          rw [hEa] at HCA
          have hne : ((r : Int) != (c : Int)) = true := by simp; omega
          clear hga hEa hrc
          have HMN : Hid (∀ W, Gd W r c ta n ca (fun j => xs.getD j 0) → Calls Try.prog 21 #[.agg #[.int .i64 r, .int .i64 c, .slice ta n ca]] W fun e w' => (∃ Y0 Y1 Y2 Y3 Y4, e = .returned (.tuple #[.agg #[.int .i64 Y0, .int .i64 Y1, .slice Y2 Y3 Y4], .int .i64 3])) ∧ Below W.heap.size W w') := fun W h => (HMN.out W h).mono (fun _ _ h => ⟨⟨0, 0, none, 0, 0, h.1⟩, h.2⟩)
          obtain ⟨c00, c01, c02⟩ := mcells_of HIA.out
          go_wp2_with fail
          refine (HMN.out _ HGA.out).mono ?_
          rintro e u2 ⟨⟨Y0, Y1, Y2, Y3, Y4, rfl⟩, hb⟩
          have HB := hid (HB.out.trans (hb.mono HB.out.size))
          have HIA := hid (blkM HIA.out hb)
          have HFA := hid (HFA.out.below hb)
          have HGA := hid (HGA.out.below hb)
          clear hb
          have hal : Below u2.heap.size u2 (u2.alloc (MBox Y0 Y1 Y2 Y3 Y4)) := (Below.refl _ _).alloc (Nat.le_refl _) _
          have HB := hid (HB.out.trans (hal.mono HB.out.size))
          have HIA := hid (blkM HIA.out hal)
          have HFA := hid (HFA.out.below hal)
          have HGA := hid (HGA.out.below hal)
          have HIM : Hid ((u2.alloc (MBox Y0 Y1 Y2 Y3 Y4)).heap[u2.heap.size]? = some (MBox Y0 Y1 Y2 Y3 Y4)) := nblkM _ _
          obtain ⟨V2, hV2⟩ : ∃ V, Hid ((u2.alloc (MBox Y0 Y1 Y2 Y3 Y4)) = V) := ⟨_, rfl⟩
          rw [hV2.out] at HB HIM HIA HFA HGA
          have hV2' := hV2.out
          unfold MBox at hV2'
          obtain ⟨im, him⟩ : ∃ t, Hid (u2.heap.size = t) := ⟨_, rfl⟩
          rw [him.out] at HIM
          have him' := him.out
          clear hal
          obtain ⟨c00, c01, c02⟩ := mcells_of HIA.out
          go_wp2_with fail
          refine (HCA.out _ HFA.out).mono ?_
          rintro e u3 ⟨rfl, hb⟩
          have HB := hid (HB.out.trans (hb.mono HB.out.size))
          have HIA := hid (blkM HIA.out hb)
          have HIM := hid (blkM HIM.out hb)
          have HFA := hid (HFA.out.below hb)
          have HGA := hid (HGA.out.below hb)
          clear hb
          obtain ⟨c00, c01, c02⟩ := mcells_of HIA.out
          go_wp2_with fail
          go_ret
          exact ⟨rfl, HB.out⟩
      · have HMN := hid (fun W (h : FlM W ta n ca xs) => Mirror_non rx cx _ n ta ca W hEa (fun W2 h2 => square_bad rx cx n ta ca xs W2 (h.below h2) HNM.out.1 hEa))
        obtain ⟨F, hF⟩ : ∃ E, Hid (chkM rx cx n xs = E) := ⟨_, rfl⟩
        rw [hF.out] at HMN HCA hEa
        unfold NonM MV at HMN
        have hne : (F != 0) = true := by simpa using hEa
        clear hEa
        have HMN : Hid (∀ W, FlM W ta n ca xs → Calls Try.prog 21 #[.agg #[.int .i64 rx, .int .i64 cx, .slice ta n ca]] W fun e w' => (∃ Y0 Y1 Y2 Y3 Y4, e = .returned (.tuple #[.agg #[.int .i64 Y0, .int .i64 Y1, .slice Y2 Y3 Y4], .int .i64 F])) ∧ Below W.heap.size W w') := fun W h => (HMN.out W h).mono (fun _ _ h => ⟨⟨0, 0, none, 0, 0, h.1⟩, h.2⟩)
        obtain ⟨c00, c01, c02⟩ := mcells_of HIA.out
        go_wp2_with fail
        refine (HMN.out _ HFA.out).mono ?_
        rintro e u2 ⟨⟨Y0, Y1, Y2, Y3, Y4, rfl⟩, hb⟩
        have HB := hid (HB.out.trans (hb.mono HB.out.size))
        have HIA := hid (blkM HIA.out hb)
        have HFA := hid (HFA.out.below hb)
        clear hb
        have hal : Below u2.heap.size u2 (u2.alloc (MBox Y0 Y1 Y2 Y3 Y4)) := (Below.refl _ _).alloc (Nat.le_refl _) _
        have HB := hid (HB.out.trans (hal.mono HB.out.size))
        have HIA := hid (blkM HIA.out hal)
        have HFA := hid (HFA.out.below hal)
        have HIM : Hid ((u2.alloc (MBox Y0 Y1 Y2 Y3 Y4)).heap[u2.heap.size]? = some (MBox Y0 Y1 Y2 Y3 Y4)) := nblkM _ _
        obtain ⟨V2, hV2⟩ : ∃ V, Hid ((u2.alloc (MBox Y0 Y1 Y2 Y3 Y4)) = V) := ⟨_, rfl⟩
        rw [hV2.out] at HB HIM HIA HFA
        have hV2' := hV2.out
        unfold MBox at hV2'
        obtain ⟨im, him⟩ : ∃ t, Hid (u2.heap.size = t) := ⟨_, rfl⟩
        rw [him.out] at HIM
        have him' := him.out
        clear hal
        obtain ⟨c00, c01, c02⟩ := mcells_of HIA.out
        go_wp2_with fail
        refine (HCA.out _ HFA.out).mono ?_
        rintro e u3 ⟨rfl, hb⟩
        have HB := hid (HB.out.trans (hb.mono HB.out.size))
        have HIA := hid (blkM HIA.out hb)
        have HIM := hid (blkM HIM.out hb)
        have HFA := hid (HFA.out.below hb)
        clear hb
        go_wp2_with fail
        go_ret
        exact ⟨rfl, HB.out⟩
end Go.Proofs.Ytfkpdjieiifldab
