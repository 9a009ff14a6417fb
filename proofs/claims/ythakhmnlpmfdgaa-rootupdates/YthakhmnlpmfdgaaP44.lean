
/- The document's look ahead, by steps. (Written by mkrtae.py.) -/
import Derived.Test.YthakhmnlpmfdgaaP43
namespace Go.Proofs.Ythakhmnlpmfdgaa
open Go.RowKit Go.IntWalk

theorem finF_succ (n : Nat) (f : Nat → Nat) : finF (n + 1) f = (finF n f && finB (f n)) := by
  rw [← fin_sgl]
  unfold finF finM
  rw [List.range_succ, List.map_append, List.all_append]
  rfl
theorem sumA_lt (v : Nat → Nat) (x n d : Nat) (hx : x < 18446744073709551616) : sumA v x n d < 18446744073709551616 := by
  cases d with
  | zero => exact canon_lt hx
  | succ d => exact caf_lt .add ok_a _ _
/-- The variables of what is seen. -/
structure FrS (w W : World) (b p0 gv ga n N1 : Nat) (o : Bool) (R : Obj) (fv fa : Nat → Nat) : Prop where
  stp : Stp w.heap.size b o w W
  box : W.heap[p0]? = some R
  rv : W.rowIs gv 28 n (fun t => .float .f64 (fv t))
  ra : W.rowIs ga 28 N1 (fun t => .float .f64 (fa t))
  ne : p0 ≠ b ∧ gv ≠ b ∧ ga ≠ b ∧ gv ≠ ga ∧ p0 ≠ gv ∧ p0 ≠ ga ∧ w.heap.size ≤ gv ∧ w.heap.size ≤ ga ∧ w.heap.size ≤ p0
section
variable {w W W' : World} {b p0 gv ga n N1 : Nat} {o : Bool} {R : Obj} {fv fa : Nat → Nat}
theorem FrS.step (h : FrS w W b p0 gv ga n N1 o R fv fa) (hb : Below W.heap.size W W') : FrS w W' b p0 gv ga n N1 o R fv fa := ⟨h.stp.step hb h.stp.size, blkM h.box hb, h.rv.of_block (hb.block _ h.rv.lt), h.ra.of_block (hb.block _ h.ra.lt), h.ne⟩
theorem FrS.s (h : FrS w W b p0 gv ga n N1 o R fv fa) (p : Bool) : FrS w (W.setCell ⟨b, 0, none⟩ (.bool p)) b p0 gv ga n N1 p R fv fa := ⟨h.stp.s p, (Below.heap_setCell W ⟨b, 0, none⟩ _ p0 h.ne.1).trans h.box, h.rv.setOther h.ne.2.1 _, h.ra.setOther h.ne.2.2.1 _, h.ne⟩
theorem FrS.dot {p : Bool} (h : FrS w W b p0 gv ga n N1 o R fv fa) (k : Stp W.heap.size b p W W') : FrS w W' b p0 gv ga n N1 p R fv fa := ⟨h.stp.trans k h.stp.size, k.at h.box (Array.getElem?_eq_some_iff.1 h.box).1 h.ne.1, h.rv.of_block (k.keep _ h.rv.lt h.ne.2.1), h.ra.of_block (k.keep _ h.ra.lt h.ne.2.2.1), h.ne⟩
theorem FrS.setv (h : FrS w W b p0 gv ga n N1 o R fv fa) (j z : Nat) : FrS w (W.setCell ⟨gv, j, none⟩ (.float .f64 z)) b p0 gv ga n N1 o R (fun t => if t = j then z else fv t) fa := ⟨h.stp.cell h.ne.2.2.2.2.2.2.1 h.ne.2.1 _, (Below.heap_setCell W ⟨gv, j, none⟩ _ p0 h.ne.2.2.2.2.1).trans h.box, (h.rv.set j _).congr (fun t _ => by by_cases e : t = j <;> simp [e]), h.ra.setOther (a := ⟨gv, j, none⟩) (Ne.symm h.ne.2.2.2.1) _, h.ne⟩
theorem FrS.seta (h : FrS w W b p0 gv ga n N1 o R fv fa) (j z : Nat) : FrS w (W.setCell ⟨ga, j, none⟩ (.float .f64 z)) b p0 gv ga n N1 o R fv (fun t => if t = j then z else fa t) := ⟨h.stp.cell h.ne.2.2.2.2.2.2.2.1 h.ne.2.2.1 _, (Below.heap_setCell W ⟨ga, j, none⟩ _ p0 h.ne.2.2.2.2.2.1).trans h.box, h.rv.setOther (a := ⟨ga, j, none⟩) h.ne.2.2.2.1 _, (h.ra.set j _).congr (fun t _ => by by_cases e : t = j <;> simp [e]), h.ne⟩
end
set_option maxRecDepth 8000 in
set_option maxHeartbeats 8000000 in
theorem rSeen (b : Nat) (o : Bool) (n m ka kx kh x : Nat) (xa sa ha : Option Addr) (zs hs : List Nat) (f : Nat → Nat) (w : World) (hs0 : w.heap[b]? = some (SBx o)) (hX : FlM w xa n kx zs) (hL : Gd w n n sa m ka f) (hH : FlM w ha n kh hs) (hx : x < 18446744073709551616) (fx : finM [x] = true) :
    Calls Try.prog 27 #[.agg #[.slice xa n kx, .int .i64 n, .int .i64 n, .slice sa m ka], .slice ha n kh, .float .f64 x, .pointer (some ⟨b, 0, none⟩)] w fun e w' => (∃ (M gv ga : Nat) (fv fa : Nat → Nat), e = .returned (.tuple #[.float .f64 M, .slice (some ⟨gv, 0, none⟩) n n, .slice (some ⟨ga, 0, none⟩) (n + 1) (n + 1)]) ∧ (M < 18446744073709551616 ∧ canonOf M = dotW hs zs n) ∧ w.heap.size ≤ gv ∧ w.heap.size ≤ ga ∧ gv ≠ ga ∧ FnM w' (some ⟨gv, 0, none⟩) n n fv ∧ FnM w' (some ⟨ga, 0, none⟩) (n + 1) (n + 1) fa ∧ (∀ t, t < n → canonOf (fv t) = alV f hs n t) ∧ ∀ t, t ≤ n → canonOf (fa t) = sumA (alV f hs n) x n (n - t)) ∧ Stp w.heap.size b (o || !(finF n (alV f hs n) && finB (dotW hs zs n) && finB (sumA (alV f hs n) x n n))) w w' := by
  obtain ⟨N1, hN1⟩ : ∃ t, Hid (n + 1 = t) := ⟨_, rfl⟩
  rw [hN1.out]
  have HSB := hid hs0
  have HN : Hid (n ≤ 12) := hL.1
  have HMN : Hid (m = n * n) := hL.2.2.1
  have HX := hid hX.fn
  have HH := hid hH.fn
  have HLF : Hid (FnM w sa m ka f) := hL.2.2.2.1
  have HXL := hid hx
  have HFX : Hid (finB (canonOf x) = true) := by show _ = _; rw [finB_canon, ← fin_sgl]; exact fx
  have r1 := ar_run .add ok_a
  have r3 := ar_run .mul ok_m
  have hst := fstoreM
  have HRUN1 := hid (run_make_row' (P := Try.prog) 32 28 (.float .f64 0) 8 Try.underlying32 info_fM rfl .i64 .i64 N1 (by have := hN1.out; have := HN.out; omega) (by have := hN1.out; have := HN.out; omega))
  have HRUN := hid (run_make_row' (P := Try.prog) 32 28 (.float .f64 0) 8 Try.underlying32 info_fM rfl .i64 .i64 n (by have := HN.out; omega) (by have := HN.out; omega))
  have hmk1 := HRUN1.out
  have hmk2 := HRUN.out
  have HBL : Hid (b < w.heap.size) := (Array.getElem?_eq_some_iff.1 hs0).1
  have H0 : Hid ((w.alloc (RBox xa n kx n n sa m ka)).heap[w.heap.size]? = some (RBox xa n kx n n sa m ka)) := nblkM _ _
  have HW0 : Hid (Stp w.heap.size b o w (w.alloc (RBox xa n kx n n sa m ka))) := (Stp.start hs0).step ((Below.refl _ _).alloc (Nat.le_refl _) _) (Nat.le_refl _)
  have HVS : Hid ((w.alloc (RBox xa n kx n n sa m ka)).heap.size = w.heap.size + 1) := World.size_alloc _ _
  obtain ⟨V, hV⟩ : ∃ t, Hid (w.alloc (RBox xa n kx n n sa m ka) = t) := ⟨_, rfl⟩
  rw [hV.out] at H0 HW0 HVS
  have hV' := hV.out
  unfold RBox at hV'
  obtain ⟨p0, hp0⟩ : ∃ t, Hid (w.heap.size = t) := ⟨_, rfl⟩
  have e0 := hp0.out
  rw [hp0.out] at H0
  have wN : IntKind.i64.wrap ((n : Int) + 1) = (N1 : Int) := by rw [show (N1 : Int) = (n : Int) + 1 by have := hN1.out; omega]; exact IntWalk.i64_in _ (by have := HN.out; omega)
  clear hs0 hX hL hH hx fx
  go_enter Try.func27, Try.ntmps27
  go_wp2_with fail
  have HKS0 : Hid (∀ W : World, Hid (V.heap.size ≤ W.heap.size) → True ∧ Hid (V.heap.size ≤ W.heap.size)) := fun _ h => ⟨trivial, h⟩
  have HQ0 : Hid (V.heap.size ≤ V.drew.heap.size) := Nat.le_refl _
  refine region_merge2 (fun a0 a' w' => ∃ gv ga : Nat, a' = Act.put (Act.put (Act.put (Act.put (Act.put (Act.put (Act.put (a0) (some 19) (.int .i64 n)) (some 20) (.slice (some ⟨gv, 0, none⟩) n n)) (some 21) (.int .i64 n)) (some 22) (.int .i64 N1)) (some 23) (.slice (some ⟨ga, 0, none⟩) N1 N1)) (some 12) (.slice (some ⟨gv, 0, none⟩) n n)) (some 13) (.slice (some ⟨ga, 0, none⟩) N1 N1) ∧ FrS w w' b p0 gv ga n N1 o (RBox xa n kx n n sa m ka) (fun _ => 0) (fun _ => 0)) (fun HR => ?_) ?_
  · simp only [Act.put, List.setIfInBounds_toArray, List.set_cons_zero, List.set_cons_succ] at HR
    refine wp_region_held_drew (S := fun W => True ∧ Hid (V.heap.size ≤ W.heap.size)) (by kernel_rfl) (HKS0.out _ HQ0) (fun hHeld => ?_)
    refine take_at 0 19 (.int .i64 n) rfl rfl (by kernel_rfl) (by kernel_rfl) (by kernel_rfl) (fun _ _ _ h => h) (Or.inl ⟨by rfl, fun w hSw => by (try dsimp only at hSw); go_simp⟩) (by assumption) ?_
    simp only [Act.put, List.setIfInBounds_toArray, List.set_cons_zero, List.set_cons_succ]
    refine take_at 2 21 (.int .i64 n) rfl rfl (by kernel_rfl) (by kernel_rfl) (by kernel_rfl) (fun _ _ _ h => h) (Or.inl ⟨by rfl, fun w hSw => by (try dsimp only at hSw); go_simp⟩) (by assumption) ?_
    simp only [Act.put, List.setIfInBounds_toArray, List.set_cons_zero, List.set_cons_succ]
    refine take_at 3 22 (.int .i64 N1) rfl rfl (by kernel_rfl) (by kernel_rfl) (by kernel_rfl) (fun _ _ _ h => h) (Or.inl ⟨by rfl, fun w hSw => by (try dsimp only at hSw); go_simp⟩) (by assumption) ?_
    simp only [Act.put, List.setIfInBounds_toArray, List.set_cons_zero, List.set_cons_succ]
    refine wpAnyH_ready (rs := [1, 4]) (by kernel_rfl) (by simp) ?_
    refine AllReadyH.cons (o := _) rfl (fun K hK => ?_) (AllReadyH.cons (o := _) rfl (fun K hK => ?_) AllReadyH.nil)
    · have b1 : Hid (Stp w.heap.size b o w V.drew) := HW0.out.step (Below.refl _ _).drew (by have := HVS.out; omega)
      have z1 := World.rowIs_made V.drew (.float .f64 0) n 28
      have b2 : Stp w.heap.size b o w (V.drew.alloc (.cells (madeCells #[.float .f64 0] n) 28)) := b1.out.step ((Below.refl _ _).alloc (Nat.le_refl _) _) b1.out.size
      have z2 : (V.drew.alloc (.cells (madeCells #[.float .f64 0] n) 28)).heap[p0]? = some (RBox xa n kx n n sa m ka) := blkM (show V.drew.heap[p0]? = some (RBox xa n kx n n sa m ka) from H0.out) ((Below.refl _ _).alloc (Nat.le_refl _) _)
      have s1 : (V.drew.alloc (.cells (madeCells #[.float .f64 0] n) 28)).heap.size = V.heap.size + 1 := World.size_alloc _ _
      obtain ⟨V1, hV1⟩ : ∃ t, Hid (V.drew.alloc (.cells (madeCells #[.float .f64 0] n) 28) = t) := ⟨_, rfl⟩
      rw [hV1.out] at z1 b2 z2 s1
      have hV1' : (V.alloc (.cells (madeCells #[.float .f64 0] n) 28)).drew = V1 := hV1.out
      have z3 := World.rowIs_made V1 (.float .f64 0) N1 28
      have al : Below V1.heap.size V1 (V1.alloc (.cells (madeCells #[.float .f64 0] N1) 28)) := (Below.refl _ _).alloc (Nat.le_refl _) _
      have hz : V.drew.heap.size = V.heap.size := rfl
      rw [hz] at z1
      obtain ⟨gv, hg1⟩ : ∃ t, Hid (V.heap.size = t) := ⟨_, rfl⟩
      obtain ⟨ga, hg2⟩ : ∃ t, Hid (V1.heap.size = t) := ⟨_, rfl⟩
      rw [hg1.out] at z1
      rw [hg2.out] at z3
      have HFR : Hid (FrS w (V1.alloc (.cells (madeCells #[.float .f64 0] N1) 28)) b p0 gv ga n N1 o (RBox xa n kx n n sa m ka) (fun _ => 0) (fun _ => 0)) := ⟨b2.step al b2.size, blkM z2 al, z1.of_block (al.block _ z1.lt), z3, by have := hg1.out; have := hg2.out; have := HVS.out; have := hp0.out; have := HBL.out; omega⟩
      obtain ⟨V2, hV2⟩ : ∃ t, Hid (V1.alloc (.cells (madeCells #[.float .f64 0] N1) 28) = t) := ⟨_, rfl⟩
      rw [hV2.out] at HFR
      have hV2' := hV2.out
      have hg1' := hg1.out
      have hg2' := hg2.out
      have HQ1 : Hid (V.heap.size ≤ V1.heap.size) := by show _ ≤ _; omega
      have HQ2 : Hid (V.heap.size ≤ V2.heap.size) := by show _ ≤ _; have := HFR.out.ra.lt; have := HFR.out.rv.lt; have := hg1.out; have := hg2.out; omega
      clear z1 b2 z2 s1 z3 al hz
      go_simp
      go_wp2_with fail
      refine hK.out _ _ (HKS0.out _ HQ1) (fun hHeld1 => ?_)
      clear hK K
      try simp only [Act.put, List.setIfInBounds_toArray, List.set_cons_zero, List.set_cons_succ]
      refine take_at 5 12 (.slice (some ⟨gv, 0, none⟩) n n) rfl rfl (by kernel_rfl) (by kernel_rfl) (by kernel_rfl) (fun _ _ _ h => h) (Or.inl ⟨by rfl, fun w hSw => by (try dsimp only at hSw); go_simp⟩) (by assumption) ?_
      simp only [Act.put, List.setIfInBounds_toArray, List.set_cons_zero, List.set_cons_succ]
      refine wpAnyH_ready (rs := [4]) (by kernel_rfl) (by simp) ?_
      refine AllReadyH.cons (o := _) rfl (fun K hK => ?_) AllReadyH.nil
      go_simp
      go_wp2_with fail
      refine hK.out _ _ (HKS0.out _ HQ2) (fun hHeld2 => ?_)
      clear hK K
      try simp only [Act.put, List.setIfInBounds_toArray, List.set_cons_zero, List.set_cons_succ]
      refine take_at 6 13 (.slice (some ⟨ga, 0, none⟩) N1 N1) rfl rfl (by kernel_rfl) (by kernel_rfl) (by kernel_rfl) (fun _ _ _ h => h) (Or.inl ⟨by rfl, fun w hSw => by (try dsimp only at hSw); go_simp⟩) (by assumption) ?_
      simp only [Act.put, List.setIfInBounds_toArray, List.set_cons_zero, List.set_cons_succ]
      refine wpAnyH_done (by kernel_rfl) ?_ _
      exact HR.out _ _ ⟨gv, ga, rfl, HFR.out⟩
    · have b1 : Hid (Stp w.heap.size b o w V.drew) := HW0.out.step (Below.refl _ _).drew (by have := HVS.out; omega)
      have z1 := World.rowIs_made V.drew (.float .f64 0) N1 28
      have b2 : Stp w.heap.size b o w (V.drew.alloc (.cells (madeCells #[.float .f64 0] N1) 28)) := b1.out.step ((Below.refl _ _).alloc (Nat.le_refl _) _) b1.out.size
      have z2 : (V.drew.alloc (.cells (madeCells #[.float .f64 0] N1) 28)).heap[p0]? = some (RBox xa n kx n n sa m ka) := blkM (show V.drew.heap[p0]? = some (RBox xa n kx n n sa m ka) from H0.out) ((Below.refl _ _).alloc (Nat.le_refl _) _)
      have s1 : (V.drew.alloc (.cells (madeCells #[.float .f64 0] N1) 28)).heap.size = V.heap.size + 1 := World.size_alloc _ _
      obtain ⟨V1, hV1⟩ : ∃ t, Hid (V.drew.alloc (.cells (madeCells #[.float .f64 0] N1) 28) = t) := ⟨_, rfl⟩
      rw [hV1.out] at z1 b2 z2 s1
      have hV1' : (V.alloc (.cells (madeCells #[.float .f64 0] N1) 28)).drew = V1 := hV1.out
      have z3 := World.rowIs_made V1 (.float .f64 0) n 28
      have al : Below V1.heap.size V1 (V1.alloc (.cells (madeCells #[.float .f64 0] n) 28)) := (Below.refl _ _).alloc (Nat.le_refl _) _
      have hz : V.drew.heap.size = V.heap.size := rfl
      rw [hz] at z1
      obtain ⟨ga, hg1⟩ : ∃ t, Hid (V.heap.size = t) := ⟨_, rfl⟩
      obtain ⟨gv, hg2⟩ : ∃ t, Hid (V1.heap.size = t) := ⟨_, rfl⟩
      rw [hg1.out] at z1
      rw [hg2.out] at z3
      have HFR : Hid (FrS w (V1.alloc (.cells (madeCells #[.float .f64 0] n) 28)) b p0 gv ga n N1 o (RBox xa n kx n n sa m ka) (fun _ => 0) (fun _ => 0)) := ⟨b2.step al b2.size, blkM z2 al, z3, z1.of_block (al.block _ z1.lt), by have := hg1.out; have := hg2.out; have := HVS.out; have := hp0.out; have := HBL.out; omega⟩
      obtain ⟨V2, hV2⟩ : ∃ t, Hid (V1.alloc (.cells (madeCells #[.float .f64 0] n) 28) = t) := ⟨_, rfl⟩
      rw [hV2.out] at HFR
      have hV2' := hV2.out
      have hg1' := hg1.out
      have hg2' := hg2.out
      have HQ1 : Hid (V.heap.size ≤ V1.heap.size) := by show _ ≤ _; omega
      have HQ2 : Hid (V.heap.size ≤ V2.heap.size) := by show _ ≤ _; have := HFR.out.ra.lt; have := HFR.out.rv.lt; have := hg1.out; have := hg2.out; omega
      clear z1 b2 z2 s1 z3 al hz
      go_simp
      go_wp2_with fail
      refine hK.out _ _ (HKS0.out _ HQ1) (fun hHeld1 => ?_)
      clear hK K
      try simp only [Act.put, List.setIfInBounds_toArray, List.set_cons_zero, List.set_cons_succ]
      refine wpAnyH_ready (rs := [1]) (by kernel_rfl) (by simp) ?_
      refine AllReadyH.cons (o := _) rfl (fun K hK => ?_) AllReadyH.nil
      go_simp
      go_wp2_with fail
      refine hK.out _ _ (HKS0.out _ HQ2) (fun hHeld2 => ?_)
      clear hK K
      try simp only [Act.put, List.setIfInBounds_toArray, List.set_cons_zero, List.set_cons_succ]
      refine take_at 5 12 (.slice (some ⟨gv, 0, none⟩) n n) rfl rfl (by kernel_rfl) (by kernel_rfl) (by kernel_rfl) (fun _ _ _ h => h) (Or.inl ⟨by rfl, fun w hSw => by (try dsimp only at hSw); go_simp⟩) (by assumption) ?_
      simp only [Act.put, List.setIfInBounds_toArray, List.set_cons_zero, List.set_cons_succ]
      refine take_at 6 13 (.slice (some ⟨ga, 0, none⟩) N1 N1) rfl rfl (by kernel_rfl) (by kernel_rfl) (by kernel_rfl) (fun _ _ _ h => h) (Or.inl ⟨by rfl, fun w hSw => by (try dsimp only at hSw); go_simp⟩) (by assumption) ?_
      simp only [Act.put, List.setIfInBounds_toArray, List.set_cons_zero, List.set_cons_succ]
      refine wpAnyH_done (by kernel_rfl) ?_ _
      exact HR.out _ _ ⟨gv, ga, rfl, HFR.out⟩
  · rintro a' w2 ⟨gv, ga, rfl, hF⟩
    simp only [Act.put, List.setIfInBounds_toArray, List.set_cons_zero, List.set_cons_succ]
    have HF : Hid (FrS w w2 b p0 gv ga n N1 o (RBox xa n kx n n sa m ka) (fun _ => 0) (fun _ => 0)) := hF
    clear hF HKS0 HQ0 hmk1 hmk2
    obtain ⟨x0, x1, x2, x3⟩ := rcells_of HF.out.box
    have HDT := hid (sDot b o n kh kx ha xa (fun k => hs.getD k 0) (fun k => zs.getD k 0) w2 HF.out.stp.box (HF.out.stp.fn (Nat.le_refl _) HSB.out HH.out) (HF.out.stp.fn (Nat.le_refl _) HSB.out HX.out) HN.out)
    have HDW : Hid (dotM (fun k => hs.getD k 0) (fun k => zs.getD k 0) n = dotW hs zs n) := rfl
    rw [HDW.out] at HDT
    go_wp2_with fail
    refine (HDT.out).mono ?_
    rintro e w3 ⟨⟨M, rfl, hM1, hM2⟩, hst3⟩
    have HM : Hid (M < 18446744073709551616 ∧ canonOf M = dotW hs zs n) := ⟨hM1, hM2⟩
    have HF3 := hid (HF.out.dot hst3)
    clear hM1 hM2 hst3
    obtain ⟨o1, ho1⟩ : ∃ t, Hid ((o || !finB (dotW hs zs n)) = t) := ⟨_, rfl⟩
    rw [ho1.out] at HF3
    have ca := HF3.out.ra.cell (show n < N1 by have := hN1.out; omega)
    have fza := HF3.out.ra.frozen n
    have nI : (n : Int) < (N1 : Int) := by have := hN1.out; omega
    have n0 : (0 : Int) ≤ (n : Int) := by omega
    have HF4 := hid (HF3.out.seta n x)
    obtain ⟨w4, hw4⟩ : ∃ t, Hid (w3.setCell ⟨ga, n, none⟩ (.float .f64 x) = t) := ⟨_, rfl⟩
    rw [hw4.out] at HF4
    have hw4' := hw4.out
    go_wp2_with fail
    go_loopw [15] (fun iv wr => ∃ (j : Nat) (fv : Nat → Nat), j ≤ n ∧ iv = .int .i64 j ∧ Hid (FrS w wr b p0 gv ga n N1 (o1 || !finF j (alV f hs n)) (RBox xa n kx n n sa m ka) fv (fun t => if t = n then x else 0)) ∧ Hid (∀ t, fv t < 18446744073709551616 ∧ (t < j → canonOf (fv t) = alV f hs n t))) (fun iv _ => n - (intOf iv).toNat)
    case atStart => exact ⟨0, fun _ => 0, Nat.zero_le _, rfl, by rw [show (o1 || !finF 0 (alV f hs n)) = o1 by rw [show finF 0 (alV f hs n) = true from rfl]; simp]; exact HF4, fun t => ⟨by show (0 : Nat) < _; decide, fun h => absurd h (Nat.not_lt_zero _)⟩⟩
    case round =>
      obtain ⟨j, fv, hj, rfl, HG, HV⟩ := hrel
      by_cases hlt : j < n
      · obtain ⟨x0, x1, x2, x3⟩ := rcells_of HG.out.box
        have HJ := hid hlt
        have jI : (j : Int) < (n : Int) := by omega
        have j0 : (0 : Int) ≤ (j : Int) := by omega
        have wj : IntKind.i64.wrap ((j : Int) + 1) = (j : Int) + 1 := IntWalk.i64_in _ (by have := HN.out; omega)
        have HCO := hid (rCol_any n n j m ka sa f wr (HG.out.stp.fn (Nat.le_refl _) HSB.out HLF.out) HN.out HN.out HMN.out hlt)
        clear hlt
        go_wp2_with fail
        refine HCO.out.mono ?_
        rintro e w5 ⟨⟨s5, l5, rfl, hf5⟩, hb5⟩
        have HG5 := hid (HG.out.step hb5)
        have HD5 := hid (sDot b _ n l5 kh s5 ha _ (fun k => hs.getD k 0) w5 HG5.out.stp.box hf5 (HG5.out.stp.fn (Nat.le_refl _) HSB.out HH.out) HN.out)
        have HAL : Hid (dotM (fun t => f (t * n + j)) (fun k => hs.getD k 0) n = alV f hs n j) := rfl
        rw [HAL.out] at HD5
        clear hf5 hb5
        go_wp2_with fail
        refine HD5.out.mono ?_
        rintro e w6 ⟨⟨z, rfl, hz1, hz2⟩, hs6⟩
        have HG6 := hid (HG5.out.dot hs6)
        have HZ : Hid (z < 18446744073709551616 ∧ canonOf z = alV f hs n j) := ⟨hz1, hz2⟩
        clear hz1 hz2 hs6
        have cv := HG6.out.rv.cell HJ.out
        have fzv := HG6.out.rv.frozen j
        have HG7 := hid (HG6.out.setv j z)
        obtain ⟨w7, hw7⟩ : ∃ t, Hid (w6.setCell ⟨gv, j, none⟩ (.float .f64 z) = t) := ⟨_, rfl⟩
        rw [hw7.out] at HG7
        have hw7' := hw7.out
        go_wp2_with fail
        refine ⟨⟨j + 1, fun t => if t = j then z else fv t, by have := HJ.out; omega, by go_num, ?_, fun t => ?_⟩, ?_⟩
        · rw [finF_succ, show (o1 || !(finF j (alV f hs n) && finB (alV f hs n j))) = ((o1 || !finF j (alV f hs n)) || !finB (alV f hs n j)) by cases o1 <;> cases finF j (alV f hs n) <;> cases finB (alV f hs n j) <;> rfl]
          exact HG7
        · by_cases e : t = j
          · subst e; simp only [if_true]; exact ⟨HZ.out.1, fun _ => HZ.out.2⟩
          · simp only [if_neg e]; exact ⟨(HV.out t).1, fun h => (HV.out t).2 (by omega)⟩
        · have := HJ.out; simp [intOf]; omega
      · obtain rfl : n = j := by omega
        have wm : IntKind.i64.wrap ((n : Int) - 1) = (n : Int) - 1 := IntWalk.i64_in _ (by have := HN.out; omega)
        obtain ⟨o2, ho2⟩ : ∃ t, Hid ((o1 || !finF n (alV f hs n)) = t) := ⟨_, rfl⟩
        rw [ho2.out] at HG
        go_wp2_with fail
        go_loopw [16] (fun iv wr => ∃ (d : Nat) (fa : Nat → Nat), d ≤ n ∧ iv = .int .i64 ((n : Int) - 1 - (d : Int)) ∧ Hid (FrS w wr b p0 gv ga n N1 (o2 || !finB (sumA (alV f hs n) x n d)) (RBox xa n kx n n sa m ka) fv fa) ∧ Hid (∀ t, fa t < 18446744073709551616 ∧ (n - d ≤ t → t ≤ n → canonOf (fa t) = sumA (alV f hs n) x n (n - t)))) (fun iv _ => n - ((n : Int) - 1 - intOf iv).toNat)
        case atStart =>
          refine ⟨0, fun t => if t = n then x else 0, Nat.zero_le _, by simp, ?_, fun t => ?_⟩
          · rw [show (o2 || !finB (sumA (alV f hs n) x n 0)) = o2 by show (o2 || !finB (canonOf x)) = o2; rw [HFX.out]; simp]
            exact HG
          · by_cases e : t = n
            · subst e; simp only [if_true]; exact ⟨HXL.out, fun _ _ => by rw [Nat.sub_self]; rfl⟩
            · simp only [if_neg e]; exact ⟨by decide, fun h1 h2 => absurd (by omega : t = n) e⟩
        case round =>
          obtain ⟨d, fa, hd, rfl, HG2, HA⟩ := hrel
          by_cases hlt2 : d < n
          · obtain ⟨j, hj2⟩ : ∃ j, n = d + 1 + j := ⟨n - 1 - d, by omega⟩
            obtain ⟨j1, hj1⟩ : ∃ t, Hid (j + 1 = t) := ⟨_, rfl⟩
            have HJ2 := hid hj2
            have ej : (n : Int) - 1 - (d : Int) = (j : Int) := by omega
            have jn : j < n := by omega
            have jN : j < N1 := by have := hN1.out; omega
            have j1N : j1 < N1 := by have := hN1.out; have := hj1.out; omega
            have a0 : (0 : Int) ≤ (j : Int) := by omega
            have a1 : (j : Int) < (n : Int) := by omega
            have a2 : (j : Int) < (N1 : Int) := by omega
            have a3 : (0 : Int) ≤ (j1 : Int) := by omega
            have a4 : (j1 : Int) < (N1 : Int) := by omega
            have wj1 : IntKind.i64.wrap ((j : Int) + 1) = (j1 : Int) := by rw [show (j1 : Int) = (j : Int) + 1 by have := hj1.out; omega]; exact IntWalk.i64_in _ (by have := HN.out; omega)
            have wj2 : IntKind.i64.wrap ((j : Int) - 1) = (j : Int) - 1 := IntWalk.i64_in _ (by have := HN.out; omega)
            have HJN : Hid (j < n ∧ j < N1 ∧ j1 < N1 ∧ j1 ≠ j) := ⟨jn, jN, j1N, by have := hj1.out; omega⟩
            obtain ⟨y, hy⟩ : ∃ t, Hid (fa j1 = t) := ⟨_, rfl⟩
            obtain ⟨v, hv⟩ : ∃ t, Hid (fv j = t) := ⟨_, rfl⟩
            have HY : Hid (y < 18446744073709551616 ∧ canonOf y = sumA (alV f hs n) x n d) := by have h1 := HA.out j1; rw [hy.out] at h1; exact ⟨h1.1, by rw [h1.2 (by have := hj1.out; omega) (by have := hN1.out; omega), show n - j1 = d by have := hj1.out; omega]⟩
            have HVV : Hid (v < 18446744073709551616 ∧ canonOf v = alV f hs n j) := by have h1 := HV.out j; rw [hv.out] at h1; exact ⟨h1.1, h1.2 jn⟩
            have HKS : Hid (∀ W, Hid (∃ (q : Bool) (fb : Nat → Nat), FrS w W b p0 gv ga n N1 q (RBox xa n kx n n sa m ka) fv fb ∧ fb j1 = y) → (W.cell? ⟨ga, j1, none⟩ = some (.float .f64 y) ∧ W.cell? ⟨gv, j, none⟩ = some (.float .f64 v)) ∧ Hid (∃ (q : Bool) (fb : Nat → Nat), FrS w W b p0 gv ga n N1 q (RBox xa n kx n n sa m ka) fv fb ∧ fb j1 = y)) := fun W hW => by
              obtain ⟨q, fb, hq, hq2⟩ := hW.out
              refine ⟨⟨?_, ?_⟩, hW⟩
              · have := hq.ra.cell HJN.out.2.2.1; rw [hq2] at this; exact this
              · have := hq.rv.cell HJN.out.1; rw [hv.out] at this; exact this
            have HDM : Hid (sumA (alV f hs n) x n (d + 1) = caf .add (sumA (alV f hs n) x n d) (caf .mul (canonOf v) (canonOf v))) := by show _ = _; rw [HVV.out.2, show j = n - 1 - d by omega]; rfl
            obtain ⟨D, hD⟩ : ∃ t, Hid (sumA (alV f hs n) x n d = t) := ⟨_, rfl⟩
            have HDL : Hid (D < 18446744073709551616) := by show _ < _; rw [← hD.out]; exact sumA_lt _ _ _ _ HXL.out
            rw [hD.out] at HG2 HY HDM
            obtain ⟨E, hE⟩ : ∃ t, Hid (sumA (alV f hs n) x n (d + 1) = t) := ⟨_, rfl⟩
            rw [hE.out] at HDM
            have HW0 : Hid (FrS w wr.drew b p0 gv ga n N1 (o2 || !finB D) (RBox xa n kx n n sa m ka) fv fa) := HG2.out.step (Below.refl _ _).drew
            have q0 : Hid (∃ (q : Bool) (fb : Nat → Nat), FrS w wr.drew b p0 gv ga n N1 q (RBox xa n kx n n sa m ka) fv fb ∧ fb j1 = y) := ⟨_, _, HW0.out, hy.out⟩
            have HZ1 : Hid (arF .mul v v wr.drew < 18446744073709551616 ∧ canonOf (arF .mul v v wr.drew) = caf .mul (canonOf v) (canonOf v)) := ⟨arF_lt ok_m _ _ _, canon_ar ok_m _ _ _ HVV.out.1 HVV.out.1⟩
            have HW1 := hid (HW0.out.step (bl_ar (Below.refl _ _) .mul v v))
            obtain ⟨Z1, hZ1⟩ : ∃ t, Hid (arF .mul v v wr.drew = t) := ⟨_, rfl⟩
            obtain ⟨U1, hU1⟩ : ∃ t, Hid (arG .mul v v wr.drew = t) := ⟨_, rfl⟩
            rw [hZ1.out] at HZ1
            rw [hU1.out] at HW1
            have hZ1' := hZ1.out
            have hU1' := hU1.out
            obtain ⟨M2, hM2⟩ : ∃ t, Hid (caf .mul (canonOf v) (canonOf v) = t) := ⟨_, rfl⟩
            rw [hM2.out] at HZ1 HDM
            have HS1 := hid (stepF b (o2 || !finB D) Z1 M2 U1 HZ1.out.1 HZ1.out.2 HW1.out.stp.box)
            have HW2 := hid (HW1.out.s ((o2 || !finB D) || !finB M2))
            obtain ⟨Q1, hQ1⟩ : ∃ t, Hid (((o2 || !finB D) || !finB M2) = t) := ⟨_, rfl⟩
            rw [hQ1.out] at HS1 HW2
            obtain ⟨U2, hU2⟩ : ∃ t, Hid (U1.setCell ⟨b, 0, none⟩ (.bool Q1) = t) := ⟨_, rfl⟩
            rw [hU2.out] at HS1 HW2
            have HZ2 : Hid (arF .add y Z1 U2 < 18446744073709551616 ∧ canonOf (arF .add y Z1 U2) = E) := ⟨arF_lt ok_a _ _ _, by rw [canon_ar ok_a _ _ _ HY.out.1 HZ1.out.1, HY.out.2, HZ1.out.2, HDM.out]⟩
            have HW3 := hid (HW2.out.step (bl_ar (Below.refl _ _) .add y Z1))
            obtain ⟨Z2, hZ2⟩ : ∃ t, Hid (arF .add y Z1 U2 = t) := ⟨_, rfl⟩
            obtain ⟨U3, hU3⟩ : ∃ t, Hid (arG .add y Z1 U2 = t) := ⟨_, rfl⟩
            rw [hZ2.out] at HZ2
            rw [hU3.out] at HW3
            have hZ2' := hZ2.out
            have hU3' := hU3.out
            have HS2 := hid (stepF b Q1 Z2 _ U3 HZ2.out.1 HZ2.out.2 HW3.out.stp.box)
            have HW4 := hid (HW3.out.s (Q1 || !finB E))
            have HOR : Hid ((Q1 || !finB E) = (o2 || !finB E)) := by
              show _ = _
              rw [← hQ1.out]
              have h1 := fun h => nf_add (x := D) (y := M2) HDL.out (by rw [← hM2.out]; exact caf_lt _ ok_m _ _) h
              rw [← HDM.out] at h1
              exact or_nf h1
            rw [HOR.out] at HS2 HW4
            obtain ⟨Q2, hQ2⟩ : ∃ t, Hid ((o2 || !finB E) = t) := ⟨_, rfl⟩
            rw [hQ2.out] at HS2 HW4
            obtain ⟨U4, hU4⟩ : ∃ t, Hid (U3.setCell ⟨b, 0, none⟩ (.bool Q2) = t) := ⟨_, rfl⟩
            rw [hU4.out] at HS2 HW4
            have HW5 := hid (HW4.out.seta j Z2)
            have ca2 := HW4.out.ra.cell HJN.out.2.1
            have fz2 := HW4.out.ra.frozen j
            obtain ⟨U5, hU5⟩ : ∃ t, Hid (U4.setCell ⟨ga, j, none⟩ (.float .f64 Z2) = t) := ⟨_, rfl⟩
            rw [hU5.out] at HW5
            have hU5' := hU5.out
            have q1 : Hid (∃ (q : Bool) (fb : Nat → Nat), FrS w U1 b p0 gv ga n N1 q (RBox xa n kx n n sa m ka) fv fb ∧ fb j1 = y) := ⟨_, _, HW1.out, hy.out⟩
            have q2 : Hid (∃ (q : Bool) (fb : Nat → Nat), FrS w U2 b p0 gv ga n N1 q (RBox xa n kx n n sa m ka) fv fb ∧ fb j1 = y) := ⟨_, _, HW2.out, hy.out⟩
            have q3 : Hid (∃ (q : Bool) (fb : Nat → Nat), FrS w U3 b p0 gv ga n N1 q (RBox xa n kx n n sa m ka) fv fb ∧ fb j1 = y) := ⟨_, _, HW3.out, hy.out⟩
            have q4 : Hid (∃ (q : Bool) (fb : Nat → Nat), FrS w U4 b p0 gv ga n N1 q (RBox xa n kx n n sa m ka) fv fb ∧ fb j1 = y) := ⟨_, _, HW4.out, hy.out⟩
            have q5 : Hid (∃ (q : Bool) (fb : Nat → Nat), FrS w U5 b p0 gv ga n N1 q (RBox xa n kx n n sa m ka) fv fb ∧ fb j1 = y) := ⟨_, _, HW5.out, by rw [if_neg HJN.out.2.2.2]; exact hy.out⟩
            clear hj2 jn jN j1N hlt2
            go_wp2_with fail
            refine wp_region_held_drew (S := fun W => (W.cell? ⟨ga, j1, none⟩ = some (.float .f64 y) ∧ W.cell? ⟨gv, j, none⟩ = some (.float .f64 v)) ∧ Hid (∃ (q : Bool) (fb : Nat → Nat), FrS w W b p0 gv ga n N1 q (RBox xa n kx n n sa m ka) fv fb ∧ fb j1 = y)) (by kernel_rfl) (HKS.out _ q0) (fun hHeld => ?_)
            refine take_at 0 54 (.slice (some ⟨ga, 0, none⟩) N1 N1) rfl rfl (by kernel_rfl) (by kernel_rfl) (by kernel_rfl) (fun _ _ _ h => h) (Or.inl ⟨by rfl, fun w hSw => by (try dsimp only at hSw); go_simp⟩) (by assumption) ?_
            simp only [Act.put, List.setIfInBounds_toArray, List.set_cons_zero, List.set_cons_succ]
            refine take_at 1 55 (.int .i64 j) rfl rfl (by kernel_rfl) (by kernel_rfl) (by kernel_rfl) (fun _ _ _ h => h) (Or.inl ⟨by rfl, fun w hSw => by (try dsimp only at hSw); go_simp⟩) (by assumption) ?_
            simp only [Act.put, List.setIfInBounds_toArray, List.set_cons_zero, List.set_cons_succ]
            refine take_at 2 56 (.pointer (some ⟨b, 0, none⟩)) rfl rfl (by kernel_rfl) (by kernel_rfl) (by kernel_rfl) (fun _ _ _ h => h) (Or.inl ⟨by rfl, fun w hSw => by (try dsimp only at hSw); go_simp⟩) (by assumption) ?_
            simp only [Act.put, List.setIfInBounds_toArray, List.set_cons_zero, List.set_cons_succ]
            refine take_at 3 57 (.slice (some ⟨ga, 0, none⟩) N1 N1) rfl rfl (by kernel_rfl) (by kernel_rfl) (by kernel_rfl) (fun _ _ _ h => h) (Or.inl ⟨by rfl, fun w hSw => by (try dsimp only at hSw); go_simp⟩) (by assumption) ?_
            simp only [Act.put, List.setIfInBounds_toArray, List.set_cons_zero, List.set_cons_succ]
            refine take_at 4 58 (.int .i64 j) rfl rfl (by kernel_rfl) (by kernel_rfl) (by kernel_rfl) (fun _ _ _ h => h) (Or.inl ⟨by rfl, fun w hSw => by (try dsimp only at hSw); go_simp⟩) (by assumption) ?_
            simp only [Act.put, List.setIfInBounds_toArray, List.set_cons_zero, List.set_cons_succ]
            refine take_at 5 59 (.int .i64 j1) rfl rfl (by kernel_rfl) (by kernel_rfl) (by kernel_rfl) (fun _ _ _ h => h) (Or.inl ⟨by rfl, fun w hSw => by (try dsimp only at hSw); go_simp⟩) (by assumption) ?_
            simp only [Act.put, List.setIfInBounds_toArray, List.set_cons_zero, List.set_cons_succ]
            refine take_at 6 60 (.pointer (some ⟨ga, j1, none⟩)) rfl rfl (by kernel_rfl) (by kernel_rfl) (by kernel_rfl) (fun _ _ _ h => h) (Or.inl ⟨by rfl, fun w hSw => by (try dsimp only at hSw); go_simp⟩) (by assumption) ?_
            simp only [Act.put, List.setIfInBounds_toArray, List.set_cons_zero, List.set_cons_succ]
            refine take_at 7 61 (.float .f64 y) rfl rfl (by kernel_rfl) (by kernel_rfl) (by kernel_rfl) (fun _ _ _ h => h) (Or.inl ⟨by rfl, fun w hSw => by (try dsimp only at hSw); go_simp⟩) (by assumption) ?_
            simp only [Act.put, List.setIfInBounds_toArray, List.set_cons_zero, List.set_cons_succ]
            refine take_at 8 62 (.pointer (some ⟨b, 0, none⟩)) rfl rfl (by kernel_rfl) (by kernel_rfl) (by kernel_rfl) (fun _ _ _ h => h) (Or.inl ⟨by rfl, fun w hSw => by (try dsimp only at hSw); go_simp⟩) (by assumption) ?_
            simp only [Act.put, List.setIfInBounds_toArray, List.set_cons_zero, List.set_cons_succ]
            refine take_at 9 63 (.slice (some ⟨gv, 0, none⟩) n n) rfl rfl (by kernel_rfl) (by kernel_rfl) (by kernel_rfl) (fun _ _ _ h => h) (Or.inl ⟨by rfl, fun w hSw => by (try dsimp only at hSw); go_simp⟩) (by assumption) ?_
            simp only [Act.put, List.setIfInBounds_toArray, List.set_cons_zero, List.set_cons_succ]
            refine take_at 10 64 (.int .i64 j) rfl rfl (by kernel_rfl) (by kernel_rfl) (by kernel_rfl) (fun _ _ _ h => h) (Or.inl ⟨by rfl, fun w hSw => by (try dsimp only at hSw); go_simp⟩) (by assumption) ?_
            simp only [Act.put, List.setIfInBounds_toArray, List.set_cons_zero, List.set_cons_succ]
            refine take_at 11 65 (.pointer (some ⟨gv, j, none⟩)) rfl rfl (by kernel_rfl) (by kernel_rfl) (by kernel_rfl) (fun _ _ _ h => h) (Or.inl ⟨by rfl, fun w hSw => by (try dsimp only at hSw); go_simp⟩) (by assumption) ?_
            simp only [Act.put, List.setIfInBounds_toArray, List.set_cons_zero, List.set_cons_succ]
            refine take_at 12 66 (.float .f64 v) rfl rfl (by kernel_rfl) (by kernel_rfl) (by kernel_rfl) (fun _ _ _ h => h) (Or.inl ⟨by rfl, fun w hSw => by (try dsimp only at hSw); go_simp⟩) (by assumption) ?_
            simp only [Act.put, List.setIfInBounds_toArray, List.set_cons_zero, List.set_cons_succ]
            refine take_at 13 67 (.slice (some ⟨gv, 0, none⟩) n n) rfl rfl (by kernel_rfl) (by kernel_rfl) (by kernel_rfl) (fun _ _ _ h => h) (Or.inl ⟨by rfl, fun w hSw => by (try dsimp only at hSw); go_simp⟩) (by assumption) ?_
            simp only [Act.put, List.setIfInBounds_toArray, List.set_cons_zero, List.set_cons_succ]
            refine take_at 14 68 (.int .i64 j) rfl rfl (by kernel_rfl) (by kernel_rfl) (by kernel_rfl) (fun _ _ _ h => h) (Or.inl ⟨by rfl, fun w hSw => by (try dsimp only at hSw); go_simp⟩) (by assumption) ?_
            simp only [Act.put, List.setIfInBounds_toArray, List.set_cons_zero, List.set_cons_succ]
            refine take_at 15 69 (.pointer (some ⟨gv, j, none⟩)) rfl rfl (by kernel_rfl) (by kernel_rfl) (by kernel_rfl) (fun _ _ _ h => h) (Or.inl ⟨by rfl, fun w hSw => by (try dsimp only at hSw); go_simp⟩) (by assumption) ?_
            simp only [Act.put, List.setIfInBounds_toArray, List.set_cons_zero, List.set_cons_succ]
            refine take_at 16 70 (.float .f64 v) rfl rfl (by kernel_rfl) (by kernel_rfl) (by kernel_rfl) (fun _ _ _ h => h) (Or.inl ⟨by rfl, fun w hSw => by (try dsimp only at hSw); go_simp⟩) (by assumption) ?_
            simp only [Act.put, List.setIfInBounds_toArray, List.set_cons_zero, List.set_cons_succ]
            refine wpAnyH_ready (rs := [17]) (by kernel_rfl) (by simp) ?_
            refine AllReadyH.cons (o := _) rfl (fun K hK => ?_) AllReadyH.nil
            go_simp
            go_wp2_with fail
            refine hK.out _ _ (HKS.out _ q1) (fun hHeld1 => ?_)
            clear hK K
            try simp only [Act.put, List.setIfInBounds_toArray, List.set_cons_zero, List.set_cons_succ]
            refine wpAnyH_ready (rs := [18]) (by kernel_rfl) (by simp) ?_
            refine AllReadyH.cons (o := _) rfl (fun K hK => ?_) AllReadyH.nil
            go_simp
            refine (HS1.out).mono ?_
            rintro e ww ⟨rfl, hw⟩
            rw [hw]
            clear hw
            go_wp2_with fail
            refine hK.out _ _ (HKS.out _ q2) (fun hHeld2 => ?_)
            clear hK K
            try simp only [Act.put, List.setIfInBounds_toArray, List.set_cons_zero, List.set_cons_succ]
            refine wpAnyH_ready (rs := [19]) (by kernel_rfl) (by simp) ?_
            refine AllReadyH.cons (o := _) rfl (fun K hK => ?_) AllReadyH.nil
            go_simp
            go_wp2_with fail
            refine hK.out _ _ (HKS.out _ q3) (fun hHeld3 => ?_)
            clear hK K
            try simp only [Act.put, List.setIfInBounds_toArray, List.set_cons_zero, List.set_cons_succ]
            refine wpAnyH_ready (rs := [20]) (by kernel_rfl) (by simp) ?_
            refine AllReadyH.cons (o := _) rfl (fun K hK => ?_) AllReadyH.nil
            go_simp
            refine (HS2.out).mono ?_
            rintro e ww ⟨rfl, hw⟩
            rw [hw]
            clear hw
            go_wp2_with fail
            refine hK.out _ _ (HKS.out _ q4) (fun hHeld4 => ?_)
            clear hK K
            try simp only [Act.put, List.setIfInBounds_toArray, List.set_cons_zero, List.set_cons_succ]
            refine take_at 21 75 (.pointer (some ⟨ga, j, none⟩)) rfl rfl (by kernel_rfl) (by kernel_rfl) (by kernel_rfl) (fun _ _ _ h => h) (Or.inl ⟨by rfl, fun w hSw => by (try dsimp only at hSw); go_simp⟩) (by assumption) ?_
            simp only [Act.put, List.setIfInBounds_toArray, List.set_cons_zero, List.set_cons_succ]
            refine wpAnyH_ready (rs := [22]) (by kernel_rfl) (by simp) ?_
            refine AllReadyH.cons (o := _) rfl (fun K hK => ?_) AllReadyH.nil
            go_simp
            go_wp2_with fail
            refine hK.out _ _ (HKS.out _ q5) (fun hHeld5 => ?_)
            clear hK K
            try simp only [Act.put, List.setIfInBounds_toArray, List.set_cons_zero, List.set_cons_succ]
            refine wpAnyH_done (by kernel_rfl) ?_ _
            clear q0 q1 q2 q3 q4 q5 HW0 HW1 HW2 HW3 HW4 HS1 HS2 ca2 fz2
            go_wp2_with fail
            refine ⟨⟨d + 1, fun t => if t = j then Z2 else fa t, by omega, by rw [show (n : Int) - 1 - ((d + 1 : Nat) : Int) = (j : Int) - 1 by omega], ?_, fun t => ?_⟩, ?_⟩
            · rw [hE.out, hQ2.out]; exact HW5
            · by_cases e : t = j
              · subst e; simp only [if_true]; exact ⟨HZ2.out.1, fun _ _ => by rw [HZ2.out.2, ← hE.out]; congr 1; have := HJ2.out; omega⟩
              · simp only [if_neg e]; exact ⟨(HA.out t).1, fun h1 h2 => (HA.out t).2 (by have := HJ2.out; omega) h2⟩
            · simp [intOf]; omega
          · obtain rfl : n = d := by omega
            have en : (n : Int) - 1 - (n : Int) = -1 := by omega
            go_wp2_with fail
            refine bodyPost_ret (v := .tuple #[.float .f64 M, .slice (some ⟨gv, 0, none⟩) n n, .slice (some ⟨ga, 0, none⟩) N1 N1]) (by simp [results, Try.results27, go_sem]) rfl ⟨⟨M, gv, ga, fv, fa, rfl, HM.out, HG2.out.ne.2.2.2.2.2.2.1, HG2.out.ne.2.2.2.2.2.2.2.1, HG2.out.ne.2.2.2.1, Or.inr ⟨gv, 0, rfl, HG2.out.rv.lt, Nat.le_refl _, by have := HN.out; omega, fun t ht => ⟨by rw [Nat.zero_add]; exact HG2.out.rv.cell ht, (HV.out t).1⟩⟩, Or.inr ⟨ga, 0, rfl, HG2.out.ra.lt, Nat.le_refl _, by have := HN.out; have := hN1.out; omega, fun t ht => ⟨by rw [Nat.zero_add]; exact HG2.out.ra.cell ht, (HA.out t).1⟩⟩, fun t ht => (HV.out t).2 ht, fun t ht => (HA.out t).2 (by omega) ht⟩, ?_⟩
            have h := HG2.out.stp
            rw [← ho2.out, ← ho1.out] at h
            rw [show (o || !(finF n (alV f hs n) && finB (dotW hs zs n) && finB (sumA (alV f hs n) x n n))) = (o || !finB (dotW hs zs n) || !finF n (alV f hs n) || !finB (sumA (alV f hs n) x n n)) by cases o <;> cases finB (dotW hs zs n) <;> cases finF n (alV f hs n) <;> cases finB (sumA (alV f hs n) x n n) <;> rfl]
            exact h
end Go.Proofs.Ythakhmnlpmfdgaa
