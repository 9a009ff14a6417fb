
/- matrix: Sandwich of two that go together. (Written by mkmxs.py.) -/
import Derived.Test.YtehgiegmdpaomaaP26
namespace Go.Proofs.Ytehgiegmdpaomaa
open Go.RowKit Go.IntWalk

set_option maxRecDepth 8000 in
set_option maxHeartbeats 8000000 in
theorem Sand_ok (r c n n2 : Nat) (sa sb : Option Addr) (ka kb : Nat) (f f2 : Nat → Nat) (w : World) (ha : Gd w r c sa n ka f) (hb : Gd w c c sb n2 kb f2) :
    Calls Try.prog 16 #[MV r c sa n ka, MV c c sb n2 kb] w fun e w' => (∃ (g : Nat) (o : Nat → Nat), e = .returned (AnsM r r (r * r) g o) ∧ FnM w' (some ⟨g, 0, none⟩) (r * r) (r * r) o ∧ (∀ i j, i < r → j < r → o (i * r + j) = o (j * r + i)) ∧ ∃ o2 : Nat → Nat, (∀ i j, i < r → j < c → canonOf (o2 (i * c + j)) = dotM (fun k => f (i * c + k)) (fun k => f2 (k * c + j)) c) ∧ ∀ i j, i < r → j ≤ i → canonOf (o (i * r + j)) = dotM (fun k => o2 (i * c + k)) (fun k => f (j * c + k)) c) ∧ Below w.heap.size w w' := by
  obtain ⟨t1, t2, t3, t4, t5⟩ := three_b w (MBox r c sa n ka) (MBox c c sb n2 kb) (MBox 0 0 none 0 0)
  have HCB := hid (fun W (hW : Below w.heap.size w W) => checkBoth_any r c c c n n2 sa sb ka kb _ _ W ((ha.below hW).2.2.2.1.fl) ((hb.below hW).2.2.2.1.fl) (by have := ha.le; omega) (by have := hb.le; omega))
  rw [ha.chk, hb.chk, show first2 0 0 = 0 by rfl] at HCB
  have l1 := ha.1
  have l2 := ha.2.1
  have hm3 : r * c ≤ 144 := Nat.mul_le_mul l1 l2
  have hm1 : c * c ≤ 144 := Nat.mul_le_mul l2 l2
  have hm4 : r * r ≤ 144 := Nat.mul_le_mul l1 l1
  have HM1 : Hid (c * c ≤ 9223372036854775807) := by show _ ≤ _; omega
  have HM2 : Hid (r * c ≤ 9223372036854775807) := by show _ ≤ _; omega
  have HM4 : Hid (r * r ≤ 144) := hm4
  have HTU : Hid (∀ W, Below w.heap.size w W → Calls Try.prog 39 #[.agg #[.int .i64 c, .int .i64 c, .slice sb n2 kb]] W fun e w' => FillR (fun i j x => x = f2 (j * c + i)) c c (c * c) W.heap.size e w' ∧ Below W.heap.size W w') := fun W hW => turned_any c c n2 sb kb f2 W (hb.below hW).2.2.2.1 (by rw [hb.2.2.1]; exact Nat.le_refl _) (by omega) (by omega)
  have HBY : Hid (∀ W (g1 : Nat) (o1 : Nat → Nat), Below w.heap.size w W → FnM W (some ⟨g1, 0, none⟩) (c * c) (c * c) o1 → Calls Try.prog 38 #[.agg #[.int .i64 r, .int .i64 c, .slice sa n ka], .agg #[.int .i64 c, .int .i64 c, .slice (some ⟨g1, 0, none⟩) (c * c) (c * c)]] W fun e w' => FillR (fun i j x => canonOf x = dotM (fun k => f (i * c + k)) (fun k => o1 (j * c + k)) c) r c (r * c) W.heap.size e w' ∧ Below W.heap.size W w') := fun W g1 o1 hW h1 => byRows_any r c c n _ sa _ ka _ f o1 W (ha.below hW).2.2.2.1 h1 (by rw [ha.2.2.1]; exact Nat.le_refl _) (Nat.le_refl _) (by omega) (by omega) (by omega)
  have HVAL : Hid (∀ o1 o2 : Nat → Nat, (∀ i j, i < c → j < c → o1 (i * c + j) = f2 (j * c + i)) → (∀ i j, i < r → j < c → canonOf (o2 (i * c + j)) = dotM (fun k => f (i * c + k)) (fun k => o1 (j * c + k)) c) → ∀ i j, i < r → j < c → canonOf (o2 (i * c + j)) = dotM (fun k => f (i * c + k)) (fun k => f2 (k * c + j)) c) := fun o1 o2 h1 h2 i j hi hj => by
    rw [h2 i j hi hj]
    exact dotM_congr c (fun _ _ => rfl) (fun k hk => h1 j k hj hk)
  have HMIR : Hid (∀ W (ib g2 p0 : Nat) (o2 : Nat → Nat), Below w.heap.size w W → W.heap[ib]? = some (MBox r c (some ⟨g2, 0, none⟩) (r * c) (r * c)) → W.heap[p0]? = some (MBox r c sa n ka) → FnM W (some ⟨g2, 0, none⟩) (r * c) (r * c) o2 → Calls Try.prog 40 #[.int .i64 r, .func (.func 42) #[] #[.pointer (some ⟨ib, 0, none⟩), .pointer (some ⟨p0, 0, none⟩)]] W fun e w' => MirR (fun i j x => canonOf x = dotM (fun k => o2 (i * c + k)) (fun k => f (j * c + k)) c) r (r * r) W.heap.size e w' ∧ Below W.heap.size W w') := fun W ib g2 p0 o2 hW h1 h2 h3 =>
    mir_Sandwich r (by omega) ⟨ib, 0, none⟩ ⟨p0, 0, none⟩ _ W (fun W2 i j hW2 hi hj => by
      refine (clo_Sandwich i j c ib p0 r r _ sa (r * c) (r * c) n ka o2 f W2 (blkM h1 hW2) (blkM h2 hW2) (h3.below hW2) ((ha.below hW).2.2.2.1.below hW2) (by omega) (by omega) (by omega) (Nat.mul_le_mul_right c (by omega)) (by rw [ha.2.2.1]; exact Nat.mul_le_mul_right c (by omega))).mono ?_
      rintro e w' ⟨x, rfl, ⟨q1, q2⟩, q3⟩
      exact ⟨x, rfl, ⟨q2, q1⟩, q3⟩)
  have hne : ((c : Int) != (c : Int)) = false := by simp
  obtain ⟨V, hV⟩ : ∃ V, Hid (((w.alloc (MBox r c sa n ka)).alloc (MBox c c sb n2 kb)).alloc (MBox 0 0 none 0 0) = V) := ⟨_, rfl⟩
  rw [hV.out] at t1 t2 t3 t4 t5
  have hV' := hV.out
  unfold MBox at hV'
  obtain ⟨p0, hp0⟩ : ∃ t, Hid (w.heap.size = t) := ⟨_, rfl⟩
  obtain ⟨p1, hp1⟩ : ∃ t, Hid (p0 + 1 = t) := ⟨_, rfl⟩
  obtain ⟨rb, hrb⟩ : ∃ t, Hid (p1 + 1 = t) := ⟨_, rfl⟩
  have HNE : Hid (w.heap.size ≤ rb) := by
    have e1 := hp0.out; have e2 := hp1.out; have e3 := hrb.out
    show _ ≤ _
    omega
  rw [hp0.out] at t1 t2 t3
  rw [hp1.out] at t2 t3
  rw [hrb.out] at t3
  have HV0 : Hid (Fr3 w V p0 p1 (MBox r c sa n ka) (MBox c c sb n2 kb)) := ⟨t4, t1, t2⟩
  have HRV := hid t3
  have hp0' := hp0.out
  have hp1' := hp1.out
  have hrb' := hrb.out
  have HKS : Hid (∀ W, Hid (Fr3 w W p0 p1 (MBox r c sa n ka) (MBox c c sb n2 kb)) → (W.cell? ⟨p0, 0, none⟩ = some (.int .i64 r) ∧ W.cell? ⟨p0, 1, none⟩ = some (.int .i64 c) ∧ W.cell? ⟨p0, 2, none⟩ = some (.slice sa n ka) ∧ W.cell? ⟨p1, 0, none⟩ = some (.int .i64 c) ∧ W.cell? ⟨p1, 1, none⟩ = some (.int .i64 c) ∧ W.cell? ⟨p1, 2, none⟩ = some (.slice sb n2 kb)) ∧ Hid (Fr3 w W p0 p1 (MBox r c sa n ka) (MBox c c sb n2 kb))) := fun W hW => by
    obtain ⟨a0, a1, a2⟩ := mcells_of hW.out.2.1
    obtain ⟨b0, b1, b2⟩ := mcells_of hW.out.2.2
    exact ⟨⟨a0, a1, a2, b0, b1, b2⟩, hW⟩
  obtain ⟨x0, x1, x2⟩ := mcells_of t1
  obtain ⟨v0, v1, v2⟩ := mcells_of t2
  unfold MV at HCB ⊢
  clear t1 t2 t3 t4 t5 ha hb l1 l2 hm1 hm3 hm4
  go_enter Try.func16, Try.ntmps16
  go_wp2_with fail
  refine (HCB.out _ HV0.out.1).mono ?_
  rintro e w1 ⟨rfl, hb1⟩
  have HQQ := hid (HV0.out.call hb1)
  have HRB0 := hid (blkM HRV.out hb1)
  obtain ⟨x0, x1, x2⟩ := mcells_of HQQ.out.2.1
  obtain ⟨v0, v1, v2⟩ := mcells_of HQQ.out.2.2
  clear hb1
  go_wp2_with fail
  have HG0 : Hid (Fr3 w w1.drew p0 p1 (MBox r c sa n ka) (MBox c c sb n2 kb)) := HQQ.out.drew
  have HU0 : Hid (w1.drew.heap[rb]? = some (MBox 0 0 none 0 0)) := HRB0.out
  refine region_merge2 (fun a0 a' w' => ∃ (g1 g2 ib : Nat) (o1 o2 : Nat → Nat), a' = Act.put (Act.put (Act.put (Act.put (Act.put a0 (some 32) (.agg #[.int .i64 r, .int .i64 c, .slice sa n ka])) (some 33) (.agg #[.int .i64 c, .int .i64 c, .slice sb n2 kb])) (some 34) (.agg #[.int .i64 c, .int .i64 c, .slice (some ⟨g1, 0, none⟩) (c * c) (c * c)])) (some 35) (.agg #[.int .i64 r, .int .i64 c, .slice (some ⟨g2, 0, none⟩) (r * c) (r * c)])) (some 7) (.pointer (some ⟨ib, 0, none⟩)) ∧ w'.heap[ib]? = some (MBox r c (some ⟨g2, 0, none⟩) (r * c) (r * c)) ∧ FnM w' (some ⟨g2, 0, none⟩) (r * c) (r * c) o2 ∧ (∀ i j, i < c → j < c → o1 (i * c + j) = f2 (j * c + i)) ∧ (∀ i j, i < r → j < c → canonOf (o2 (i * c + j)) = dotM (fun k => f (i * c + k)) (fun k => o1 (j * c + k)) c) ∧ w'.heap[rb]? = some (MBox 0 0 none 0 0) ∧ Fr3 w w' p0 p1 (MBox r c sa n ka) (MBox c c sb n2 kb)) (fun HR => ?_) ?_
  · simp only [Act.put, List.setIfInBounds_toArray, List.set_cons_zero, List.set_cons_succ] at HR
    refine wp_region_held_drew (S := fun W => (W.cell? ⟨p0, 0, none⟩ = some (.int .i64 r) ∧ W.cell? ⟨p0, 1, none⟩ = some (.int .i64 c) ∧ W.cell? ⟨p0, 2, none⟩ = some (.slice sa n ka) ∧ W.cell? ⟨p1, 0, none⟩ = some (.int .i64 c) ∧ W.cell? ⟨p1, 1, none⟩ = some (.int .i64 c) ∧ W.cell? ⟨p1, 2, none⟩ = some (.slice sb n2 kb)) ∧ Hid (Fr3 w W p0 p1 (MBox r c sa n ka) (MBox c c sb n2 kb))) (by kernel_rfl) (HKS.out _ HG0) (fun hHeld => ?_)
    refine take_at 0 32 (.agg #[.int .i64 r, .int .i64 c, .slice sa n ka]) rfl rfl (by kernel_rfl) (by kernel_rfl) (by kernel_rfl) (fun _ _ _ h => h) (Or.inl ⟨by rfl, fun w hSw => by (try dsimp only at hSw); go_simp⟩) (by assumption) ?_
    simp only [Act.put, List.setIfInBounds_toArray, List.set_cons_zero, List.set_cons_succ]
    refine take_at 1 33 (.agg #[.int .i64 c, .int .i64 c, .slice sb n2 kb]) rfl rfl (by kernel_rfl) (by kernel_rfl) (by kernel_rfl) (fun _ _ _ h => h) (Or.inl ⟨by rfl, fun w hSw => by (try dsimp only at hSw); go_simp⟩) (by assumption) ?_
    simp only [Act.put, List.setIfInBounds_toArray, List.set_cons_zero, List.set_cons_succ]
    refine wpAnyH_ready (rs := [2, 4]) (by kernel_rfl) (by simp) ?_
    refine AllReadyH.cons (o := _) rfl (fun K hK => ?_) (AllReadyH.cons (o := _) rfl (fun K hK => ?_) AllReadyH.nil)
    · go_simp
      refine (HTU.out _ HG0.out.1).mono ?_
      rintro e u1 ⟨hfi, hbq⟩
      obtain ⟨g1, o1, rfl, hg1, hf1, hp1⟩ := hfi.fn HM1.out
      have HF1 := hid hf1
      have HP1 := hid hp1
      unfold MV
      clear hfi hg1 hf1 hp1
      have HG1 := hid (HG0.out.call hbq)
      have HU1 := hid (blkM HU0.out hbq)
      clear hbq
      go_wp2_with fail
      refine hK.out _ _ (HKS.out _ HG1) (fun hHeld1 => ?_)
      clear hK K
      try simp only [Act.put, List.setIfInBounds_toArray, List.set_cons_zero, List.set_cons_succ]
      refine wpAnyH_ready (rs := [3, 4]) (by kernel_rfl) (by simp) ?_
      refine AllReadyH.cons (o := _) rfl (fun K hK => ?_) (AllReadyH.cons (o := _) rfl (fun K hK => ?_) AllReadyH.nil)
      · go_simp
        refine (HBY.out _ g1 o1 HG1.out.1 HF1.out).mono ?_
        rintro e u2 ⟨hfi, hbq⟩
        obtain ⟨g2, o2, rfl, hg2, hf2, hp2⟩ := hfi.fn HM2.out
        have HF2 := hid hf2
        have HP2 := hid hp2
        unfold MV
        clear hfi hg2 hf2 hp2
        have HG2 := hid (HG1.out.call hbq)
        have HU2 := hid (blkM HU1.out hbq)
        clear hbq
        go_wp2_with fail
        refine hK.out _ _ (HKS.out _ HG2) (fun hHeld2 => ?_)
        clear hK K
        try simp only [Act.put, List.setIfInBounds_toArray, List.set_cons_zero, List.set_cons_succ]
        refine wpAnyH_ready (rs := [4]) (by kernel_rfl) (by simp) ?_
        refine AllReadyH.cons (o := _) rfl (fun K hK => ?_) AllReadyH.nil
        have hbq : Below u2.heap.size u2 (u2.alloc (MBox 0 0 none 0 0)) := (Below.refl _ _).alloc (Nat.le_refl _) _
        have HBX : Hid ((u2.alloc (MBox 0 0 none 0 0)).heap[u2.heap.size]? = some (MBox 0 0 none 0 0)) := nblkM _ _
        have HG3 : Hid (Fr3 w (u2.alloc (MBox 0 0 none 0 0)) p0 p1 (MBox r c sa n ka) (MBox c c sb n2 kb)) := HG2.out.call hbq
        have HU3 := hid (blkM HU2.out hbq)
        have HIB : Hid (p0 ≠ u2.heap.size ∧ p1 ≠ u2.heap.size ∧ w.heap.size ≤ u2.heap.size ∧ rb ≠ u2.heap.size) := ⟨Nat.ne_of_lt (Array.getElem?_eq_some_iff.1 HG2.out.2.1).1, Nat.ne_of_lt (Array.getElem?_eq_some_iff.1 HG2.out.2.2).1, HG2.out.1.size, Nat.ne_of_lt (Array.getElem?_eq_some_iff.1 HU2.out).1⟩
        have HF2 := hid (HF2.out.below hbq)
        clear hbq
        go_simp
        go_wp2_with fail
        refine hK.out _ _ (HKS.out _ HG3) (fun hHeld3 => ?_)
        clear hK K
        try simp only [Act.put, List.setIfInBounds_toArray, List.set_cons_zero, List.set_cons_succ]
        obtain ⟨u3, hu3⟩ : ∃ X, Hid ((u2.alloc (MBox 0 0 none 0 0)) = X) := ⟨_, rfl⟩
        rw [hu3.out] at HBX HG3 HU3 HF2
        have hy1 := hu3.out
        unfold MBox at hy1
        rw [hy1]
        obtain ⟨ib, hib⟩ : ∃ X, Hid (u2.heap.size = X) := ⟨_, rfl⟩
        have hy2 := hib.out
        rw [hib.out] at HBX HIB
        rw [hy2]
        clear hy1 hy2
        refine wpAnyH_ready (rs := [5]) (by kernel_rfl) (by simp) ?_
        refine AllReadyH.cons (o := _) rfl (fun K hK => ?_) AllReadyH.nil
        obtain ⟨z0, z1, z2⟩ := mcells_of HBX.out
        have fz := frzM HBX.out
        have HGE : Hid (Fr3 w (StoM u3 ib r c (some ⟨g2, 0, none⟩) (r * c) (r * c)) p0 p1 (MBox r c sa n ka) (MBox c c sb n2 kb)) := HG3.out.sto (HIB.out).1 (HIB.out).2.1 (HIB.out).2.2.1
        have HUE : Hid ((StoM u3 ib r c (some ⟨g2, 0, none⟩) (r * c) (r * c)).heap[rb]? = some (MBox 0 0 none 0 0)) := (StoM.keep (HIB.out).2.2.2).trans HU3.out
        have HBE : Hid ((StoM u3 ib r c (some ⟨g2, 0, none⟩) (r * c) (r * c)).heap[ib]? = some (MBox r c (some ⟨g2, 0, none⟩) (r * c) (r * c))) := mset HBX.out
        have HFE : Hid (FnM (StoM u3 ib r c (some ⟨g2, 0, none⟩) (r * c) (r * c)) (some ⟨g2, 0, none⟩) (r * c) (r * c) o2) := StoM.fn HF2.out HBX.out
        have HGE' := HGE
        unfold StoM at HGE'
        go_simp
        go_wp2_with fail
        refine hK.out _ _ (HKS.out _ HGE') (fun hHeldE => ?_)
        clear hK K
        try simp only [Act.put, List.setIfInBounds_toArray, List.set_cons_zero, List.set_cons_succ]
        refine wpAnyH_done (by kernel_rfl) ?_ _
        exact HR.out _ _ ⟨g1, g2, ib, o1, o2, rfl, HBE.out, HFE.out, HP1.out, HP2.out, HUE.out, HGE.out⟩
      · have hbq : Below u1.heap.size u1 (u1.alloc (MBox 0 0 none 0 0)) := (Below.refl _ _).alloc (Nat.le_refl _) _
        have HBX : Hid ((u1.alloc (MBox 0 0 none 0 0)).heap[u1.heap.size]? = some (MBox 0 0 none 0 0)) := nblkM _ _
        have HG2 : Hid (Fr3 w (u1.alloc (MBox 0 0 none 0 0)) p0 p1 (MBox r c sa n ka) (MBox c c sb n2 kb)) := HG1.out.call hbq
        have HU2 := hid (blkM HU1.out hbq)
        have HIB : Hid (p0 ≠ u1.heap.size ∧ p1 ≠ u1.heap.size ∧ w.heap.size ≤ u1.heap.size ∧ rb ≠ u1.heap.size) := ⟨Nat.ne_of_lt (Array.getElem?_eq_some_iff.1 HG1.out.2.1).1, Nat.ne_of_lt (Array.getElem?_eq_some_iff.1 HG1.out.2.2).1, HG1.out.1.size, Nat.ne_of_lt (Array.getElem?_eq_some_iff.1 HU1.out).1⟩
        have HF1 := hid (HF1.out.below hbq)
        clear hbq
        go_simp
        go_wp2_with fail
        refine hK.out _ _ (HKS.out _ HG2) (fun hHeld2 => ?_)
        clear hK K
        try simp only [Act.put, List.setIfInBounds_toArray, List.set_cons_zero, List.set_cons_succ]
        obtain ⟨u2, hu2⟩ : ∃ X, Hid ((u1.alloc (MBox 0 0 none 0 0)) = X) := ⟨_, rfl⟩
        rw [hu2.out] at HBX HG2 HU2 HF1
        have hy1 := hu2.out
        unfold MBox at hy1
        rw [hy1]
        obtain ⟨ib, hib⟩ : ∃ X, Hid (u1.heap.size = X) := ⟨_, rfl⟩
        have hy2 := hib.out
        rw [hib.out] at HBX HIB
        rw [hy2]
        clear hy1 hy2
        refine wpAnyH_ready (rs := [3]) (by kernel_rfl) (by simp) ?_
        refine AllReadyH.cons (o := _) rfl (fun K hK => ?_) AllReadyH.nil
        go_simp
        refine (HBY.out _ g1 o1 HG2.out.1 HF1.out).mono ?_
        rintro e u3 ⟨hfi, hbq⟩
        obtain ⟨g2, o2, rfl, hg2, hf2, hp2⟩ := hfi.fn HM2.out
        have HF2 := hid hf2
        have HP2 := hid hp2
        unfold MV
        clear hfi hg2 hf2 hp2
        have HG3 := hid (HG2.out.call hbq)
        have HU3 := hid (blkM HU2.out hbq)
        have HBX := hid (blkM HBX.out hbq)
        clear hbq
        go_wp2_with fail
        refine hK.out _ _ (HKS.out _ HG3) (fun hHeld3 => ?_)
        clear hK K
        try simp only [Act.put, List.setIfInBounds_toArray, List.set_cons_zero, List.set_cons_succ]
        refine wpAnyH_ready (rs := [5]) (by kernel_rfl) (by simp) ?_
        refine AllReadyH.cons (o := _) rfl (fun K hK => ?_) AllReadyH.nil
        obtain ⟨z0, z1, z2⟩ := mcells_of HBX.out
        have fz := frzM HBX.out
        have HGE : Hid (Fr3 w (StoM u3 ib r c (some ⟨g2, 0, none⟩) (r * c) (r * c)) p0 p1 (MBox r c sa n ka) (MBox c c sb n2 kb)) := HG3.out.sto (HIB.out).1 (HIB.out).2.1 (HIB.out).2.2.1
        have HUE : Hid ((StoM u3 ib r c (some ⟨g2, 0, none⟩) (r * c) (r * c)).heap[rb]? = some (MBox 0 0 none 0 0)) := (StoM.keep (HIB.out).2.2.2).trans HU3.out
        have HBE : Hid ((StoM u3 ib r c (some ⟨g2, 0, none⟩) (r * c) (r * c)).heap[ib]? = some (MBox r c (some ⟨g2, 0, none⟩) (r * c) (r * c))) := mset HBX.out
        have HFE : Hid (FnM (StoM u3 ib r c (some ⟨g2, 0, none⟩) (r * c) (r * c)) (some ⟨g2, 0, none⟩) (r * c) (r * c) o2) := StoM.fn HF2.out HBX.out
        have HGE' := HGE
        unfold StoM at HGE'
        go_simp
        go_wp2_with fail
        refine hK.out _ _ (HKS.out _ HGE') (fun hHeldE => ?_)
        clear hK K
        try simp only [Act.put, List.setIfInBounds_toArray, List.set_cons_zero, List.set_cons_succ]
        refine wpAnyH_done (by kernel_rfl) ?_ _
        exact HR.out _ _ ⟨g1, g2, ib, o1, o2, rfl, HBE.out, HFE.out, HP1.out, HP2.out, HUE.out, HGE.out⟩
    · have hbq : Below w1.drew.heap.size w1.drew (w1.drew.alloc (MBox 0 0 none 0 0)) := (Below.refl _ _).alloc (Nat.le_refl _) _
      have HBX : Hid ((w1.drew.alloc (MBox 0 0 none 0 0)).heap[w1.drew.heap.size]? = some (MBox 0 0 none 0 0)) := nblkM _ _
      have HG1 : Hid (Fr3 w (w1.drew.alloc (MBox 0 0 none 0 0)) p0 p1 (MBox r c sa n ka) (MBox c c sb n2 kb)) := HG0.out.call hbq
      have HU1 := hid (blkM HU0.out hbq)
      have HIB : Hid (p0 ≠ w1.drew.heap.size ∧ p1 ≠ w1.drew.heap.size ∧ w.heap.size ≤ w1.drew.heap.size ∧ rb ≠ w1.drew.heap.size) := ⟨Nat.ne_of_lt (Array.getElem?_eq_some_iff.1 HG0.out.2.1).1, Nat.ne_of_lt (Array.getElem?_eq_some_iff.1 HG0.out.2.2).1, HG0.out.1.size, Nat.ne_of_lt (Array.getElem?_eq_some_iff.1 HU0.out).1⟩
      clear hbq
      go_simp
      go_wp2_with fail
      refine hK.out _ _ (HKS.out _ HG1) (fun hHeld1 => ?_)
      clear hK K
      try simp only [Act.put, List.setIfInBounds_toArray, List.set_cons_zero, List.set_cons_succ]
      obtain ⟨u1, hu1⟩ : ∃ X, Hid ((w1.drew.alloc (MBox 0 0 none 0 0)) = X) := ⟨_, rfl⟩
      rw [hu1.out] at HBX HG1 HU1
      have hy1 : (w1.alloc (.cells #[.int .i64 0, .int .i64 0, .slice none 0 0] 29)).drew = u1 := hu1.out
      rw [hy1]
      obtain ⟨ib, hib⟩ : ∃ X, Hid (w1.drew.heap.size = X) := ⟨_, rfl⟩
      have hy2 : w1.heap.size = ib := hib.out
      rw [hib.out] at HBX HIB
      rw [hy2]
      clear hy1 hy2
      refine wpAnyH_ready (rs := [2]) (by kernel_rfl) (by simp) ?_
      refine AllReadyH.cons (o := _) rfl (fun K hK => ?_) AllReadyH.nil
      go_simp
      refine (HTU.out _ HG1.out.1).mono ?_
      rintro e u2 ⟨hfi, hbq⟩
      obtain ⟨g1, o1, rfl, hg1, hf1, hp1⟩ := hfi.fn HM1.out
      have HF1 := hid hf1
      have HP1 := hid hp1
      unfold MV
      clear hfi hg1 hf1 hp1
      have HG2 := hid (HG1.out.call hbq)
      have HU2 := hid (blkM HU1.out hbq)
      have HBX := hid (blkM HBX.out hbq)
      clear hbq
      go_wp2_with fail
      refine hK.out _ _ (HKS.out _ HG2) (fun hHeld2 => ?_)
      clear hK K
      try simp only [Act.put, List.setIfInBounds_toArray, List.set_cons_zero, List.set_cons_succ]
      refine wpAnyH_ready (rs := [3]) (by kernel_rfl) (by simp) ?_
      refine AllReadyH.cons (o := _) rfl (fun K hK => ?_) AllReadyH.nil
      go_simp
      refine (HBY.out _ g1 o1 HG2.out.1 HF1.out).mono ?_
      rintro e u3 ⟨hfi, hbq⟩
      obtain ⟨g2, o2, rfl, hg2, hf2, hp2⟩ := hfi.fn HM2.out
      have HF2 := hid hf2
      have HP2 := hid hp2
      unfold MV
      clear hfi hg2 hf2 hp2
      have HG3 := hid (HG2.out.call hbq)
      have HU3 := hid (blkM HU2.out hbq)
      have HBX := hid (blkM HBX.out hbq)
      clear hbq
      go_wp2_with fail
      refine hK.out _ _ (HKS.out _ HG3) (fun hHeld3 => ?_)
      clear hK K
      try simp only [Act.put, List.setIfInBounds_toArray, List.set_cons_zero, List.set_cons_succ]
      refine wpAnyH_ready (rs := [5]) (by kernel_rfl) (by simp) ?_
      refine AllReadyH.cons (o := _) rfl (fun K hK => ?_) AllReadyH.nil
      obtain ⟨z0, z1, z2⟩ := mcells_of HBX.out
      have fz := frzM HBX.out
      have HGE : Hid (Fr3 w (StoM u3 ib r c (some ⟨g2, 0, none⟩) (r * c) (r * c)) p0 p1 (MBox r c sa n ka) (MBox c c sb n2 kb)) := HG3.out.sto (HIB.out).1 (HIB.out).2.1 (HIB.out).2.2.1
      have HUE : Hid ((StoM u3 ib r c (some ⟨g2, 0, none⟩) (r * c) (r * c)).heap[rb]? = some (MBox 0 0 none 0 0)) := (StoM.keep (HIB.out).2.2.2).trans HU3.out
      have HBE : Hid ((StoM u3 ib r c (some ⟨g2, 0, none⟩) (r * c) (r * c)).heap[ib]? = some (MBox r c (some ⟨g2, 0, none⟩) (r * c) (r * c))) := mset HBX.out
      have HFE : Hid (FnM (StoM u3 ib r c (some ⟨g2, 0, none⟩) (r * c) (r * c)) (some ⟨g2, 0, none⟩) (r * c) (r * c) o2) := StoM.fn HF2.out HBX.out
      have HGE' := HGE
      unfold StoM at HGE'
      go_simp
      go_wp2_with fail
      refine hK.out _ _ (HKS.out _ HGE') (fun hHeldE => ?_)
      clear hK K
      try simp only [Act.put, List.setIfInBounds_toArray, List.set_cons_zero, List.set_cons_succ]
      refine wpAnyH_done (by kernel_rfl) ?_ _
      exact HR.out _ _ ⟨g1, g2, ib, o1, o2, rfl, HBE.out, HFE.out, HP1.out, HP2.out, HUE.out, HGE.out⟩
  · rintro a' w2 ⟨g1, g2, ib, o1, o2, rfl, hib, hf2, hp1, hp2, hu, hfr⟩
    simp only [Act.put, List.setIfInBounds_toArray, List.set_cons_zero, List.set_cons_succ]
    have HG := hid hfr
    have HU := hid hu
    have HF := hid hf2
    have HV2 := hid (HVAL.out o1 o2 hp1 hp2)
    have HMI := hid (HMIR.out w2 ib g2 p0 o2 hfr.1 hib hfr.2.1 hf2)
    obtain ⟨x0, x1, x2⟩ := mcells_of hfr.2.1
    clear hib hf2 hp1 hp2 hu hfr HKS
    go_wp2_with fail
    refine HMI.out.mono ?_
    rintro e w3 ⟨hfi, hb3⟩
    obtain ⟨g3, o3, rfl, hg3, hf3, hs3, hp3⟩ := hfi.fn (by have := HM4.out; omega)
    have HB3 := hid (HG.out.1.trans (hb3.mono HG.out.1.size))
    have HU3 := hid (blkM HU.out hb3)
    have HF3 := hid hf3
    have HP3 := hid hp3
    have HS3 := hid hs3
    clear hfi hb3 hg3 hf3 hp3 hs3
    have HAN := hid (answered_any r r (r * r) _ (r * r) o3 w3 HF3.out (by have := HM4.out; omega))
    obtain ⟨X0, X1, X2, X3, X4, hXX⟩ : ∃ a b s m k, Hid ((if finF (r * r) o3 = true then MV r r (some ⟨g3, 0, none⟩) (r * r) (r * r) else MV 0 0 none 0 0) = MV a b s m k) := by
      by_cases q : finF (r * r) o3 = true
      · exact ⟨r, r, _, _, _, by show _ = _; rw [if_pos q]⟩
      · exact ⟨0, 0, _, _, _, by show _ = _; rw [if_neg q]⟩
    obtain ⟨E, hE⟩ : ∃ E, Hid ((if finF (r * r) o3 = true then 0 else 5 : Int) = E) := ⟨_, rfl⟩
    rw [hXX.out, hE.out] at HAN
    unfold MV at HAN ⊢
    go_wp2_with fail
    refine HAN.out.mono ?_
    rintro e w4 ⟨rfl, hk4, hb4⟩
    have HB4 := hid (HB3.out.trans (hb4.mono HB3.out.size))
    have HU4 := hid (blkM HU3.out hb4)
    have HF4 := hid (hk4 _ _ _ _ HF3.out)
    obtain ⟨y0, y1, y2⟩ := mcells_of HU4.out
    have fz := frzM HU4.out
    clear hk4 hb4
    go_wp2_with fail
    exact bodyPost_ret (v := AnsM r r (r * r) g3 o3) (by unfold AnsM; rw [hXX.out, hE.out]; simp [results, Try.results16, go_sem, y0, y1, y2, MV]) rfl ⟨⟨g3, o3, rfl, StoM.fn HF4.out HU4.out, HS3.out, o2, HV2.out, HP3.out⟩, StoM.below HB4.out HNE.out⟩
end Go.Proofs.Ytehgiegmdpaomaa
