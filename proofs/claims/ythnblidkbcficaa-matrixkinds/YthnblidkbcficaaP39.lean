
/- matrix.Sub; Add and Sub of any two. (Written by mknba.py.) -/
import Derived.Test.YthnblidkbcficaaP38
import Derived.Test.YthnblidkbcficaaP25
namespace Go.Proofs.Ythnblidkbcficaa
open Go.RowKit Go.IntWalk

set_option maxRecDepth 4000 in
set_option maxHeartbeats 2000000 in
theorem clo_Sub (i j : Nat) (p0 p1 : Nat) (ra ca rb cb : Nat) (sa sb : Option Addr) (na ka nb kb : Nat) (f g : Nat → Nat) (w : World) (h0 : w.heap[p0]? = some (MBox ra ca sa na ka)) (h1 : w.heap[p1]? = some (MBox rb cb sb nb kb)) (ha : FnM w sa na ka f) (hb : FnM w sb nb kb g) (hc : ca ≤ 100) (hcb : cb ≤ 100) (hi : i ≤ 100) (hj : j ≤ 100) (hia : i * ca + j < na) (hjb : i * cb + j < nb) :
    Calls Try.prog 108 #[.int .i64 i, .int .i64 j, .pointer (some ⟨p0, 0, none⟩), .pointer (some ⟨p1, 0, none⟩)] w fun e w' => ∃ x : Nat, e = .returned (.float .f64 x) ∧ (canonOf x = caf .sub (canonOf (f (i * ca + j))) (canonOf (g (i * cb + j))) ∧ x < 18446744073709551616) ∧ Below w.heap.size w w' := by
  have r1 := ar_run .sub ok_s
  have HKS : Hid (∀ W, Hid (Below w.heap.size w W) → (W.cell? ⟨p0, 0, none⟩ = some (.int .i64 ra) ∧ W.cell? ⟨p0, 1, none⟩ = some (.int .i64 ca) ∧ W.cell? ⟨p0, 2, none⟩ = some (.slice sa na ka) ∧ W.cell? ⟨p1, 0, none⟩ = some (.int .i64 rb) ∧ W.cell? ⟨p1, 1, none⟩ = some (.int .i64 cb) ∧ W.cell? ⟨p1, 2, none⟩ = some (.slice sb nb kb)) ∧ Hid (Below w.heap.size w W)) := fun W hW => by
    obtain ⟨a0, a1, a2⟩ := mcells_of (w := W) ((hW.out.block _ (Array.getElem?_eq_some_iff.1 h0).1).trans h0)
    obtain ⟨b0, b1, b2⟩ := mcells_of (w := W) ((hW.out.block _ (Array.getElem?_eq_some_iff.1 h1).1).trans h1)
    exact ⟨⟨a0, a1, a2, b0, b1, b2⟩, hW⟩
  have HRA : Hid (∀ W, Hid (Below w.heap.size w W) → Calls Try.prog 91 #[.agg #[.int .i64 ra, .int .i64 ca, .slice sa na ka], .int .i64 i, .int .i64 j] W fun e w' => e = .returned (.float .f64 (f (i * ca + j))) ∧ Below W.heap.size W w') := fun W hW => at_fn ra sa ca na ka i j f W (ha.below hW.out) hi hc hj hia
  have HRB : Hid (∀ W, Hid (Below w.heap.size w W) → Calls Try.prog 91 #[.agg #[.int .i64 rb, .int .i64 cb, .slice sb nb kb], .int .i64 i, .int .i64 j] W fun e w' => e = .returned (.float .f64 (g (i * cb + j))) ∧ Below W.heap.size W w') := fun W hW => at_fn rb sb cb nb kb i j g W (hb.below hW.out) hi hcb hj hjb
  have HD : Hid (∀ W, canonOf (arF .sub (f (i * ca + j)) (g (i * cb + j)) W) = caf .sub (canonOf (f (i * ca + j))) (canonOf (g (i * cb + j))) ∧ arF .sub (f (i * ca + j)) (g (i * cb + j)) W < 18446744073709551616) := fun W => ⟨canon_ar ok_s _ _ _ (fn_lt ha _ hia) (fn_lt hb _ hjb), arF_lt ok_s _ _ _⟩
  obtain ⟨X, hX⟩ : ∃ t, Hid (f (i * ca + j) = t) := ⟨_, rfl⟩
  obtain ⟨Y, hY⟩ : ∃ t, Hid (g (i * cb + j) = t) := ⟨_, rfl⟩
  rw [hX.out] at HRA
  rw [hY.out] at HRB
  rw [hX.out, hY.out] at HD ⊢
  have HQ0 : Hid (Below w.heap.size w w.drew) := (Below.refl _ _).drew
  clear h0 h1 ha hb hc hcb hi hj hia hjb
  go_enter Try.func108, Try.ntmps108
  go_wp2_with fail
  refine wp_region_held_drew (S := fun W => (W.cell? ⟨p0, 0, none⟩ = some (.int .i64 ra) ∧ W.cell? ⟨p0, 1, none⟩ = some (.int .i64 ca) ∧ W.cell? ⟨p0, 2, none⟩ = some (.slice sa na ka) ∧ W.cell? ⟨p1, 0, none⟩ = some (.int .i64 rb) ∧ W.cell? ⟨p1, 1, none⟩ = some (.int .i64 cb) ∧ W.cell? ⟨p1, 2, none⟩ = some (.slice sb nb kb)) ∧ Hid (Below w.heap.size w W)) (by kernel_rfl) (HKS.out _ HQ0) (fun hHeld => ?_)
  refine take_at 0 7 (.agg #[.int .i64 ra, .int .i64 ca, .slice sa na ka]) rfl rfl (by kernel_rfl) (by kernel_rfl) (by kernel_rfl) (fun _ _ _ h => h) (Or.inl ⟨by rfl, fun w hSw => by (try dsimp only at hSw); go_simp⟩) (by assumption) ?_
  simp only [Act.put, List.setIfInBounds_toArray, List.set_cons_zero, List.set_cons_succ]
  refine take_at 1 8 (.int .i64 i) rfl rfl (by kernel_rfl) (by kernel_rfl) (by kernel_rfl) (fun _ _ _ h => h) (Or.inl ⟨by rfl, fun w hSw => by (try dsimp only at hSw); go_simp⟩) (by assumption) ?_
  simp only [Act.put, List.setIfInBounds_toArray, List.set_cons_zero, List.set_cons_succ]
  refine take_at 2 9 (.int .i64 j) rfl rfl (by kernel_rfl) (by kernel_rfl) (by kernel_rfl) (fun _ _ _ h => h) (Or.inl ⟨by rfl, fun w hSw => by (try dsimp only at hSw); go_simp⟩) (by assumption) ?_
  simp only [Act.put, List.setIfInBounds_toArray, List.set_cons_zero, List.set_cons_succ]
  refine take_at 4 11 (.agg #[.int .i64 rb, .int .i64 cb, .slice sb nb kb]) rfl rfl (by kernel_rfl) (by kernel_rfl) (by kernel_rfl) (fun _ _ _ h => h) (Or.inl ⟨by rfl, fun w hSw => by (try dsimp only at hSw); go_simp⟩) (by assumption) ?_
  simp only [Act.put, List.setIfInBounds_toArray, List.set_cons_zero, List.set_cons_succ]
  refine take_at 5 12 (.int .i64 i) rfl rfl (by kernel_rfl) (by kernel_rfl) (by kernel_rfl) (fun _ _ _ h => h) (Or.inl ⟨by rfl, fun w hSw => by (try dsimp only at hSw); go_simp⟩) (by assumption) ?_
  simp only [Act.put, List.setIfInBounds_toArray, List.set_cons_zero, List.set_cons_succ]
  refine take_at 6 13 (.int .i64 j) rfl rfl (by kernel_rfl) (by kernel_rfl) (by kernel_rfl) (fun _ _ _ h => h) (Or.inl ⟨by rfl, fun w hSw => by (try dsimp only at hSw); go_simp⟩) (by assumption) ?_
  simp only [Act.put, List.setIfInBounds_toArray, List.set_cons_zero, List.set_cons_succ]
  refine wpAnyH_ready (rs := [3]) (by kernel_rfl) (by simp) ?_
  refine AllReadyH.cons (o := _) rfl (fun K hK => ?_) AllReadyH.nil
  go_simp
  refine (HRA.out _ HQ0).mono ?_
  rintro e u1 ⟨rfl, hb1⟩
  have HG1 : Hid (Below w.heap.size w u1) := HQ0.out.trans (hb1.mono HQ0.out.size)
  clear hb1
  go_wp2_with fail
  refine hK.out _ _ (HKS.out _ HG1) (fun hHeld1 => ?_)
  clear hK K
  try simp only [Act.put, List.setIfInBounds_toArray, List.set_cons_zero, List.set_cons_succ]
  refine wpAnyH_ready (rs := [7]) (by kernel_rfl) (by simp) ?_
  refine AllReadyH.cons (o := _) rfl (fun K hK => ?_) AllReadyH.nil
  go_simp
  refine (HRB.out _ HG1).mono ?_
  rintro e u2 ⟨rfl, hb2⟩
  have HG2 : Hid (Below w.heap.size w u2) := HG1.out.trans (hb2.mono HG1.out.size)
  have HG3 : Hid (Below w.heap.size w (arG .sub X Y u2)) := bl_ar HG2.out _ _ _
  clear hb2
  go_wp2_with fail
  refine hK.out _ _ (HKS.out _ HG2) (fun hHeld2 => ?_)
  clear hK K
  try simp only [Act.put, List.setIfInBounds_toArray, List.set_cons_zero, List.set_cons_succ]
  refine wpAnyH_ready (rs := [8]) (by kernel_rfl) (by simp) ?_
  refine AllReadyH.cons (o := _) rfl (fun K hK => ?_) AllReadyH.nil
  go_simp
  go_wp2_with fail
  refine hK.out _ _ (HKS.out _ HG3) (fun hHeld3 => ?_)
  clear hK K
  try simp only [Act.put, List.setIfInBounds_toArray, List.set_cons_zero, List.set_cons_succ]
  refine take_at 9 6 (.float .f64 (arF .sub X Y u2)) rfl rfl (by kernel_rfl) (by kernel_rfl) (by kernel_rfl) (fun _ _ _ h => h) (Or.inl ⟨by rfl, fun w hSw => by (try dsimp only at hSw); go_simp⟩) (by assumption) ?_
  simp only [Act.put, List.setIfInBounds_toArray, List.set_cons_zero, List.set_cons_succ]
  refine wpAnyH_done (by kernel_rfl) ?_ _
  go_wp2_with fail
  go_ret
  exact ⟨_, rfl, HD.out _, HG3.out⟩
set_option maxRecDepth 4000 in
set_option maxHeartbeats 1000000 in
theorem Sub_shape (r c r2 c2 n n2 : Nat) (sa sb : Option Addr) (ka kb : Nat) (f f2 : Nat → Nat) (w : World) (ha : Gd w r c sa n ka f) (hb : Gd w r2 c2 sb n2 kb f2) (hs : ¬ (r = r2 ∧ c = c2)) :
    Calls Try.prog 49 #[MV r c sa n ka, MV r2 c2 sb n2 kb] w fun e w' => e = .returned (NonM 3) ∧ Below w.heap.size w w' := by
  obtain ⟨t1, t2, t3, t4, t5⟩ := three_b w (MBox r c sa n ka) (MBox r2 c2 sb n2 kb) (MBox 0 0 none 0 0)
  have HCB := hid (fun W (hW : Below w.heap.size w W) => alike_good r c r2 c2 n n2 sa sb ka kb f f2 W (ha.below hW) (hb.below hW))
  rw [if_neg hs] at HCB
  obtain ⟨V, hV⟩ : ∃ V, Hid (((w.alloc (MBox r c sa n ka)).alloc (MBox r2 c2 sb n2 kb)).alloc (MBox 0 0 none 0 0) = V) := ⟨_, rfl⟩
  rw [hV.out] at t1 t2 t3 t4 t5
  have hV' := hV.out
  have HB := hid t4
  have HR := hid t3
  obtain ⟨x0, x1, x2⟩ := mcells_of t1
  obtain ⟨v0, v1, v2⟩ := mcells_of t2
  unfold MBox at hV'
  unfold NonM
  unfold MV at HCB ⊢
  clear t1 t2 t3 t4 t5 ha hb hs
  go_enter Try.func49, Try.ntmps49
  go_wp2_with fail
  refine (HCB.out _ HB.out).mono ?_
  rintro e w1 ⟨rfl, hb1⟩
  have HB1 := hid (HB.out.trans (hb1.mono HB.out.size))
  have HR1 := hid (blkM HR.out hb1)
  clear hb1
  go_wp2_with fail
  refine (refused_any 3 _).mono ?_
  rintro e w2 ⟨rfl, hb2⟩
  have HB2 := hid (HB1.out.trans (hb2.mono HB1.out.size))
  have HR2 := hid (blkM HR1.out hb2)
  obtain ⟨r0, r1, r2⟩ := mcells_of HR2.out
  have fz := frzM HR2.out
  unfold MV
  clear hb2
  go_wp2_with fail
  exact bodyPost_ret (v := .tuple #[MV 0 0 none 0 0, .int .i64 3]) (by simp [results, Try.results49, go_sem, r0, r1, r2, MV]) rfl ⟨rfl, StoM.below HB2.out (by omega)⟩
set_option maxRecDepth 4000 in
set_option maxHeartbeats 1000000 in
theorem Sub_ok (r c n n2 : Nat) (sa sb : Option Addr) (ka kb : Nat) (f f2 : Nat → Nat) (w : World) (ha : Gd w r c sa n ka f) (hb : Gd w r c sb n2 kb f2) :
    Calls Try.prog 49 #[MV r c sa n ka, MV r c sb n2 kb] w fun e w' => (∃ (g : Nat) (o : Nat → Nat), e = .returned (AnsM r c (r * c) g o) ∧ FnM w' (some ⟨g, 0, none⟩) (r * c) (r * c) o ∧ ∀ i j, i < r → j < c → canonOf (o (i * c + j)) = caf .sub (canonOf (f (i * c + j))) (canonOf (f2 (i * c + j)))) ∧ Below w.heap.size w w' := by
  obtain ⟨t1, t2, t3, t4, t5⟩ := three_b w (MBox r c sa n ka) (MBox r c sb n2 kb) (MBox 0 0 none 0 0)
  have HCB := hid (fun W (hW : Below w.heap.size w W) => alike_good r c r c n n2 sa sb ka kb f f2 W (ha.below hW) (hb.below hW))
  rw [if_pos ⟨rfl, rfl⟩] at HCB
  have l1 := ha.1
  have l2 := ha.2.1
  have hm1 : r * c ≤ 144 := Nat.mul_le_mul l1 l2
  have HM1 : Hid (r * c ≤ 144) := hm1
  have HFI := hid (fun W (hW : Below (((w.alloc (MBox r c sa n ka)).alloc (MBox r c sb n2 kb)).alloc (MBox 0 0 none 0 0)).heap.size (((w.alloc (MBox r c sa n ka)).alloc (MBox r c sb n2 kb)).alloc (MBox 0 0 none 0 0)) W) => fill_Sub r c (by omega) (by omega) ⟨w.heap.size, 0, none⟩ ⟨w.heap.size + 1, 0, none⟩ (fun i j x => canonOf x = caf .sub (canonOf (f (i * c + j))) (canonOf (f2 (i * c + j)))) W (fun W2 i j hW2 hi hj => clo_Sub i j w.heap.size (w.heap.size + 1) r c r c sa sb n ka n2 kb f f2 W2 (blkM (blkM t1 hW) hW2) (blkM (blkM t2 hW) hW2) (((ha.2.2.2.1.below t4).below hW).below hW2) (((hb.2.2.2.1.below t4).below hW).below hW2) (by omega) (by omega) (by omega) (by omega) (by rw [ha.2.2.1]; exact place_lt hi hj) (by rw [hb.2.2.1]; exact place_lt hi hj)))
  obtain ⟨V, hV⟩ : ∃ V, Hid (((w.alloc (MBox r c sa n ka)).alloc (MBox r c sb n2 kb)).alloc (MBox 0 0 none 0 0) = V) := ⟨_, rfl⟩
  rw [hV.out] at HFI t1 t2 t3 t4 t5
  have hV' := hV.out
  have HB := hid t4
  have HR := hid t3
  have HA0 := hid t1
  have HA1 := hid t2
  obtain ⟨x0, x1, x2⟩ := mcells_of t1
  obtain ⟨v0, v1, v2⟩ := mcells_of t2
  unfold MBox at hV'
  unfold MV at HCB ⊢
  clear t1 t2 t3 t4 t5 ha hb l1 l2 hm1
  go_enter Try.func49, Try.ntmps49
  go_wp2_with fail
  refine (HCB.out _ HB.out).mono ?_
  rintro e w1 ⟨rfl, hb1⟩
  have HB1 := hid (HB.out.trans (hb1.mono HB.out.size))
  have HR1 := hid (blkM HR.out hb1)
  have HFF := hid (HFI.out _ hb1)
  obtain ⟨x0, x1, x2⟩ := mcells_of (blkM HA0.out hb1)
  obtain ⟨v0, v1, v2⟩ := mcells_of (blkM HA1.out hb1)
  clear hb1
  go_wp2_with fail
  refine HFF.out.mono ?_
  rintro e w2 ⟨hfi, hb2⟩
  obtain ⟨g1, o1, rfl, hg1, hf1, hp1⟩ := hfi.fn (by have := HM1.out; omega)
  have HB2 := hid (HB1.out.trans (hb2.mono HB1.out.size))
  have HR2 := hid (blkM HR1.out hb2)
  have HF1 := hid hf1
  have HP1 := hid hp1
  clear hb2 hfi hg1 hf1 hp1
  have HAN := hid (answered_any r c (r * c) _ (r * c) o1 w2 HF1.out (by have := HM1.out; omega))
  obtain ⟨X0, X1, X2, X3, X4, hXX⟩ : ∃ a b s m k, Hid ((if finF (r * c) o1 = true then MV r c (some ⟨g1, 0, none⟩) (r * c) (r * c) else MV 0 0 none 0 0) = MV a b s m k) := by
    by_cases q : finF (r * c) o1 = true
    · exact ⟨r, c, _, _, _, by show _ = _; rw [if_pos q]⟩
    · exact ⟨0, 0, _, _, _, by show _ = _; rw [if_neg q]⟩
  obtain ⟨E, hE⟩ : ∃ E, Hid ((if finF (r * c) o1 = true then 0 else 5 : Int) = E) := ⟨_, rfl⟩
  rw [hXX.out, hE.out] at HAN
  unfold MV at HAN ⊢
  go_wp2_with fail
  refine HAN.out.mono ?_
  rintro e w3 ⟨rfl, hk3, hb3⟩
  have HB3 := hid (HB2.out.trans (hb3.mono HB2.out.size))
  have HR3 := hid (blkM HR2.out hb3)
  have HF3 := hid (hk3 _ _ _ _ HF1.out)
  obtain ⟨y0, y1, y2⟩ := mcells_of HR3.out
  have fz := frzM HR3.out
  clear hk3 hb3
  go_wp2_with fail
  exact bodyPost_ret (v := AnsM r c (r * c) g1 o1) (by unfold AnsM; rw [hXX.out, hE.out]; simp [results, Try.results49, go_sem, y0, y1, y2, MV]) rfl ⟨⟨g1, o1, rfl, StoM.fn HF3.out HR3.out, HP1.out⟩, StoM.below HB3.out (by omega)⟩
theorem Sub_res (r c r2 c2 n n2 : Nat) (sa sb : Option Addr) (ka kb : Nat) (f f2 : Nat → Nat) (v : Nat → Nat → Nat) (w : World) (ha : Gd w r c sa n ka f) (hb : Gd w r2 c2 sb n2 kb f2) (hv : r = r2 ∧ c = c2 → ∀ i j, i < r → j < c → caf .sub (canonOf (f (i * c + j))) (canonOf (f2 (i * c + j))) = v i j) :
    Calls Try.prog 49 #[.agg #[.int .i64 r, .int .i64 c, .slice sa n ka], .agg #[.int .i64 r2, .int .i64 c2, .slice sb n2 kb]] w fun e w' => (∃ X0 X1 X2 X3 X4, e = .returned (.tuple #[.agg #[.int .i64 X0, .int .i64 X1, .slice X2 X3 X4], .int .i64 (addE r c r2 c2 v)]) ∧ ResM (addE r c r2 c2 v) r c v w' X0 X1 X2 X3 X4) ∧ Below w.heap.size w w' := by
  by_cases hs : r = r2 ∧ c = c2
  · obtain ⟨rfl, rfl⟩ := hs
    refine (Sub_ok r c n n2 sa sb ka kb f f2 w ha hb).mono ?_
    rintro e w' ⟨⟨g, o, rfl, hf, hv2⟩, hbb⟩
    obtain ⟨X0, X1, X2, X3, X4, h1, h2⟩ := res_of r c g o v (addE r c r c v) w' (by unfold addE; rw [if_neg (fun h => h ⟨rfl, rfl⟩)]) hf (fun i j hi hj => (hv2 i j hi hj).trans (hv ⟨rfl, rfl⟩ i j hi hj))
    exact ⟨⟨X0, X1, X2, X3, X4, by rw [h1], h2⟩, hbb⟩
  · refine (Sub_shape r c r2 c2 n n2 sa sb ka kb f f2 w ha hb hs).mono ?_
    rintro e w' ⟨rfl, hbb⟩
    have e3 : addE r c r2 c2 v = 3 := by unfold addE; rw [if_pos hs]
    obtain ⟨X0, X1, X2, X3, X4, h1, h2⟩ := res_non r c v (addE r c r2 c2 v) w' (by rw [e3]; decide)
    exact ⟨⟨X0, X1, X2, X3, X4, by rw [← h1, e3], h2⟩, hbb⟩
set_option maxRecDepth 4000 in
set_option maxHeartbeats 1000000 in
theorem alike_bad (r c r2 c2 : Int) (n n2 : Nat) (sa sb : Option Addr) (ka kb : Nat) (xs ys : List Nat) (w : World) (ha : FlM w sa n ka xs) (hb : FlM w sb n2 kb ys) (hn : n ≤ 17592186043904) (hn2 : n2 ≤ 17592186043904) (hE : first2 (chkM r c n xs) (chkM r2 c2 n2 ys) ≠ 0) :
    Calls Try.prog 105 #[MV r c sa n ka, MV r2 c2 sb n2 kb] w fun e w' => e = .returned (.int .i64 (first2 (chkM r c n xs) (chkM r2 c2 n2 ys))) ∧ Below w.heap.size w w' := by
  obtain ⟨t1, t2, t3, t4⟩ := two_b w (MBox r c sa n ka) (MBox r2 c2 sb n2 kb)
  have HCB := hid (fun W (hW : Below w.heap.size w W) => checkBoth_any r c r2 c2 n n2 sa sb ka kb _ _ W (ha.below hW) (hb.below hW) hn hn2)
  obtain ⟨E, hEE⟩ : ∃ E, Hid (first2 (chkM r c n xs) (chkM r2 c2 n2 ys) = E) := ⟨_, rfl⟩
  rw [hEE.out] at HCB hE
  rw [hEE.out]
  have hne : (E != 0) = true := by simpa using hE
  obtain ⟨V, hV⟩ : ∃ V, Hid ((w.alloc (MBox r c sa n ka)).alloc (MBox r2 c2 sb n2 kb) = V) := ⟨_, rfl⟩
  rw [hV.out] at t1 t2 t3 t4
  have hV' := hV.out
  have HB := hid t3
  obtain ⟨x0, x1, x2⟩ := mcells_of t1
  obtain ⟨v0, v1, v2⟩ := mcells_of t2
  unfold MBox at hV'
  unfold MV at HCB ⊢
  clear t1 t2 t3 t4 ha hb hn hn2 hE
  go_enter Try.func105, Try.ntmps105
  go_wp2_with fail
  refine (HCB.out _ HB.out).mono ?_
  rintro e w1 ⟨rfl, hb1⟩
  have HB1 := hid (HB.out.trans (hb1.mono HB.out.size))
  clear hb1
  go_wp2_with fail
  go_ret
  exact ⟨rfl, HB1.out⟩
set_option maxRecDepth 4000 in
set_option maxHeartbeats 1000000 in
theorem Add_bad (r c r2 c2 : Int) (n n2 : Nat) (sa sb : Option Addr) (ka kb : Nat) (xs ys : List Nat) (w : World) (ha : FlM w sa n ka xs) (hb : FlM w sb n2 kb ys) (hn : n ≤ 17592186043904) (hn2 : n2 ≤ 17592186043904) (hE : first2 (chkM r c n xs) (chkM r2 c2 n2 ys) ≠ 0) :
    Calls Try.prog 48 #[MV r c sa n ka, MV r2 c2 sb n2 kb] w fun e w' => e = .returned (NonM (first2 (chkM r c n xs) (chkM r2 c2 n2 ys))) ∧ Below w.heap.size w w' := by
  obtain ⟨t1, t2, t3, t4, t5⟩ := three_b w (MBox r c sa n ka) (MBox r2 c2 sb n2 kb) (MBox 0 0 none 0 0)
  have HCB := hid (fun W (hW : Below w.heap.size w W) => alike_bad r c r2 c2 n n2 sa sb ka kb xs ys W (ha.below hW) (hb.below hW) hn hn2 hE)
  obtain ⟨E, hEE⟩ : ∃ E, Hid (first2 (chkM r c n xs) (chkM r2 c2 n2 ys) = E) := ⟨_, rfl⟩
  rw [hEE.out] at HCB hE
  rw [hEE.out]
  have hne : (E != 0) = true := by simpa using hE
  obtain ⟨V, hV⟩ : ∃ V, Hid (((w.alloc (MBox r c sa n ka)).alloc (MBox r2 c2 sb n2 kb)).alloc (MBox 0 0 none 0 0) = V) := ⟨_, rfl⟩
  rw [hV.out] at t1 t2 t3 t4 t5
  have hV' := hV.out
  have HB := hid t4
  have HR := hid t3
  obtain ⟨x0, x1, x2⟩ := mcells_of t1
  obtain ⟨v0, v1, v2⟩ := mcells_of t2
  unfold MBox at hV'
  unfold NonM
  unfold MV at HCB ⊢
  clear t1 t2 t3 t4 t5 ha hb hn hn2 hE
  go_enter Try.func48, Try.ntmps48
  go_wp2_with fail
  refine (HCB.out _ HB.out).mono ?_
  rintro e w1 ⟨rfl, hb1⟩
  have HB1 := hid (HB.out.trans (hb1.mono HB.out.size))
  have HR1 := hid (blkM HR.out hb1)
  clear hb1
  go_wp2_with fail
  refine (refused_any E _).mono ?_
  rintro e w2 ⟨rfl, hb2⟩
  have HB2 := hid (HB1.out.trans (hb2.mono HB1.out.size))
  have HR2 := hid (blkM HR1.out hb2)
  obtain ⟨r0, r1, r2⟩ := mcells_of HR2.out
  have fz := frzM HR2.out
  unfold MV
  clear hb2
  go_wp2_with fail
  exact bodyPost_ret (v := .tuple #[MV 0 0 none 0 0, .int .i64 E]) (by simp [results, Try.results48, go_sem, r0, r1, r2, MV]) rfl ⟨rfl, StoM.below HB2.out (by omega)⟩
set_option maxRecDepth 4000 in
set_option maxHeartbeats 1000000 in
theorem Sub_bad (r c r2 c2 : Int) (n n2 : Nat) (sa sb : Option Addr) (ka kb : Nat) (xs ys : List Nat) (w : World) (ha : FlM w sa n ka xs) (hb : FlM w sb n2 kb ys) (hn : n ≤ 17592186043904) (hn2 : n2 ≤ 17592186043904) (hE : first2 (chkM r c n xs) (chkM r2 c2 n2 ys) ≠ 0) :
    Calls Try.prog 49 #[MV r c sa n ka, MV r2 c2 sb n2 kb] w fun e w' => e = .returned (NonM (first2 (chkM r c n xs) (chkM r2 c2 n2 ys))) ∧ Below w.heap.size w w' := by
  obtain ⟨t1, t2, t3, t4, t5⟩ := three_b w (MBox r c sa n ka) (MBox r2 c2 sb n2 kb) (MBox 0 0 none 0 0)
  have HCB := hid (fun W (hW : Below w.heap.size w W) => alike_bad r c r2 c2 n n2 sa sb ka kb xs ys W (ha.below hW) (hb.below hW) hn hn2 hE)
  obtain ⟨E, hEE⟩ : ∃ E, Hid (first2 (chkM r c n xs) (chkM r2 c2 n2 ys) = E) := ⟨_, rfl⟩
  rw [hEE.out] at HCB hE
  rw [hEE.out]
  have hne : (E != 0) = true := by simpa using hE
  obtain ⟨V, hV⟩ : ∃ V, Hid (((w.alloc (MBox r c sa n ka)).alloc (MBox r2 c2 sb n2 kb)).alloc (MBox 0 0 none 0 0) = V) := ⟨_, rfl⟩
  rw [hV.out] at t1 t2 t3 t4 t5
  have hV' := hV.out
  have HB := hid t4
  have HR := hid t3
  obtain ⟨x0, x1, x2⟩ := mcells_of t1
  obtain ⟨v0, v1, v2⟩ := mcells_of t2
  unfold MBox at hV'
  unfold NonM
  unfold MV at HCB ⊢
  clear t1 t2 t3 t4 t5 ha hb hn hn2 hE
  go_enter Try.func49, Try.ntmps49
  go_wp2_with fail
  refine (HCB.out _ HB.out).mono ?_
  rintro e w1 ⟨rfl, hb1⟩
  have HB1 := hid (HB.out.trans (hb1.mono HB.out.size))
  have HR1 := hid (blkM HR.out hb1)
  clear hb1
  go_wp2_with fail
  refine (refused_any E _).mono ?_
  rintro e w2 ⟨rfl, hb2⟩
  have HB2 := hid (HB1.out.trans (hb2.mono HB1.out.size))
  have HR2 := hid (blkM HR1.out hb2)
  obtain ⟨r0, r1, r2⟩ := mcells_of HR2.out
  have fz := frzM HR2.out
  unfold MV
  clear hb2
  go_wp2_with fail
  exact bodyPost_ret (v := .tuple #[MV 0 0 none 0 0, .int .i64 E]) (by simp [results, Try.results49, go_sem, r0, r1, r2, MV]) rfl ⟨rfl, StoM.below HB2.out (by omega)⟩
/-- The numbers of a sum, of a difference. -/
def addV (op : BinOp) (xs ys : List Nat) (c : Nat) (i j : Nat) : Nat := caf op (canonOf (xs.getD (i * c + j) 0)) (canonOf (ys.getD (i * c + j) 0))
/-- What Add and Sub tell of any two. -/
def addT (op : BinOp) (rx cx : Int) (n : Nat) (xs : List Nat) (ry cy : Int) (m : Nat) (ys : List Nat) : Int := if first2 (chkM rx cx n xs) (chkM ry cy m ys) = 0 then addE rx.toNat cx.toNat ry.toNat cy.toNat (addV op xs ys cx.toNat) else first2 (chkM rx cx n xs) (chkM ry cy m ys)
theorem Add_tot (rx cx : Int) (sa : Option Addr) (n ka : Nat) (xs : List Nat) (ry cy : Int) (sb : Option Addr) (m kb : Nat) (ys : List Nat) (w : World) (ha : FlM w sa n ka xs) (hb : FlM w sb m kb ys) (hn : n ≤ 17592186043904) (hm : m ≤ 17592186043904) :
    Calls Try.prog 48 #[.agg #[.int .i64 rx, .int .i64 cx, .slice sa n ka], .agg #[.int .i64 ry, .int .i64 cy, .slice sb m kb]] w fun e w' => (∃ X0 X1 X2 X3 X4, e = .returned (.tuple #[.agg #[.int .i64 X0, .int .i64 X1, .slice X2 X3 X4], .int .i64 (addT .add rx cx n xs ry cy m ys)]) ∧ ResM (addT .add rx cx n xs ry cy m ys) rx.toNat cx.toNat (addV .add xs ys cx.toNat) w' X0 X1 X2 X3 X4) ∧ Below w.heap.size w w' := by
  unfold addT
  by_cases h : first2 (chkM rx cx n xs) (chkM ry cy m ys) = 0
  · rw [if_pos h]
    obtain ⟨h1, h2⟩ := first2_zero h
    obtain ⟨r, c, rfl, rfl, hga⟩ := gd_of ha h1
    obtain ⟨r2, c2, rfl, rfl, hgb⟩ := gd_of hb h2
    exact Add_res r c r2 c2 n m sa sb ka kb _ _ (addV .add xs ys c) w hga hgb (fun _ i j _ _ => rfl)
  · rw [if_neg h]
    refine (Add_bad rx cx ry cy n m sa sb ka kb xs ys w ha hb hn hm h).mono ?_
    rintro e w' ⟨rfl, hbb⟩
    obtain ⟨X0, X1, X2, X3, X4, e1, e2⟩ := res_non rx.toNat cx.toNat (addV .add xs ys cx.toNat) _ w' h
    exact ⟨⟨X0, X1, X2, X3, X4, by rw [e1], e2⟩, hbb⟩
theorem Sub_tot (rx cx : Int) (sa : Option Addr) (n ka : Nat) (xs : List Nat) (ry cy : Int) (sb : Option Addr) (m kb : Nat) (ys : List Nat) (w : World) (ha : FlM w sa n ka xs) (hb : FlM w sb m kb ys) (hn : n ≤ 17592186043904) (hm : m ≤ 17592186043904) :
    Calls Try.prog 49 #[.agg #[.int .i64 rx, .int .i64 cx, .slice sa n ka], .agg #[.int .i64 ry, .int .i64 cy, .slice sb m kb]] w fun e w' => (∃ X0 X1 X2 X3 X4, e = .returned (.tuple #[.agg #[.int .i64 X0, .int .i64 X1, .slice X2 X3 X4], .int .i64 (addT .sub rx cx n xs ry cy m ys)]) ∧ ResM (addT .sub rx cx n xs ry cy m ys) rx.toNat cx.toNat (addV .sub xs ys cx.toNat) w' X0 X1 X2 X3 X4) ∧ Below w.heap.size w w' := by
  unfold addT
  by_cases h : first2 (chkM rx cx n xs) (chkM ry cy m ys) = 0
  · rw [if_pos h]
    obtain ⟨h1, h2⟩ := first2_zero h
    obtain ⟨r, c, rfl, rfl, hga⟩ := gd_of ha h1
    obtain ⟨r2, c2, rfl, rfl, hgb⟩ := gd_of hb h2
    exact Sub_res r c r2 c2 n m sa sb ka kb _ _ (addV .sub xs ys c) w hga hgb (fun _ i j _ _ => rfl)
  · rw [if_neg h]
    refine (Sub_bad rx cx ry cy n m sa sb ka kb xs ys w ha hb hn hm h).mono ?_
    rintro e w' ⟨rfl, hbb⟩
    obtain ⟨X0, X1, X2, X3, X4, e1, e2⟩ := res_non rx.toNat cx.toNat (addV .sub xs ys cx.toNat) _ w' h
    exact ⟨⟨X0, X1, X2, X3, X4, by rw [e1], e2⟩, hbb⟩
end Go.Proofs.Ythnblidkbcficaa
