
/- matrix: checkSquare, Mean, Equal; the document's SameList; the law's alike and of. (Written by mkmxj.py.) -/
import Derived.Test.YtehgiegmdpaomaaP27
import Derived.Test.YtehgiegmdpaomaaP15
namespace Go.Proofs.Ytehgiegmdpaomaa
open Go.RowKit Go.IntWalk

/-- A quotient's bits; where there is none, a NaN that is drawn. -/
def quF (x y : Nat) (w : World) : Nat := (floatBits .quo .f64 x y).getD (nanF x y w)
def quG (x y : Nat) (w : World) : World := if (floatBits .quo .f64 x y).isSome then w else w.drew
theorem qu_run (x y : Nat) (w : World) : (binOp .quo 42 (.float .f64 x) (.float .f64 y)).run Try.prog w = .ok (.float .f64 (quF x y w)) (quG x y w) := by
  unfold quF quG
  cases h : floatBits .quo .f64 x y with
  | none =>
    have := nan_run .quo x y (by simp) h 42 w
    simpa using this
  | some z =>
    simp only [Option.getD_some, Option.isSome_some, if_true]
    exact run_float_arith w _ _ .f64 x y z h
theorem bl_qu {B : Nat} {w W : World} (h : Below B w W) (x y : Nat) : Below B w (quG x y W) := by
  unfold quG
  split
  · exact h
  · exact h.drew
theorem quF_lt (x y : Nat) (w : World) : quF x y w < 18446744073709551616 := by
  unfold quF
  cases h : floatBits .quo .f64 x y with
  | none => exact (nanF_nan x y w).1
  | some z =>
    have h1 : z < 2 ^ FloatKind.f64.format.width := Ieee.Format.div_lt _ h
    have h2 : (2 : Nat) ^ FloatKind.f64.format.width = 18446744073709551616 := by decide
    rw [h2] at h1
    exact h1
set_option maxRecDepth 4000 in
set_option maxHeartbeats 1000000 in
theorem square_good (r c n : Nat) (sa : Option Addr) (ka : Nat) (f : Nat → Nat) (w : World) (ha : Gd w r c sa n ka f) :
    Calls Try.prog 31 #[MV r c sa n ka] w fun e w' => e = .returned (.int .i64 (if r = c then 0 else 3)) ∧ Below w.heap.size w w' := by
  have HA0 : Hid ((w.alloc (MBox r c sa n ka)).heap[w.heap.size]? = some (MBox r c sa n ka)) := nblkM _ _
  have HB : Hid (Below w.heap.size w (w.alloc (MBox r c sa n ka))) := (Below.refl _ _).alloc (Nat.le_refl _) _
  have HCB := hid (fun W (hW : Below w.heap.size w W) => Check_any r c sa n ka _ W ((ha.below hW).2.2.2.1.fl) (by have := ha.le; omega))
  rw [ha.chk] at HCB
  obtain ⟨V, hV⟩ : ∃ V, Hid (w.alloc (MBox r c sa n ka) = V) := ⟨_, rfl⟩
  rw [hV.out] at HA0 HB
  have hV' := hV.out
  obtain ⟨x0, x1, x2⟩ := mcells_of HA0.out
  unfold MBox at hV'
  unfold MV at HCB ⊢
  clear ha
  by_cases h1 : r = c
  · have d1 : ((r : Int) != (c : Int)) = false := by rw [h1]; simp
    rw [if_pos h1]
    clear h1
    go_enter Try.func31, Try.ntmps31
    go_wp2_with fail
    refine (HCB.out _ HB.out).mono ?_
    rintro e w1 ⟨rfl, hb1⟩
    have HB1 := hid (HB.out.trans (hb1.mono HB.out.size))
    obtain ⟨x0, x1, x2⟩ := mcells_of (blkM HA0.out hb1)
    clear hb1
    go_wp2_with fail
    go_ret
    exact ⟨rfl, HB1.out⟩
  · have d1 : ((r : Int) != (c : Int)) = true := by simp; omega
    rw [if_neg h1]
    clear h1
    go_enter Try.func31, Try.ntmps31
    go_wp2_with fail
    refine (HCB.out _ HB.out).mono ?_
    rintro e w1 ⟨rfl, hb1⟩
    have HB1 := hid (HB.out.trans (hb1.mono HB.out.size))
    obtain ⟨x0, x1, x2⟩ := mcells_of (blkM HA0.out hb1)
    clear hb1
    go_wp2_with fail
    go_ret
    exact ⟨rfl, HB1.out⟩
/-- What Mean's closure answers. -/
def MeanP (f : Nat → Nat) (c i j x : Nat) : Prop := (i = j ∧ x = f (i * c + i)) ∨ (i ≠ j ∧ ∃ W W', x = quF (arF .add (f (i * c + j)) (f (j * c + i)) W) 4611686018427387904 W')
set_option maxRecDepth 4000 in
set_option maxHeartbeats 2000000 in
theorem clo_Mean (i j : Nat) (p0 : Nat) (ra ca : Nat) (sa : Option Addr) (na ka : Nat) (f : Nat → Nat) (w : World) (h0 : w.heap[p0]? = some (MBox ra ca sa na ka)) (ha : FnM w sa na ka f) (hc : ca ≤ 100) (hi : i ≤ 100) (hj : j ≤ 100) (hk : i * ca + j < na) (hk2 : j * ca + i < na) :
    Calls Try.prog 41 #[.int .i64 i, .int .i64 j, .pointer (some ⟨p0, 0, none⟩)] w fun e w' => ∃ x : Nat, e = .returned (.float .f64 x) ∧ (MeanP f ca i j x ∧ x < 18446744073709551616) ∧ Below w.heap.size w w' := by
  have r1 := ar_run .add ok_a
  have r2 := qu_run
  by_cases hij : i = j
  · subst hij
    obtain ⟨a0, a1, a2⟩ := mcells_of h0
    have HAT := hid (at_fn ra sa ca na ka i i f w ha hi hc hi hk)
    have HLT := hid (fn_lt ha _ hk)
    have heq : ((i : Int) == (i : Int)) = true := by simp
    unfold MV at HAT
    clear h0 ha hc hi hj hk hk2
    go_enter Try.func41, Try.ntmps41
    go_wp2_with fail
    refine HAT.out.mono ?_
    rintro e w1 ⟨rfl, hb1⟩
    go_wp2_with fail
    go_ret
    exact ⟨_, rfl, ⟨Or.inl ⟨rfl, rfl⟩, HLT.out⟩, hb1⟩
  · have HIJ := hid hij
    have heq : ((i : Int) == (j : Int)) = false := by simp; omega
    have HKS : Hid (∀ W, Hid (Below w.heap.size w W) → (W.cell? ⟨p0, 0, none⟩ = some (.int .i64 ra) ∧ W.cell? ⟨p0, 1, none⟩ = some (.int .i64 ca) ∧ W.cell? ⟨p0, 2, none⟩ = some (.slice sa na ka)) ∧ Hid (Below w.heap.size w W)) := fun W hW => by
      obtain ⟨a0, a1, a2⟩ := mcells_of (w := W) ((hW.out.block _ (Array.getElem?_eq_some_iff.1 h0).1).trans h0)
      exact ⟨⟨a0, a1, a2⟩, hW⟩
    have HRA : Hid (∀ W, Hid (Below w.heap.size w W) → Calls Try.prog 28 #[.agg #[.int .i64 ra, .int .i64 ca, .slice sa na ka], .int .i64 i, .int .i64 j] W fun e w' => e = .returned (.float .f64 (f (i * ca + j))) ∧ Below W.heap.size W w') := fun W hW => at_fn ra sa ca na ka i j f W (ha.below hW.out) hi hc hj hk
    have HRB : Hid (∀ W, Hid (Below w.heap.size w W) → Calls Try.prog 28 #[.agg #[.int .i64 ra, .int .i64 ca, .slice sa na ka], .int .i64 j, .int .i64 i] W fun e w' => e = .returned (.float .f64 (f (j * ca + i))) ∧ Below W.heap.size W w') := fun W hW => at_fn ra sa ca na ka j i f W (ha.below hW.out) hj hc hi hk2
    unfold MeanP
    obtain ⟨X, hX⟩ : ∃ t, Hid (f (i * ca + j) = t) := ⟨_, rfl⟩
    obtain ⟨Y, hY⟩ : ∃ t, Hid (f (j * ca + i) = t) := ⟨_, rfl⟩
    rw [hX.out] at HRA
    rw [hY.out] at HRB
    rw [hX.out, hY.out]
    have HQ0 : Hid (Below w.heap.size w w.drew) := (Below.refl _ _).drew
    clear h0 ha hc hi hj hk hk2 hij
    go_enter Try.func41, Try.ntmps41
    go_wp2_with fail
    refine wp_region_held_drew (S := fun W => (W.cell? ⟨p0, 0, none⟩ = some (.int .i64 ra) ∧ W.cell? ⟨p0, 1, none⟩ = some (.int .i64 ca) ∧ W.cell? ⟨p0, 2, none⟩ = some (.slice sa na ka)) ∧ Hid (Below w.heap.size w W)) (by kernel_rfl) (HKS.out _ HQ0) (fun hHeld => ?_)
    refine take_at 0 13 (.agg #[.int .i64 ra, .int .i64 ca, .slice sa na ka]) rfl rfl (by kernel_rfl) (by kernel_rfl) (by kernel_rfl) (fun _ _ _ h => h) (Or.inl ⟨by rfl, fun w hSw => by (try dsimp only at hSw); go_simp⟩) (by assumption) ?_
    simp only [Act.put, List.setIfInBounds_toArray, List.set_cons_zero, List.set_cons_succ]
    refine take_at 1 14 (.int .i64 i) rfl rfl (by kernel_rfl) (by kernel_rfl) (by kernel_rfl) (fun _ _ _ h => h) (Or.inl ⟨by rfl, fun w hSw => by (try dsimp only at hSw); go_simp⟩) (by assumption) ?_
    simp only [Act.put, List.setIfInBounds_toArray, List.set_cons_zero, List.set_cons_succ]
    refine take_at 2 15 (.int .i64 j) rfl rfl (by kernel_rfl) (by kernel_rfl) (by kernel_rfl) (fun _ _ _ h => h) (Or.inl ⟨by rfl, fun w hSw => by (try dsimp only at hSw); go_simp⟩) (by assumption) ?_
    simp only [Act.put, List.setIfInBounds_toArray, List.set_cons_zero, List.set_cons_succ]
    refine take_at 4 17 (.agg #[.int .i64 ra, .int .i64 ca, .slice sa na ka]) rfl rfl (by kernel_rfl) (by kernel_rfl) (by kernel_rfl) (fun _ _ _ h => h) (Or.inl ⟨by rfl, fun w hSw => by (try dsimp only at hSw); go_simp⟩) (by assumption) ?_
    simp only [Act.put, List.setIfInBounds_toArray, List.set_cons_zero, List.set_cons_succ]
    refine take_at 5 18 (.int .i64 j) rfl rfl (by kernel_rfl) (by kernel_rfl) (by kernel_rfl) (fun _ _ _ h => h) (Or.inl ⟨by rfl, fun w hSw => by (try dsimp only at hSw); go_simp⟩) (by assumption) ?_
    simp only [Act.put, List.setIfInBounds_toArray, List.set_cons_zero, List.set_cons_succ]
    refine take_at 6 19 (.int .i64 i) rfl rfl (by kernel_rfl) (by kernel_rfl) (by kernel_rfl) (fun _ _ _ h => h) (Or.inl ⟨by rfl, fun w hSw => by (try dsimp only at hSw); go_simp⟩) (by assumption) ?_
    simp only [Act.put, List.setIfInBounds_toArray, List.set_cons_zero, List.set_cons_succ]
    refine wpAnyH_ready (rs := [3]) (by kernel_rfl) (by simp) ?_
    refine AllReadyH.cons (o := _) rfl (fun K hK => ?_) AllReadyH.nil
    go_simp
    refine (HRA.out _ HQ0).mono ?_
    rintro e u1 ⟨rfl, hb1⟩
    have HG1 : Hid (Below w.heap.size w u1) := HQ0.out.trans (hb1.mono HQ0.out.size)
    clear hb1
    go_wp2_with fail
    refine hK.out _ _ (HKS.out _ HG1) (fun hHeld1 => ?_)
    clear hK K
    try simp only [Act.put, List.setIfInBounds_toArray, List.set_cons_zero, List.set_cons_succ]
    refine wpAnyH_ready (rs := [7]) (by kernel_rfl) (by simp) ?_
    refine AllReadyH.cons (o := _) rfl (fun K hK => ?_) AllReadyH.nil
    go_simp
    refine (HRB.out _ HG1).mono ?_
    rintro e u2 ⟨rfl, hb2⟩
    have HG2 : Hid (Below w.heap.size w u2) := HG1.out.trans (hb2.mono HG1.out.size)
    have HG3 : Hid (Below w.heap.size w (arG .add X Y u2)) := bl_ar HG2.out _ _ _
    have HG4 : Hid (Below w.heap.size w (quG (arF .add X Y u2) 4611686018427387904 (arG .add X Y u2))) := bl_qu HG3.out _ _
    clear hb2
    go_wp2_with fail
    refine hK.out _ _ (HKS.out _ HG2) (fun hHeld2 => ?_)
    clear hK K
    try simp only [Act.put, List.setIfInBounds_toArray, List.set_cons_zero, List.set_cons_succ]
    refine wpAnyH_ready (rs := [8]) (by kernel_rfl) (by simp) ?_
    refine AllReadyH.cons (o := _) rfl (fun K hK => ?_) AllReadyH.nil
    go_simp
    go_wp2_with fail
    refine hK.out _ _ (HKS.out _ HG3) (fun hHeld3 => ?_)
    clear hK K
    try simp only [Act.put, List.setIfInBounds_toArray, List.set_cons_zero, List.set_cons_succ]
    refine wpAnyH_ready (rs := [9]) (by kernel_rfl) (by simp) ?_
    refine AllReadyH.cons (o := _) rfl (fun K hK => ?_) AllReadyH.nil
    go_simp
    go_wp2_with fail
    refine hK.out _ _ (HKS.out _ HG4) (fun hHeld4 => ?_)
    clear hK K
    try simp only [Act.put, List.setIfInBounds_toArray, List.set_cons_zero, List.set_cons_succ]
    refine take_at 10 5 (.float .f64 (quF (arF .add X Y u2) 4611686018427387904 (arG .add X Y u2))) rfl rfl (by kernel_rfl) (by kernel_rfl) (by kernel_rfl) (fun _ _ _ h => h) (Or.inl ⟨by rfl, fun w hSw => by (try dsimp only at hSw); go_simp⟩) (by assumption) ?_
    simp only [Act.put, List.setIfInBounds_toArray, List.set_cons_zero, List.set_cons_succ]
    refine wpAnyH_done (by kernel_rfl) ?_ _
    go_wp2_with fail
    go_ret
    exact ⟨_, rfl, ⟨Or.inr ⟨HIJ.out, _, _, rfl⟩, quF_lt _ _ _⟩, HG4.out⟩
set_option maxRecDepth 4000 in
set_option maxHeartbeats 1000000 in
theorem Mean_ok (c n : Nat) (sa : Option Addr) (ka : Nat) (f : Nat → Nat) (w : World) (ha : Gd w c c sa n ka f) :
    Calls Try.prog 15 #[MV c c sa n ka] w fun e w' => (∃ (g : Nat) (o : Nat → Nat), e = .returned (AnsM c c (c * c) g o) ∧ FnM w' (some ⟨g, 0, none⟩) (c * c) (c * c) o ∧ (∀ i j, i < c → j < c → o (i * c + j) = o (j * c + i)) ∧ ∀ i j, i < c → j ≤ i → MeanP f c i j (o (i * c + j))) ∧ Below w.heap.size w w' := by
  obtain ⟨t1, t2, t3, t4⟩ := two_b w (MBox c c sa n ka) (MBox 0 0 none 0 0)
  have HCB := hid (fun W (hW : Below w.heap.size w W) => square_good c c n sa ka f W (ha.below hW))
  rw [if_pos rfl] at HCB
  have l1 := ha.1
  have hm1 : c * c ≤ 144 := Nat.mul_le_mul l1 l1
  have HM1 : Hid (c * c ≤ 144) := hm1
  have HFI := hid (fun W (hW : Below ((w.alloc (MBox c c sa n ka)).alloc (MBox 0 0 none 0 0)).heap.size ((w.alloc (MBox c c sa n ka)).alloc (MBox 0 0 none 0 0)) W) => mir_Mean c (by omega) ⟨w.heap.size, 0, none⟩ (fun i j x => MeanP f c i j x) W (fun W2 i j hW2 hi hj => clo_Mean i j w.heap.size c c sa n ka f W2 (blkM (blkM t1 hW) hW2) (((ha.2.2.2.1.below t3).below hW).below hW2) (by omega) (by omega) (by omega) (by rw [ha.2.2.1]; exact place_lt hi (by omega)) (by rw [ha.2.2.1]; exact place_lt (by omega) hi)))
  obtain ⟨V, hV⟩ : ∃ V, Hid ((w.alloc (MBox c c sa n ka)).alloc (MBox 0 0 none 0 0) = V) := ⟨_, rfl⟩
  rw [hV.out] at HFI t1 t2 t3 t4
  have hV' := hV.out
  have HB := hid t3
  have HR := hid t2
  have HA0 := hid t1
  obtain ⟨x0, x1, x2⟩ := mcells_of t1
  unfold MBox at hV'
  unfold MV at HCB ⊢
  clear t1 t2 t3 t4 ha l1 hm1
  go_enter Try.func15, Try.ntmps15
  go_wp2_with fail
  refine (HCB.out _ HB.out).mono ?_
  rintro e w1 ⟨rfl, hb1⟩
  have HB1 := hid (HB.out.trans (hb1.mono HB.out.size))
  have HR1 := hid (blkM HR.out hb1)
  have HFF := hid (HFI.out _ hb1)
  obtain ⟨x0, x1, x2⟩ := mcells_of (blkM HA0.out hb1)
  clear hb1
  go_wp2_with fail
  refine HFF.out.mono ?_
  rintro e w2 ⟨hfi, hb2⟩
  obtain ⟨g1, o1, rfl, hg1, hf1, hs1, hp1⟩ := hfi.fn (by have := HM1.out; omega)
  have HB2 := hid (HB1.out.trans (hb2.mono HB1.out.size))
  have HR2 := hid (blkM HR1.out hb2)
  have HF1 := hid hf1
  have HP1 := hid hp1
  have HS1 := hid hs1
  clear hb2 hfi hg1 hf1 hp1 hs1
  have HAN := hid (answered_any c c (c * c) _ (c * c) o1 w2 HF1.out (by have := HM1.out; omega))
  obtain ⟨X0, X1, X2, X3, X4, hXX⟩ : ∃ a b s m k, Hid ((if finF (c * c) o1 = true then MV c c (some ⟨g1, 0, none⟩) (c * c) (c * c) else MV 0 0 none 0 0) = MV a b s m k) := by
    by_cases q : finF (c * c) o1 = true
    · exact ⟨c, c, _, _, _, by show _ = _; rw [if_pos q]⟩
    · exact ⟨0, 0, _, _, _, by show _ = _; rw [if_neg q]⟩
  obtain ⟨E, hE⟩ : ∃ E, Hid ((if finF (c * c) o1 = true then 0 else 5 : Int) = E) := ⟨_, rfl⟩
  rw [hXX.out, hE.out] at HAN
  unfold MV at HAN ⊢
  go_wp2_with fail
  refine HAN.out.mono ?_
  rintro e w3 ⟨rfl, hk3, hb3⟩
  have HB3 := hid (HB2.out.trans (hb3.mono HB2.out.size))
  have HR3 := hid (blkM HR2.out hb3)
  have HF3 := hid (hk3 _ _ _ _ HF1.out)
  obtain ⟨y0, y1, y2⟩ := mcells_of HR3.out
  have fz := frzM HR3.out
  clear hk3 hb3
  go_wp2_with fail
  exact bodyPost_ret (v := AnsM c c (c * c) g1 o1) (by unfold AnsM; rw [hXX.out, hE.out]; simp [results, Try.results15, go_sem, y0, y1, y2, MV]) rfl ⟨⟨g1, o1, rfl, StoM.fn HF3.out HR3.out, HS1.out, HP1.out⟩, StoM.below HB3.out (by omega)⟩
end Go.Proofs.Ytehgiegmdpaomaa
