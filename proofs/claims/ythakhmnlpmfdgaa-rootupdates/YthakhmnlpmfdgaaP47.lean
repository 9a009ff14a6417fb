
/- The document's Update of anything. (Written by mkrtaj.py.) -/
import Derived.Test.YthakhmnlpmfdgaaP46
namespace Go.Proofs.Ythakhmnlpmfdgaa
open Go.RowKit Go.IntWalk

/-- What the document's Update answers. -/
def UpD (E : Int) (f : Nat → Nat) (hs zs : List Nat) (n x z B : Nat) (W : World) (e : Ending) : Prop :=
  (E = 0 ∧ ∃ (sx sg : Option Addr) (kx kg gl Y A S : Nat) (xo lo go : Nat → Nat), e = .returned (.tuple #[.agg #[.slice sx n kx, .int .i64 n, .int .i64 n, .slice (some ⟨gl, 0, none⟩) (n * n) (n * n)], .agg #[.float .f64 Y, .float .f64 A, .float .f64 S, .slice sg n kg], .int .i64 0]) ∧ FnM W sx n kx xo ∧ FnM W (some ⟨gl, 0, none⟩) (n * n) (n * n) lo ∧ FnM W sg n kg go ∧ (∀ i, i < n → canonOf (xo i) = xU f hs zs n x z i) ∧ (∀ k, k < n * n → canonOf (lo k) = oU f hs n x k) ∧ (∀ i, i < n → canonOf (go i) = gU f hs n x i) ∧ (canonOf Y = yU hs zs n z ∧ Y < 18446744073709551616) ∧ (canonOf A = sU f hs n x 0 ∧ A < 18446744073709551616) ∧ (canonOf S = scU f hs zs n x z ∧ S < 18446744073709551616) ∧ (∀ g o, sx = some ⟨g, o, none⟩ → B ≤ g) ∧ B ≤ gl ∧ ∀ g o, sg = some ⟨g, o, none⟩ → B ≤ g) ∨ (E ≠ 0 ∧ e = .returned (.tuple #[.agg #[.slice none 0 0, .int .i64 0, .int .i64 0, .slice none 0 0], .agg #[.float .f64 0, .float .f64 0, .float .f64 0, .slice none 0 0], .int .i64 E]))
def I3r (a b c : Int) : Obj := .cells #[.int .i64 a, .int .i64 b, .int .i64 c] 3
theorem First3 (b : Nat) (x y z : Int) (w : World) (h : w.heap[b]? = some (I3r x y z)) : Calls Try.prog 24 #[.slice (some ⟨b, 0, none⟩) 3 3] w fun e w' => e = .returned (.int .i64 (firstL [x, y, z])) ∧ w' = w :=
  First_any b 3 [x, y, z] rfl (by decide) w (fun j hj => by
    unfold I3r at h
    rcases j with _ | _ | _ | j
    · simp [World.cell?, h]
    · simp [World.cell?, h]
    · simp [World.cell?, h]
    · omega)
theorem ov_more {f v s : Nat → Nat} {n i j : Nat} (h : ∀ a c, a < n → c ≤ a → (j + 1 ≤ c ∨ (c = j ∧ a < i)) → finB (oC f v s n a c) = true) (hf : finB (oC f v s n i j) = true) : ∀ a c, a < n → c ≤ a → (j + 1 ≤ c ∨ (c = j ∧ a < i + 1)) → finB (oC f v s n a c) = true := by
  intro a c ha hc hcc
  rcases hcc with h1 | ⟨h1, h2⟩
  · exact h a c ha hc (Or.inl h1)
  · by_cases e : a = i
    · subst e
      subst h1
      exact hf
    · exact h a c ha hc (Or.inr ⟨h1, by omega⟩)
set_option maxRecDepth 8000 in
set_option maxHeartbeats 16000000 in
theorem rUpdate_any (xa : Option Addr) (k kx : Nat) (zs : List Nat) (r c : Int) (sa : Option Addr) (m ka : Nat) (xs : List Nat) (ha : Option Addr) (n kh x z : Nat) (hs : List Nat) (w : World) (hX : FlM w xa k kx zs) (hk : k ≤ 17592186043904) (hA : FlM w sa m ka xs) (hm : m ≤ 17592186043904) (hH : FlM w ha n kh hs) (hq : n ≤ 17592186043904) (hx : x < 18446744073709551616) (hz : z < 18446744073709551616) :
    Calls Try.prog 13 #[.agg #[.slice xa k kx, .int .i64 r, .int .i64 c, .slice sa m ka], .slice ha n kh, .float .f64 x, .float .f64 z] w fun e w' => UpD (updT zs k r c m xs n hs x z) (fun j => xs.getD j 0) hs zs k x z w.heap.size w' e ∧ Below w.heap.size w w' := by
  have HC := hid (fun W (hW : Below w.heap.size w W) => rCheck16_any xa k kx zs r c sa m ka xs W (hX.below hW) hk (hA.below hW) hm)
  have HRW := hid (fun W (hW : Below w.heap.size w W) => rRow15_any (k : Int) ha n kh hs x W (hH.below hW) hq hx)
  have HXX := hid hX
  have HAA := hid hA
  have HHH := hid hH
  have HXL := hid hx
  have HZL := hid hz
  have HFZ := hid (fun W => rfinite_any z W hz)
  have HFT : Hid (updT zs k r c m xs n hs x z = if firstL [rootE zs k r c m xs, rrowE n hs (k : Int) x, if (!(!(expOf z == 2047))) = true then 4 else 0] = 0 then updE (fun j => xs.getD j 0) hs zs k x z else firstL [rootE zs k r c m xs, rrowE n hs (k : Int) x, if (!(!(expOf z == 2047))) = true then 4 else 0]) := by
    show _ = _
    unfold updT
    have e : finM [z] = !(expOf z == 2047) := by unfold finM; simp
    rw [e]
    by_cases h1 : rootE zs k r c m xs = 0
    · by_cases h2 : rrowE n hs (k : Int) x = 0
      · cases h3 : (expOf z == 2047) <;> simp [firstL, h1, h2]
      · simp [firstL, h1, h2]
    · simp [firstL, h1]
  obtain ⟨E1, hE1⟩ : ∃ t, Hid (rootE zs k r c m xs = t) := ⟨_, rfl⟩
  obtain ⟨E2, hE2⟩ : ∃ t, Hid (rrowE n hs (k : Int) x = t) := ⟨_, rfl⟩
  rw [hE1.out] at HC HFT
  rw [hE2.out] at HRW HFT
  obtain ⟨FZ, hFZ⟩ : ∃ t, Hid ((!(expOf z == 2047)) = t) := ⟨_, rfl⟩
  rw [hFZ.out] at HFZ HFT
  have HIF := hid (fun W => If_any (!FZ) 4 W)
  obtain ⟨E3, hE3⟩ : ∃ t, Hid ((if (!FZ) = true then (4 : Int) else 0) = t) := ⟨_, rfl⟩
  rw [hE3.out] at HIF HFT
  obtain ⟨E, hE⟩ : ∃ t, Hid (firstL [E1, E2, E3] = t) := ⟨_, rfl⟩
  rw [hE.out] at HFT
  have HFS := hid (fun b W h => First3 b E1 E2 E3 W h)
  rw [hE.out] at HFS
  obtain ⟨t1, t2, t3, t4, t5⟩ := three_b w (RBox xa k kx r c sa m ka) (RBox none 0 0 0 0 none 0 0) (StBox 0 0 0 none 0 0)
  obtain ⟨V, hV⟩ : ∃ t, Hid (((w.alloc (RBox xa k kx r c sa m ka)).alloc (RBox none 0 0 0 0 none 0 0)).alloc (StBox 0 0 0 none 0 0) = t) := ⟨_, rfl⟩
  rw [hV.out] at t1 t2 t3 t4 t5
  have hV' := hV.out
  unfold RBox StBox at hV'
  obtain ⟨p0, hp0⟩ : ∃ t, Hid (w.heap.size = t) := ⟨_, rfl⟩
  obtain ⟨p1, hp1⟩ : ∃ t, Hid (p0 + 1 = t) := ⟨_, rfl⟩
  obtain ⟨p2, hp2⟩ : ∃ t, Hid (p1 + 1 = t) := ⟨_, rfl⟩
  rw [hp0.out] at t1 t2 t3
  rw [hp1.out] at t2 t3
  rw [hp2.out] at t3
  have e0 := hp0.out
  have e1 := hp1.out
  have e2 := hp2.out
  have HPW : Hid (w.heap.size ≤ p0 ∧ w.heap.size ≤ p1 ∧ w.heap.size ≤ p2 ∧ p0 < p1 ∧ p1 < p2 ∧ p2 < V.heap.size) := by show _ ∧ _ ∧ _ ∧ _ ∧ _ ∧ _; omega
  have HF0 : Hid (Below w.heap.size w V ∧ V.heap[p0]? = some (RBox xa k kx r c sa m ka) ∧ V.heap[p1]? = some (RBox none 0 0 0 0 none 0 0) ∧ V.heap[p2]? = some (StBox 0 0 0 none 0 0)) := ⟨t4, t1, t2, t3⟩
  have HKS : Hid (∀ W, Hid (Below w.heap.size w W ∧ W.heap[p0]? = some (RBox xa k kx r c sa m ka) ∧ W.heap[p1]? = some (RBox none 0 0 0 0 none 0 0) ∧ W.heap[p2]? = some (StBox 0 0 0 none 0 0)) → (W.cell? ⟨p0, 0, none⟩ = some (.slice xa k kx) ∧ W.cell? ⟨p0, 1, none⟩ = some (.int .i64 r) ∧ W.cell? ⟨p0, 2, none⟩ = some (.int .i64 c) ∧ W.cell? ⟨p0, 3, none⟩ = some (.slice sa m ka)) ∧ Hid (Below w.heap.size w W ∧ W.heap[p0]? = some (RBox xa k kx r c sa m ka) ∧ W.heap[p1]? = some (RBox none 0 0 0 0 none 0 0) ∧ W.heap[p2]? = some (StBox 0 0 0 none 0 0))) := fun W hW => by
    obtain ⟨x0, x1, x2, x3⟩ := rcells_of hW.out.2.1
    exact ⟨⟨x0, x1, x2, x3⟩, hW⟩
  have q0 : Hid (Below w.heap.size w V.drew ∧ V.drew.heap[p0]? = some (RBox xa k kx r c sa m ka) ∧ V.drew.heap[p1]? = some (RBox none 0 0 0 0 none 0 0) ∧ V.drew.heap[p2]? = some (StBox 0 0 0 none 0 0)) := ⟨HF0.out.1.drew, HF0.out.2⟩
  have hst := fstoreM
  clear hX hk hA hm hH hq hx hz t1 t2 t3 t4 t5
  go_enter Try.func13, Try.ntmps13
  go_wp2_with fail
  refine wp_region_held_drew (S := fun W => (W.cell? ⟨p0, 0, none⟩ = some (.slice xa k kx) ∧ W.cell? ⟨p0, 1, none⟩ = some (.int .i64 r) ∧ W.cell? ⟨p0, 2, none⟩ = some (.int .i64 c) ∧ W.cell? ⟨p0, 3, none⟩ = some (.slice sa m ka)) ∧ Hid (Below w.heap.size w W ∧ W.heap[p0]? = some (RBox xa k kx r c sa m ka) ∧ W.heap[p1]? = some (RBox none 0 0 0 0 none 0 0) ∧ W.heap[p2]? = some (StBox 0 0 0 none 0 0))) (by kernel_rfl) (HKS.out _ q0) (fun hHeld => ?_)
  refine take_at 0 33 (.agg #[.slice xa k kx, .int .i64 r, .int .i64 c, .slice sa m ka]) rfl rfl (by kernel_rfl) (by kernel_rfl) (by kernel_rfl) (fun _ _ _ h => h) (Or.inl ⟨by rfl, fun w hSw => by (try dsimp only at hSw); go_simp⟩) (by assumption) ?_
  simp only [Act.put, List.setIfInBounds_toArray, List.set_cons_zero, List.set_cons_succ]
  refine take_at 2 35 (.pointer (some ⟨p0, 0, none⟩)) rfl rfl (by kernel_rfl) (by kernel_rfl) (by kernel_rfl) (fun _ _ _ h => h) (Or.inl ⟨by rfl, fun w hSw => by (try dsimp only at hSw); go_simp⟩) (by assumption) ?_
  simp only [Act.put, List.setIfInBounds_toArray, List.set_cons_zero, List.set_cons_succ]
  refine take_at 3 36 (.slice xa k kx) rfl rfl (by kernel_rfl) (by kernel_rfl) (by kernel_rfl) (fun _ _ _ h => h) (Or.inl ⟨by rfl, fun w hSw => by (try dsimp only at hSw); go_simp⟩) (by assumption) ?_
  simp only [Act.put, List.setIfInBounds_toArray, List.set_cons_zero, List.set_cons_succ]
  refine take_at 4 37 (.int .i64 k) rfl rfl (by kernel_rfl) (by kernel_rfl) (by kernel_rfl) (fun _ _ _ h => h) (Or.inl ⟨by rfl, fun w hSw => by (try dsimp only at hSw); go_simp⟩) (by assumption) ?_
  simp only [Act.put, List.setIfInBounds_toArray, List.set_cons_zero, List.set_cons_succ]
  refine take_at 5 38 (.slice ha n kh) rfl rfl (by kernel_rfl) (by kernel_rfl) (by kernel_rfl) (fun _ _ _ h => h) (Or.inl ⟨by rfl, fun w hSw => by (try dsimp only at hSw); go_simp⟩) (by assumption) ?_
  simp only [Act.put, List.setIfInBounds_toArray, List.set_cons_zero, List.set_cons_succ]
  refine take_at 6 39 (.float .f64 x) rfl rfl (by kernel_rfl) (by kernel_rfl) (by kernel_rfl) (fun _ _ _ h => h) (Or.inl ⟨by rfl, fun w hSw => by (try dsimp only at hSw); go_simp⟩) (by assumption) ?_
  simp only [Act.put, List.setIfInBounds_toArray, List.set_cons_zero, List.set_cons_succ]
  refine take_at 8 41 (.float .f64 z) rfl rfl (by kernel_rfl) (by kernel_rfl) (by kernel_rfl) (fun _ _ _ h => h) (Or.inl ⟨by rfl, fun w hSw => by (try dsimp only at hSw); go_simp⟩) (by assumption) ?_
  simp only [Act.put, List.setIfInBounds_toArray, List.set_cons_zero, List.set_cons_succ]
  refine wpAnyH_ready (rs := [1]) (by kernel_rfl) (by simp) ?_
  refine AllReadyH.cons (o := _) rfl (fun K hK => ?_) AllReadyH.nil
  go_simp
  refine (HC.out _ q0.out.1).mono ?_
  rintro e u1 ⟨rfl, hb⟩
  have q1 : Hid (Below w.heap.size w u1 ∧ u1.heap[p0]? = some (RBox xa k kx r c sa m ka) ∧ u1.heap[p1]? = some (RBox none 0 0 0 0 none 0 0) ∧ u1.heap[p2]? = some (StBox 0 0 0 none 0 0)) := ⟨q0.out.1.trans (hb.mono q0.out.1.size), blkM q0.out.2.1 hb, blkM q0.out.2.2.1 hb, blkM q0.out.2.2.2 hb⟩
  clear hb
  go_wp2_with fail
  refine hK.out _ _ (HKS.out _ q1) (fun hHeld1 => ?_)
  clear hK K
  try simp only [Act.put, List.setIfInBounds_toArray, List.set_cons_zero, List.set_cons_succ]
  refine wpAnyH_ready (rs := [7]) (by kernel_rfl) (by simp) ?_
  refine AllReadyH.cons (o := _) rfl (fun K hK => ?_) AllReadyH.nil
  go_simp
  refine (HRW.out _ q1.out.1).mono ?_
  rintro e ww ⟨rfl, hw⟩
  rw [hw]
  clear hw
  go_wp2_with fail
  refine hK.out _ _ (HKS.out _ q1) (fun hHeld2 => ?_)
  clear hK K
  try simp only [Act.put, List.setIfInBounds_toArray, List.set_cons_zero, List.set_cons_succ]
  refine wpAnyH_ready (rs := [9]) (by kernel_rfl) (by simp) ?_
  refine AllReadyH.cons (o := _) rfl (fun K hK => ?_) AllReadyH.nil
  go_simp
  refine (HFZ.out _).mono ?_
  rintro e ww ⟨rfl, hw⟩
  rw [hw]
  clear hw
  go_wp2_with fail
  refine hK.out _ _ (HKS.out _ q1) (fun hHeld3 => ?_)
  clear hK K
  try simp only [Act.put, List.setIfInBounds_toArray, List.set_cons_zero, List.set_cons_succ]
  refine take_at 10 43 (.bool (!FZ)) rfl rfl (by kernel_rfl) (by kernel_rfl) (by kernel_rfl) (fun _ _ _ h => h) (Or.inl ⟨by rfl, fun w hSw => by (try dsimp only at hSw); go_simp⟩) (by assumption) ?_
  simp only [Act.put, List.setIfInBounds_toArray, List.set_cons_zero, List.set_cons_succ]
  refine wpAnyH_ready (rs := [11]) (by kernel_rfl) (by simp) ?_
  refine AllReadyH.cons (o := _) rfl (fun K hK => ?_) AllReadyH.nil
  go_simp
  refine (HIF.out _).mono ?_
  rintro e ww ⟨rfl, hw⟩
  rw [hw]
  clear hw
  go_wp2_with fail
  refine hK.out _ _ (HKS.out _ q1) (fun hHeld4 => ?_)
  clear hK K
  try simp only [Act.put, List.setIfInBounds_toArray, List.set_cons_zero, List.set_cons_succ]
  have al : Below u1.heap.size u1 (u1.alloc (I3r E1 E2 E3)) := (Below.refl _ _).alloc (Nat.le_refl _) _
  have q2 : Hid (Below w.heap.size w (u1.alloc (I3r E1 E2 E3)) ∧ (u1.alloc (I3r E1 E2 E3)).heap[p0]? = some (RBox xa k kx r c sa m ka) ∧ (u1.alloc (I3r E1 E2 E3)).heap[p1]? = some (RBox none 0 0 0 0 none 0 0) ∧ (u1.alloc (I3r E1 E2 E3)).heap[p2]? = some (StBox 0 0 0 none 0 0)) := ⟨q1.out.1.trans (al.mono q1.out.1.size), blkM q1.out.2.1 al, blkM q1.out.2.2.1 al, blkM q1.out.2.2.2 al⟩
  have HI := hid (nblkM u1 (I3r E1 E2 E3))
  obtain ⟨V2, hV2⟩ : ∃ t, Hid (u1.alloc (I3r E1 E2 E3) = t) := ⟨_, rfl⟩
  rw [hV2.out] at q2 HI
  have hV2' := hV2.out
  unfold I3r at hV2'
  have HV2 : Hid (p2 < V2.heap.size) := (Array.getElem?_eq_some_iff.1 q2.out.2.2.2).1
  clear al
  refine wpAnyH_ready (rs := [12]) (by kernel_rfl) (by simp) ?_
  refine AllReadyH.cons (o := _) rfl (fun K hK => ?_) AllReadyH.nil
  go_simp
  go_wp2_with fail
  refine hK.out _ _ (HKS.out _ q2) (fun hHeld5 => ?_)
  clear hK K
  try simp only [Act.put, List.setIfInBounds_toArray, List.set_cons_zero, List.set_cons_succ]
  refine wpAnyH_ready (rs := [13]) (by kernel_rfl) (by simp) ?_
  refine AllReadyH.cons (o := _) rfl (fun K hK => ?_) AllReadyH.nil
  go_simp
  refine (HFS.out _ _ HI.out).mono ?_
  rintro e ww ⟨rfl, hw⟩
  rw [hw]
  clear hw
  go_wp2_with fail
  refine hK.out _ _ (HKS.out _ q2) (fun hHeld6 => ?_)
  clear hK K
  try simp only [Act.put, List.setIfInBounds_toArray, List.set_cons_zero, List.set_cons_succ]
  refine take_at 14 11 (.int .i64 E) rfl rfl (by kernel_rfl) (by kernel_rfl) (by kernel_rfl) (fun _ _ _ h => h) (Or.inl ⟨by rfl, fun w hSw => by (try dsimp only at hSw); go_simp⟩) (by assumption) ?_
  simp only [Act.put, List.setIfInBounds_toArray, List.set_cons_zero, List.set_cons_succ]
  refine wpAnyH_done (by kernel_rfl) ?_ _
  clear q0 q1 hHeld HC HRW HFZ HIF HFS HKS HF0
  by_cases h3 : E = 0
  · subst h3
    rw [if_pos rfl] at HFT
    have hz : E1 = 0 ∧ E2 = 0 ∧ E3 = 0 := by
      have := hE.out
      by_cases h1 : E1 = 0
      · by_cases h2 : E2 = 0
        · by_cases h4 : E3 = 0
          · exact ⟨h1, h2, h4⟩
          · simp [firstL, h1, h2, h4] at this
        · simp [firstL, h1, h2] at this
      · simp [firstL, h1] at this
    obtain ⟨z1, z2, z3⟩ := hz
    rw [z1] at hE1
    rw [z2] at hE2
    obtain ⟨er, ec, hc, hfz, _, _⟩ := rootE_zero hE1.out
    obtain ⟨hls, fx, hp1n, hp2n⟩ := rrow_zero hE2.out
    obtain ⟨p5, p6⟩ := ls_zero hls
    have p7 : n = k := by omega
    subst p7
    subst er
    subst ec
    have HG := hid (gd_own_r HAA.out hc)
    have HFX := hid fx
    have HPS := hid (pos_fin HXL.out fx hp1n hp2n)
    have HN : Hid (n ≤ 12) := HG.out.1
    have HMN : Hid (m = n * n) := HG.out.2.2.1
    obtain ⟨f, hf⟩ : ∃ t : Nat → Nat, Hid ((fun j => xs.getD j 0) = t) := ⟨_, rfl⟩
    rw [hf.out] at HG HFT
    obtain ⟨N1, hN1⟩ : ∃ t, Hid (n + 1 = t) := ⟨_, rfl⟩
    obtain ⟨NN, hNN⟩ : ∃ t, Hid (n * n = t) := ⟨_, rfl⟩
    obtain ⟨B, hB⟩ : ∃ t, Hid (forB n f hs zs x = t) := ⟨_, rfl⟩
    obtain ⟨FN, hFN⟩ : ∃ t, Hid (updB f hs zs n x z = t) := ⟨_, rfl⟩
    have HFB : Hid (FN = true → B = true) := by show _ → _; rw [← hFN.out, ← hB.out]; exact updB_for
    have al : Below V2.heap.size V2 (V2.alloc (SBx false)) := (Below.refl _ _).alloc (Nat.le_refl _) _
    have HS0 : Hid ((V2.alloc (SBx false)).heap[V2.heap.size]? = some (SBx false)) := nblkM _ _
    have q3 : Hid (Below w.heap.size w (V2.alloc (SBx false)) ∧ (V2.alloc (SBx false)).heap[p0]? = some (RBox xa n kx n n sa m ka) ∧ (V2.alloc (SBx false)).heap[p1]? = some (RBox none 0 0 0 0 none 0 0) ∧ (V2.alloc (SBx false)).heap[p2]? = some (StBox 0 0 0 none 0 0)) := ⟨q2.out.1.trans (al.mono q2.out.1.size), blkM q2.out.2.1 al, blkM q2.out.2.2.1 al, blkM q2.out.2.2.2 al⟩
    have HV3S : Hid ((V2.alloc (SBx false)).heap.size = V2.heap.size + 1) := World.size_alloc _ _
    obtain ⟨V3, hV3⟩ : ∃ t, Hid (V2.alloc (SBx false) = t) := ⟨_, rfl⟩
    obtain ⟨b, hb⟩ : ∃ t, Hid (V2.heap.size = t) := ⟨_, rfl⟩
    rw [hV3.out] at HS0 q3 HV3S
    rw [hb.out] at HS0 HV3S
    have hV3' := hV3.out
    unfold SBx at hV3'
    have hb' := hb.out
    have HPB : Hid (p2 < b) := by have := HV2.out; show _ < _; omega
    have HSE := hid (rSeen b false n m ka kx kh x xa sa ha zs hs f V3 HS0.out (HXX.out.below q3.out.1) (HG.out.below q3.out.1) (HHH.out.below q3.out.1) HXL.out HFX.out)
    rw [hN1.out] at HSE
    obtain ⟨x0, x1, x2, x3⟩ := rcells_of q3.out.2.1
    clear al z1 z2 z3 p5 p6 hfz hc hls fx hp1n hp2n q2
    go_wp2_with fail
    refine HSE.out.mono ?_
    rintro e w4 ⟨⟨M, gv, ga, fv, fa, rfl, hM, hgv, hga, hgvga, hfv, hfa, hcv, hca⟩, hst4⟩
    have HM := hid hM
    have HFV := hid hfv
    have HFA := hid hfa
    have HCV : Hid (∀ t, t < n → canonOf (fv t) = alV f hs n t) := hcv
    have HCA : Hid (∀ t, t ≤ n → canonOf (fa t) = sumA (alV f hs n) x n (n - t)) := hca
    have HSA : Hid (B = true → ∀ t, t ≤ n → fa t = sU f hs n x t) := fun hb t ht => (sums_raw HPS.out (fun i hi => for_v (zs := zs) (by rw [hB.out]; exact hb) i hi) (fun j hj => fn_lt HFA.out j (by have := hN1.out; omega)) hca t ht).1
    rw [show (false || !(finF n (alV f hs n) && finB (dotW hs zs n) && finB (sumA (alV f hs n) x n n))) = !B from by rw [← hB.out]; rfl] at hst4
    have HST := hid hst4
    have HGV : Hid (b < gv ∧ b < ga ∧ gv ≠ ga) := by have := HV3S.out; exact ⟨by omega, by omega, hgvga⟩
    have HP4 : Hid (Below w.heap.size w w4 ∧ w4.heap[p0]? = some (RBox xa n kx n n sa m ka) ∧ w4.heap[p1]? = some (RBox none 0 0 0 0 none 0 0) ∧ w4.heap[p2]? = some (StBox 0 0 0 none 0 0)) := ⟨q3.out.1.trans (hst4.below q3.out.1.size (by have := HPB.out; have := HPW.out; omega)), hst4.at q3.out.2.1 (by have := HPB.out; have := HPW.out; have := HV3S.out; omega) (by have := HPB.out; have := HPW.out; omega), hst4.at q3.out.2.2.1 (by have := HPB.out; have := HPW.out; have := HV3S.out; omega) (by have := HPB.out; have := HPW.out; omega), hst4.at q3.out.2.2.2 (by have := HPB.out; have := HPW.out; have := HV3S.out; omega) (by have := HPB.out; omega)⟩
    clear hM hfv hfa hcv hca hst4 hgv hga hgvga HSE q3
    have r1 := ar_run .add ok_a
    have r2 := ar_run .sub ok_s
    have r3 := ar_run .mul ok_m
    have r4 := qu_run
    have HY : Hid (canonOf (arF .sub z M w4) = yU hs zs n z ∧ arF .sub z M w4 < 18446744073709551616) := ⟨by rw [canon_ar ok_s _ _ _ HZL.out HM.out.1]; unfold yU; rw [← HM.out.2, canon_twice], arF_lt ok_s _ _ _⟩
    have al5 := bl_ar (Below.refl w4.heap.size w4) .sub z M
    have HP5 : Hid (Below w.heap.size w (arG .sub z M w4) ∧ (arG .sub z M w4).heap[p0]? = some (RBox xa n kx n n sa m ka) ∧ (arG .sub z M w4).heap[p1]? = some (RBox none 0 0 0 0 none 0 0) ∧ (arG .sub z M w4).heap[p2]? = some (StBox 0 0 0 none 0 0)) := ⟨HP4.out.1.trans (al5.mono HP4.out.1.size), blkM HP4.out.2.1 al5, blkM HP4.out.2.2.1 al5, blkM HP4.out.2.2.2 al5⟩
    have HT5 : Hid (Stp V3.heap.size b (!B) V3 (arG .sub z M w4)) := HST.out.step al5 HST.out.size
    have HFV5 := hid (HFV.out.below al5)
    have HFA5 := hid (HFA.out.below al5)
    have HSZ5 : Hid ((arG .sub z M w4).heap.size = w4.heap.size) := by show _ = _; rw [arG_heap]
    obtain ⟨Y, hY⟩ : ∃ t, Hid (arF .sub z M w4 = t) := ⟨_, rfl⟩
    obtain ⟨w5, hw5⟩ : ∃ t, Hid (arG .sub z M w4 = t) := ⟨_, rfl⟩
    rw [hY.out] at HY
    rw [hw5.out] at HP5 HT5 HFV5 HFA5 HSZ5
    have hY' := hY.out
    have hw5' := hw5.out
    have HS5 := hid (stepF b (!B) Y _ w5 HY.out.2 HY.out.1 HT5.out.box)
    obtain ⟨o6, ho6⟩ : ∃ t, Hid ((!B || !finB (yU hs zs n z)) = t) := ⟨_, rfl⟩
    rw [ho6.out] at HS5
    have HV0 : Hid (OvI FN B True (!B)) := ⟨fun h => by rw [HFB.out h]; rfl, fun h => ⟨by revert h; cases B <;> decide, trivial⟩⟩
    have HV6 : Hid (OvI FN B True o6) := by
      have := HV0.out.same (c := yU hs zs n z) (C := yU hs zs n z) HFB.out (fun _ => rfl) (fun h => upd_y (x := x) (f := f) (by rw [hFN.out]; exact h))
      rw [ho6.out] at this
      exact this
    have HT6 := hid (HT5.out.s o6)
    have HP6 : Hid (Below w.heap.size w (w5.setCell ⟨b, 0, none⟩ (.bool o6)) ∧ (w5.setCell ⟨b, 0, none⟩ (.bool o6)).heap[p0]? = some (RBox xa n kx n n sa m ka) ∧ (w5.setCell ⟨b, 0, none⟩ (.bool o6)).heap[p1]? = some (RBox none 0 0 0 0 none 0 0) ∧ (w5.setCell ⟨b, 0, none⟩ (.bool o6)).heap[p2]? = some (StBox 0 0 0 none 0 0)) := ⟨HP5.out.1.setCell (p := ⟨b, 0, none⟩) (by have := HPB.out; have := HPW.out; show _ ≤ b; omega) _, (Below.heap_setCell w5 ⟨b, 0, none⟩ _ p0 (by have := HPB.out; have := HPW.out; show p0 ≠ b; omega)).trans HP5.out.2.1, (Below.heap_setCell w5 ⟨b, 0, none⟩ _ p1 (by have := HPB.out; have := HPW.out; show p1 ≠ b; omega)).trans HP5.out.2.2.1, (Below.heap_setCell w5 ⟨b, 0, none⟩ _ p2 (by have := HPB.out; show p2 ≠ b; omega)).trans HP5.out.2.2.2⟩
    have HX6 : Hid (Stp w5.heap.size b o6 w5 (w5.setCell ⟨b, 0, none⟩ (.bool o6))) := (Stp.start HT5.out.box).s o6
    have HFV6 := hid (HX6.out.fn (Nat.le_refl _) HT5.out.box HFV5.out)
    have HFA6 := hid (HX6.out.fn (Nat.le_refl _) HT5.out.box HFA5.out)
    have HSZ6 : Hid ((w5.setCell ⟨b, 0, none⟩ (.bool o6)).heap.size = w5.heap.size) := by show _ = _; simp [World.setCell]
    obtain ⟨w6, hw6⟩ : ∃ t, Hid (w5.setCell ⟨b, 0, none⟩ (.bool o6) = t) := ⟨_, rfl⟩
    rw [hw6.out] at HS5 HT6 HP6 HFV6 HFA6 HSZ6
    clear al5 HP4 HP5 HT5 HFV5 HFA5 HFV HFA HST HX6
    go_wp2_with fail
    refine HS5.out.mono ?_
    rintro e ww ⟨rfl, hw⟩
    rw [hw]
    clear hw
    have hmk := run_make_row' (P := Try.prog) 32 28 (.float .f64 0) 8 Try.underlying32 info_fM rfl .i64 .i64 n (by have := HN.out; omega) (by have := HN.out; omega)
    have al6 : Below w6.heap.size w6 (w6.alloc (.cells (madeCells #[.float .f64 0] n) 28)) := (Below.refl _ _).alloc (Nat.le_refl _) _
    have HR6 := hid (World.rowIs_made w6 (.float .f64 0) n 28)
    have HSZ7 : Hid ((w6.alloc (.cells (madeCells #[.float .f64 0] n) 28)).heap.size = w6.heap.size + 1) := World.size_alloc _ _
    have HP7 : Hid (Below w.heap.size w (w6.alloc (.cells (madeCells #[.float .f64 0] n) 28)) ∧ (w6.alloc (.cells (madeCells #[.float .f64 0] n) 28)).heap[p0]? = some (RBox xa n kx n n sa m ka) ∧ (w6.alloc (.cells (madeCells #[.float .f64 0] n) 28)).heap[p1]? = some (RBox none 0 0 0 0 none 0 0) ∧ (w6.alloc (.cells (madeCells #[.float .f64 0] n) 28)).heap[p2]? = some (StBox 0 0 0 none 0 0)) := ⟨HP6.out.1.trans (al6.mono HP6.out.1.size), blkM HP6.out.2.1 al6, blkM HP6.out.2.2.1 al6, blkM HP6.out.2.2.2 al6⟩
    have HT7 : Hid (Stp V3.heap.size b o6 V3 (w6.alloc (.cells (madeCells #[.float .f64 0] n) 28))) := HT6.out.step al6 HT6.out.size
    have HFV7 := hid (HFV6.out.below al6)
    have HFA7 := hid (HFA6.out.below al6)
    obtain ⟨w7, hw7⟩ : ∃ t, Hid (w6.alloc (.cells (madeCells #[.float .f64 0] n) 28) = t) := ⟨_, rfl⟩
    obtain ⟨gw, hgw⟩ : ∃ t, Hid (w6.heap.size = t) := ⟨_, rfl⟩
    rw [hw7.out] at HR6 HP7 HT7 HFV7 HFA7 HSZ7
    rw [hgw.out] at HR6 HSZ7
    have hw7' := hw7.out
    have hgw' := hgw.out
    have HRAW := hid (rRaw_any n n (by have := HN.out; omega) (by have := HN.out; omega) w7)
    rw [hNN.out] at HRAW
    unfold MV at HRAW
    have HNw : Hid (NN = n * n) := hNN.out.symm
    clear al6
    go_wp2_with fail
    refine HRAW.out.mono ?_
    rintro e w8 ⟨rfl, hr8, hb8⟩
    obtain ⟨gl, hgl⟩ : ∃ t, Hid (w7.heap.size + 1 = t) := ⟨_, rfl⟩
    rw [hgl.out] at hr8 ⊢
    have HR8 := hid hr8
    have HP8 : Hid (Below w.heap.size w w8 ∧ w8.heap[p0]? = some (RBox xa n kx n n sa m ka) ∧ w8.heap[p1]? = some (RBox none 0 0 0 0 none 0 0) ∧ w8.heap[p2]? = some (StBox 0 0 0 none 0 0)) := ⟨HP7.out.1.trans (hb8.mono HP7.out.1.size), blkM HP7.out.2.1 hb8, blkM HP7.out.2.2.1 hb8, blkM HP7.out.2.2.2 hb8⟩
    have HT8 : Hid (Stp V3.heap.size b o6 V3 w8) := HT7.out.step hb8 HT7.out.size
    have HFV8 := hid (HFV7.out.below hb8)
    have HFA8 := hid (HFA7.out.below hb8)
    have HW8 : Hid (w8.rowIs gw 28 n (fun _ => .float .f64 0)) := HR6.out.of_block (hb8.block _ HR6.out.lt)
    have al8 : Below w8.heap.size w8 (w8.alloc (MBox n n (some ⟨gl, 0, none⟩) NN NN)) := (Below.refl _ _).alloc (Nat.le_refl _) _
    have HML : Hid ((w8.alloc (MBox n n (some ⟨gl, 0, none⟩) NN NN)).heap[w8.heap.size]? = some (MBox n n (some ⟨gl, 0, none⟩) NN NN)) := nblkM _ _
    have HP9 : Hid (Below w.heap.size w (w8.alloc (MBox n n (some ⟨gl, 0, none⟩) NN NN)) ∧ (w8.alloc (MBox n n (some ⟨gl, 0, none⟩) NN NN)).heap[p0]? = some (RBox xa n kx n n sa m ka) ∧ (w8.alloc (MBox n n (some ⟨gl, 0, none⟩) NN NN)).heap[p1]? = some (RBox none 0 0 0 0 none 0 0) ∧ (w8.alloc (MBox n n (some ⟨gl, 0, none⟩) NN NN)).heap[p2]? = some (StBox 0 0 0 none 0 0)) := ⟨HP8.out.1.trans (al8.mono HP8.out.1.size), blkM HP8.out.2.1 al8, blkM HP8.out.2.2.1 al8, blkM HP8.out.2.2.2 al8⟩
    have HT9 : Hid (Stp V3.heap.size b o6 V3 (w8.alloc (MBox n n (some ⟨gl, 0, none⟩) NN NN))) := HT8.out.step al8 HT8.out.size
    have HFV9 := hid (HFV8.out.below al8)
    have HFA9 := hid (HFA8.out.below al8)
    have HW9 : Hid ((w8.alloc (MBox n n (some ⟨gl, 0, none⟩) NN NN)).rowIs gw 28 n (fun _ => .float .f64 0)) := HW8.out.of_block (al8.block _ HW8.out.lt)
    have HL9 : Hid ((w8.alloc (MBox n n (some ⟨gl, 0, none⟩) NN NN)).rowIs gl 28 NN (fun _ => .float .f64 0)) := HR8.out.of_block (al8.block _ HR8.out.lt)
    have HSZ8 : Hid (gl < w8.heap.size) := HR8.out.lt
    obtain ⟨w9, hw9⟩ : ∃ t, Hid (w8.alloc (MBox n n (some ⟨gl, 0, none⟩) NN NN) = t) := ⟨_, rfl⟩
    obtain ⟨ml, hml⟩ : ∃ t, Hid (w8.heap.size = t) := ⟨_, rfl⟩
    rw [hw9.out] at HML HP9 HT9 HFV9 HFA9 HW9 HL9
    rw [hml.out] at HML HSZ8
    have hw9' := hw9.out
    unfold MBox at hw9'
    have hml' := hml.out
    have HGN : Hid (p0 < p1 ∧ p1 < p2 ∧ p2 < b ∧ b < gv ∧ b < ga ∧ gv < gw ∧ ga < gw ∧ gw < gl ∧ gl < ml) := by
      have h1 := HPW.out; have h2 := HPB.out; have h3 := HGV.out; have h4 := HSZ6.out; have h5 := HSZ5.out; have h6 := hgw.out; have h7 := HSZ7.out; have h8 := hgl.out; have h9 := HSZ8.out
      have h10 : gv < w6.heap.size := by
        rcases HFV6.out with ⟨h, _⟩ | ⟨_, _, h, h1, _⟩
        · cases h
        · cases h; exact h1
      have h11 : ga < w6.heap.size := by
        rcases HFA6.out with ⟨h, _⟩ | ⟨_, _, h, h1, _⟩
        · cases h
        · cases h; exact h1
      show _ ∧ _ ∧ _ ∧ _ ∧ _ ∧ _ ∧ _ ∧ _ ∧ _
      omega
    have HPG : Hid (p1 < gl ∧ p2 < gl ∧ w.heap.size ≤ gl) := by have h1 := HPW.out; have h2 := HGN.out; show _ ∧ _ ∧ _; omega
    have HF9 : Hid (FrU w9 w9 b gl gw NN n o6 (fun _ => 0) (fun _ => 0)) := ⟨Below.refl _ _, fun _ _ _ _ _ => rfl, HT9.out.box, HL9.out, HW9.out, by have := HGN.out; omega, by have := HGN.out; omega, by have := HGN.out; omega⟩
    clear al8 hr8 hb8 HP6 HP7 HP8 HT6 HT7 HT8 HFV6 HFV7 HFV8 HFA6 HFA7 HFA8 HR6 HR8 HW8 HW9 HL9 HRAW HS5 hmk
    have wm : IntKind.i64.wrap ((n : Int) - 1) = (n : Int) - 1 := IntWalk.i64_in _ (by have := HN.out; omega)
    go_wp2_with fail
    have HK9 : Hid (∀ (W : World) (o : Bool) (lo u : Nat → Nat), FrU w9 W b gl gw NN n o lo u → W.heap[p0]? = some (RBox xa n kx n n sa m ka) ∧ W.heap[p1]? = some (RBox none 0 0 0 0 none 0 0) ∧ W.heap[p2]? = some (StBox 0 0 0 none 0 0) ∧ W.heap[ml]? = some (MBox n n (some ⟨gl, 0, none⟩) NN NN) ∧ (∀ t, t < n → W.cell? ⟨gv, t, none⟩ = some (.float .f64 (fv t))) ∧ (∀ t, t < N1 → W.cell? ⟨ga, t, none⟩ = some (.float .f64 (fa t))) ∧ Below w.heap.size w W) := fun W o lo u h => by
      have hn := HGN.out; have hp := HPW.out
      have l1 := (Array.getElem?_eq_some_iff.1 HML.out).1
      refine ⟨h.at HP9.out.2.1 (by omega) (by omega) (by omega), h.at HP9.out.2.2.1 (by omega) (by omega) (by omega), h.at HP9.out.2.2.2 (by omega) (by omega) (by omega), h.at HML.out (by omega) (by omega) (by omega), fun t ht => ?_, fun t ht => ?_, ?_⟩
      · have := fnO_cell HFV9.out ht; rw [Nat.zero_add] at this; exact h.cell (p := ⟨gv, t, none⟩) this (by show gv < _; omega) (by show gv ≠ b; omega) (by show gv ≠ gl; omega) (by show gv ≠ gw; omega)
      · have := fnO_cell HFA9.out ht; rw [Nat.zero_add] at this; exact h.cell (p := ⟨ga, t, none⟩) this (by show ga < _; omega) (by show ga ≠ b; omega) (by show ga ≠ gl; omega) (by show ga ≠ gw; omega)
      · exact HP9.out.1.trans (h.below HP9.out.1.size (by omega) (by omega) (by omega))
    have HAT : Hid (∀ W i j, Below w.heap.size w W → i < n → j < n → Calls Try.prog 38 #[.agg #[.int .i64 n, .int .i64 n, .slice sa m ka], .int .i64 (i : Nat), .int .i64 (j : Nat)] W fun e w' => e = .returned (.float .f64 (f (i * n + j))) ∧ Below W.heap.size W w') := fun W i j hW hi hj => rAt_fn n sa n m ka i j f W (HG.out.below hW).2.2.2.1 (by have := HN.out; omega) (by have := HN.out; omega) (by have := HN.out; omega) (by rw [HMN.out]; exact place_lt hi hj)
    have HFL : Hid (∀ k, k < n * n → f k < 18446744073709551616) := fun k hk => fn_lt HG.out.2.2.2.1 k (by rw [HMN.out]; exact hk)
    have HZS : Hid (∀ i, i < n → zs.getD i 0 < 18446744073709551616) := fun i hi => fn_lt HXX.out.fn i hi
    have HVL : Hid (∀ t, t < n → fv t < 18446744073709551616) := fun t ht => fn_lt HFV9.out t ht
    have HAL : Hid (∀ t, t < N1 → fa t < 18446744073709551616) := fun t ht => fn_lt HFA9.out t ht
    have HCN : Hid (∀ t, t < n → canonOf (alV f hs n t) = canonOf (fv t)) := fun t ht => by rw [← HCV.out t ht, canon_twice]
    have HPQ9 : Hid (B = true → ∀ j, j ≤ n → ∃ r, FloatKind.f64.format.sqrt (sU f hs n x j) = some r ∧ r = sqrW (sU f hs n x j) ∧ r ≤ 6913025428013711359) := fun hb j hj => by
      obtain ⟨r, e1, e2⟩ := for_s (zs := zs) (by rw [hB.out]; exact hb) HPS.out hj
      exact ⟨r, e1, by unfold sqrW; rw [e1]; rfl, e2⟩
    obtain ⟨sS, hsS⟩ : ∃ t : Nat → Nat, Hid (sU f hs n x = t) := ⟨_, rfl⟩
    rw [hsS.out] at HSA HPQ9
    obtain ⟨vV, hvV⟩ : ∃ t : Nat → Nat, Hid (alV f hs n = t) := ⟨_, rfl⟩
    rw [hvV.out] at HCN
    have HUCT : Hid (FN = true → ∀ j, j < n → finB (cC sS j) = true ∧ finB (tC vV sS j) = true) := fun h j hj => by rw [← hsS.out, ← hvV.out]; exact upd_ct (by rw [hFN.out]; exact h) HFL.out hj
    have HUPQ : Hid (B = true → ∀ j, j < n → finB (caf .mul (canonOf (sqrW (sS j))) (canonOf (sqrW (sS (j + 1))))) = true) := fun h j hj => by rw [← hsS.out]; exact for_pq (zs := zs) (by rw [hB.out]; exact h) HPS.out hj
    have HUCX : Hid (FN = true → ∀ i j, i < n → j ≤ i → finB (caf .mul (cC sS j) (canonOf (f (i * n + j)))) = true ∧ finB (caf .mul (tC vV sS j) (wC f vV n (n - 1 - j) i)) = true ∧ finB (oC f vV sS n i j) = true) := fun h i j hi hj => by rw [← hsS.out, ← hvV.out]; have h2 := upd_cx (by rw [hFN.out]; exact h) hi hj; exact ⟨h2.1, h2.2, upd_l (by rw [hFN.out]; exact h) hi hj⟩
    have HUW : Hid (FN = true → ∀ i d, i < n → d < n → n - 1 - d ≤ i → finB (caf .mul (canonOf (vV (n - 1 - d))) (canonOf (f (i * n + (n - 1 - d))))) = true ∧ finB (caf .add (wC f vV n d i) (caf .mul (canonOf (vV (n - 1 - d))) (canonOf (f (i * n + (n - 1 - d)))))) = true) := fun h i d hi hd hj => by
      rw [← hvV.out]
      refine ⟨upd_vx (by rw [hFN.out]; exact h) HZS.out hi hd hj, ?_⟩
      have h2 := upd_w (by rw [hFN.out]; exact h) HZS.out hi (n - (d + 1)) (d + 1) (by omega)
      change finB (if n - 1 - d ≤ i then _ else _) = true at h2
      rw [if_pos hj] at h2
      exact h2
    go_loopw [20] (fun iv wr => ∃ (d : Nat) (o : Bool) (lo u : Nat → Nat), d ≤ n ∧ iv = .int .i64 ((n : Int) - 1 - (d : Int)) ∧ Hid (FrU w9 wr b gl gw NN n o lo u) ∧ Hid (B = true → carO f vV sS n (n - d) 0 lo ∧ carW f vV n d 0 u) ∧ Hid (OvI FN B (∀ a c, a < n → c ≤ a → n - d ≤ c → finB (oC f vV sS n a c) = true) o)) (fun iv _ => n - ((n : Int) - 1 - intOf iv).toNat)
    case atStart => exact ⟨0, o6, fun _ => 0, fun _ => 0, Nat.zero_le _, by simp, HF9, fun _ => ⟨carO_zero, carW_zero⟩, HV6.out.imp fun _ a c ha hc hcc => absurd hcc (by omega)⟩
    case round =>
      obtain ⟨d, o, lo, u, hd, rfl, HF, HCW, HOV⟩ := hrel
      by_cases hlt : d < n
      · obtain ⟨j, hj⟩ : ∃ j, n = d + 1 + j := ⟨n - 1 - d, by omega⟩
        have HJ := hid hj
        obtain ⟨j1, hj1⟩ : ∃ t, Hid (j + 1 = t) := ⟨_, rfl⟩
        have ej : (n : Int) - 1 - (d : Int) = (j : Int) := by omega
        have HJN : Hid (j < n ∧ j < N1 ∧ j1 < N1) := by have := hN1.out; have := hj1.out; exact ⟨by omega, by omega, by omega⟩
        have a0 : (0 : Int) ≤ (j : Int) := by omega
        have a1 : (j : Int) < (n : Int) := by omega
        have a2 : (j : Int) < (N1 : Int) := by have := HJN.out; omega
        have a3 : (0 : Int) ≤ (j1 : Int) := by omega
        have a4 : (j1 : Int) < (N1 : Int) := by have := HJN.out; omega
        have wj1 : IntKind.i64.wrap ((j : Int) + 1) = (j1 : Int) := by rw [show (j1 : Int) = (j : Int) + 1 by have := hj1.out; omega]; exact IntWalk.i64_in _ (by have := HN.out; omega)
        have wj2 : IntKind.i64.wrap ((j : Int) - 1) = (j : Int) - 1 := IntWalk.i64_in _ (by have := HN.out; omega)
        obtain ⟨y, hy⟩ : ∃ t, Hid (fa j = t) := ⟨_, rfl⟩
        obtain ⟨zz, hzz⟩ : ∃ t, Hid (fa j1 = t) := ⟨_, rfl⟩
        obtain ⟨v, hv⟩ : ∃ t, Hid (fv j = t) := ⟨_, rfl⟩
        have HVLj : Hid (v < 18446744073709551616) := by have := HVL.out j HJN.out.1; rw [hv.out] at this; exact this
        have HKS : Hid (∀ W, Hid (∃ q, FrU w9 W b gl gw NN n q lo u) → (W.cell? ⟨ga, j, none⟩ = some (.float .f64 y) ∧ W.cell? ⟨ga, j1, none⟩ = some (.float .f64 zz) ∧ W.cell? ⟨gv, j, none⟩ = some (.float .f64 v)) ∧ Hid (∃ q, FrU w9 W b gl gw NN n q lo u)) := fun W hW => by
          obtain ⟨q, hq⟩ := hW.out
          obtain ⟨_, _, _, _, k1, k2, _⟩ := HK9.out _ _ _ _ hq
          exact ⟨⟨by rw [← hy.out]; exact k2 j HJN.out.2.1, by rw [← hzz.out]; exact k2 j1 HJN.out.2.2, by rw [← hv.out]; exact k1 j HJN.out.1⟩, hW⟩
        have q0 : Hid (∃ q, FrU w9 wr.drew b gl gw NN n q lo u) := ⟨o, HF.out.step (Below.refl _ _).drew⟩
        have HW0 : Hid (FrU w9 wr.drew b gl gw NN n o lo u) := HF.out.step (Below.refl _ _).drew
        have HSQ1 := hid (fun W => SqrtT y W)
        have HSQ2 := hid (fun W => SqrtT zz W)
        clear hj hlt
        go_wp2_with fail
        refine wp_region_held_drew (S := fun W => (W.cell? ⟨ga, j, none⟩ = some (.float .f64 y) ∧ W.cell? ⟨ga, j1, none⟩ = some (.float .f64 zz) ∧ W.cell? ⟨gv, j, none⟩ = some (.float .f64 v)) ∧ Hid (∃ q, FrU w9 W b gl gw NN n q lo u)) (by kernel_rfl) (HKS.out _ q0) (fun hHeld => ?_)
        refine take_at 0 81 (.slice (some ⟨ga, 0, none⟩) N1 N1) rfl rfl (by kernel_rfl) (by kernel_rfl) (by kernel_rfl) (fun _ _ _ h => h) (Or.inl ⟨by rfl, fun w hSw => by (try dsimp only at hSw); go_simp⟩) (by assumption) ?_
        simp only [Act.put, List.setIfInBounds_toArray, List.set_cons_zero, List.set_cons_succ]
        refine take_at 1 82 (.int .i64 j) rfl rfl (by kernel_rfl) (by kernel_rfl) (by kernel_rfl) (fun _ _ _ h => h) (Or.inl ⟨by rfl, fun w hSw => by (try dsimp only at hSw); go_simp⟩) (by assumption) ?_
        simp only [Act.put, List.setIfInBounds_toArray, List.set_cons_zero, List.set_cons_succ]
        refine take_at 2 83 (.pointer (some ⟨ga, j, none⟩)) rfl rfl (by kernel_rfl) (by kernel_rfl) (by kernel_rfl) (fun _ _ _ h => h) (Or.inl ⟨by rfl, fun w hSw => by (try dsimp only at hSw); go_simp⟩) (by assumption) ?_
        simp only [Act.put, List.setIfInBounds_toArray, List.set_cons_zero, List.set_cons_succ]
        refine take_at 3 84 (.float .f64 y) rfl rfl (by kernel_rfl) (by kernel_rfl) (by kernel_rfl) (fun _ _ _ h => h) (Or.inl ⟨by rfl, fun w hSw => by (try dsimp only at hSw); go_simp⟩) (by assumption) ?_
        simp only [Act.put, List.setIfInBounds_toArray, List.set_cons_zero, List.set_cons_succ]
        refine take_at 5 86 (.slice (some ⟨ga, 0, none⟩) N1 N1) rfl rfl (by kernel_rfl) (by kernel_rfl) (by kernel_rfl) (fun _ _ _ h => h) (Or.inl ⟨by rfl, fun w hSw => by (try dsimp only at hSw); go_simp⟩) (by assumption) ?_
        simp only [Act.put, List.setIfInBounds_toArray, List.set_cons_zero, List.set_cons_succ]
        refine take_at 6 87 (.int .i64 j) rfl rfl (by kernel_rfl) (by kernel_rfl) (by kernel_rfl) (fun _ _ _ h => h) (Or.inl ⟨by rfl, fun w hSw => by (try dsimp only at hSw); go_simp⟩) (by assumption) ?_
        simp only [Act.put, List.setIfInBounds_toArray, List.set_cons_zero, List.set_cons_succ]
        refine take_at 7 88 (.int .i64 j1) rfl rfl (by kernel_rfl) (by kernel_rfl) (by kernel_rfl) (fun _ _ _ h => h) (Or.inl ⟨by rfl, fun w hSw => by (try dsimp only at hSw); go_simp⟩) (by assumption) ?_
        simp only [Act.put, List.setIfInBounds_toArray, List.set_cons_zero, List.set_cons_succ]
        refine take_at 8 89 (.pointer (some ⟨ga, j1, none⟩)) rfl rfl (by kernel_rfl) (by kernel_rfl) (by kernel_rfl) (fun _ _ _ h => h) (Or.inl ⟨by rfl, fun w hSw => by (try dsimp only at hSw); go_simp⟩) (by assumption) ?_
        simp only [Act.put, List.setIfInBounds_toArray, List.set_cons_zero, List.set_cons_succ]
        refine take_at 9 90 (.float .f64 zz) rfl rfl (by kernel_rfl) (by kernel_rfl) (by kernel_rfl) (fun _ _ _ h => h) (Or.inl ⟨by rfl, fun w hSw => by (try dsimp only at hSw); go_simp⟩) (by assumption) ?_
        simp only [Act.put, List.setIfInBounds_toArray, List.set_cons_zero, List.set_cons_succ]
        refine wpAnyH_ready (rs := [4]) (by kernel_rfl) (by simp) ?_
        refine AllReadyH.cons (o := _) rfl (fun K hK => ?_) AllReadyH.nil
        go_simp
        refine (HSQ1.out _).mono ?_
        rintro e s1 ⟨⟨p, rfl, hp⟩, hb1⟩
        have Hp := hid hp
        have HW1 := hid (HW0.out.step hb1)
        have qHW1 : Hid (∃ q, FrU w9 s1 b gl gw NN n q lo u) := ⟨_, HW1.out⟩
        clear hb1 hp
        go_wp2_with fail
        refine hK.out _ _ (HKS.out _ qHW1) (fun hHeld1 => ?_)
        clear hK K
        try simp only [Act.put, List.setIfInBounds_toArray, List.set_cons_zero, List.set_cons_succ]
        refine wpAnyH_ready (rs := [10]) (by kernel_rfl) (by simp) ?_
        refine AllReadyH.cons (o := _) rfl (fun K hK => ?_) AllReadyH.nil
        go_simp
        refine (HSQ2.out _).mono ?_
        rintro e s2 ⟨⟨q, rfl, hq⟩, hb1⟩
        have Hq := hid hq
        have HW2 := hid (HW1.out.step hb1)
        have qHW2 : Hid (∃ q, FrU w9 s2 b gl gw NN n q lo u) := ⟨_, HW2.out⟩
        clear hb1 hq
        go_wp2_with fail
        refine hK.out _ _ (HKS.out _ qHW2) (fun hHeld2 => ?_)
        clear hK K
        try simp only [Act.put, List.setIfInBounds_toArray, List.set_cons_zero, List.set_cons_succ]
        refine take_at 11 21 (.float .f64 p) rfl rfl (by kernel_rfl) (by kernel_rfl) (by kernel_rfl) (fun _ _ _ h => h) (Or.inl ⟨by rfl, fun w hSw => by (try dsimp only at hSw); go_simp⟩) (by assumption) ?_
        simp only [Act.put, List.setIfInBounds_toArray, List.set_cons_zero, List.set_cons_succ]
        refine take_at 12 22 (.float .f64 q) rfl rfl (by kernel_rfl) (by kernel_rfl) (by kernel_rfl) (fun _ _ _ h => h) (Or.inl ⟨by rfl, fun w hSw => by (try dsimp only at hSw); go_simp⟩) (by assumption) ?_
        simp only [Act.put, List.setIfInBounds_toArray, List.set_cons_zero, List.set_cons_succ]
        refine wpAnyH_done (by kernel_rfl) ?_ _
        have HPP : Hid (B = true → (p = sqrW (sS j) ∧ p ≤ 6913025428013711359) ∧ (q = sqrW (sS j1) ∧ q ≤ 6913025428013711359)) := fun hb => by
          obtain ⟨r1, e1, e2, e3⟩ := HPQ9.out hb j (by have := HJN.out; omega)
          obtain ⟨r2, g1, g2, g3⟩ := HPQ9.out hb j1 (by have := HJN.out; have := hN1.out; omega)
          have h1 := HSA.out hb j (by have := HJN.out; omega)
          have h2 := HSA.out hb j1 (by have := HJN.out; have := hN1.out; omega)
          rw [hy.out] at h1
          rw [hzz.out] at h2
          have k1 := Hp.out r1 (by rw [h1]; exact e1)
          have k2 := Hq.out r2 (by rw [h2]; exact g1)
          exact ⟨⟨by rw [k1]; exact e2, by rw [k1]; exact e3⟩, by rw [k2]; exact g2, by rw [k2]; exact g3⟩
        clear q0 qHW1 qHW2 HW0 HW1 HSQ1 HSQ2 hHeld hHeld1 hHeld2 Hp Hq HF
        have HCc : Hid (canonOf (quF q p s2) = caf .quo q p ∧ quF q p s2 < 18446744073709551616) := ⟨canon_qu _ _ _, quF_lt _ _ _⟩
        have HW3 := hid (HW2.out.step (bl_qu (Below.refl _ _) q p))
        obtain ⟨C, hC⟩ : ∃ t, Hid (quF q p s2 = t) := ⟨_, rfl⟩
        obtain ⟨u1, hu1⟩ : ∃ t, Hid (quG q p s2 = t) := ⟨_, rfl⟩
        rw [hC.out] at HCc
        rw [hu1.out] at HW3
        have hC' := hC.out
        have hu1' := hu1.out
        have HCB : Hid (B = true → canonOf C = cC sS j) := fun hb => by
          obtain ⟨⟨e1, e2⟩, e3, e4⟩ := HPP.out hb
          rw [HCc.out.1]
          unfold cC
          rw [hj1.out, ← e1, ← e3, canon_nn (by omega), canon_nn (by omega)]
        have HS3 := hid (stepF b o C (caf .quo q p) u1 HCc.out.2 HCc.out.1 HW3.out.box)
        have HOV3 := hid (HOV.out.same (c := caf .quo q p) (C := cC sS j) HFB.out (fun hb => by rw [← HCc.out.1]; exact HCB.out hb) (fun h => (HUCT.out h j HJN.out.1).1))
        obtain ⟨o3, ho3⟩ : ∃ t, Hid ((o || !finB (caf .quo q p)) = t) := ⟨_, rfl⟩
        rw [ho3.out] at HS3 HOV3
        have HW4 := hid (HW3.out.s o3)
        obtain ⟨u2, hu2⟩ : ∃ t, Hid (u1.setCell ⟨b, 0, none⟩ (.bool o3) = t) := ⟨_, rfl⟩
        rw [hu2.out] at HS3 HW4
        go_wp2_with fail
        refine HS3.out.mono ?_
        rintro e ww ⟨rfl, hw⟩
        rw [hw]
        clear hw HS3 HW2 HW3 HOV
        have HW5 := hid (HW4.out.step (Below.refl _ _).drew)
        have q5 : Hid (∃ q, FrU w9 u2.drew b gl gw NN n q lo u) := ⟨_, HW5.out⟩
        have HZ1 : Hid (arF .mul p q u2.drew < 18446744073709551616 ∧ (B = true → canonOf (arF .mul p q u2.drew) = caf .mul (canonOf (sqrW (sS j))) (canonOf (sqrW (sS j1))))) := ⟨arF_lt ok_m _ _ _, fun hb => by obtain ⟨⟨e1, e2⟩, e3, e4⟩ := HPP.out hb; rw [canon_ar ok_m _ _ _ (by omega) (by omega), e1, e3]⟩
        have HW6 := hid (HW5.out.step (bl_ar (Below.refl _ _) .mul p q))
        obtain ⟨Z1, hZ1⟩ : ∃ t, Hid (arF .mul p q u2.drew = t) := ⟨_, rfl⟩
        obtain ⟨u3, hu3⟩ : ∃ t, Hid (arG .mul p q u2.drew = t) := ⟨_, rfl⟩
        rw [hZ1.out] at HZ1
        rw [hu3.out] at HW6
        have hZ1' := hZ1.out
        have hu3' := hu3.out
        have HS6 := hid (stepF b o3 Z1 _ u3 HZ1.out.1 rfl HW6.out.box)
        have HOV6 := hid (HOV3.out.same (c := canonOf Z1) (C := caf .mul (canonOf (sqrW (sS j))) (canonOf (sqrW (sS j1)))) HFB.out HZ1.out.2 (fun h => by rw [← hj1.out]; exact HUPQ.out (HFB.out h) j HJN.out.1))
        obtain ⟨o4, ho4⟩ : ∃ t, Hid ((o3 || !finB (canonOf Z1)) = t) := ⟨_, rfl⟩
        rw [ho4.out] at HS6 HOV6
        have HW7 := hid (HW6.out.s o4)
        obtain ⟨u4, hu4⟩ : ∃ t, Hid (u3.setCell ⟨b, 0, none⟩ (.bool o4) = t) := ⟨_, rfl⟩
        rw [hu4.out] at HS6 HW7
        have HT8 : Hid (canonOf (quF v Z1 u4) = caf .quo v Z1 ∧ quF v Z1 u4 < 18446744073709551616) := ⟨canon_qu _ _ _, quF_lt _ _ _⟩
        have HW8 := hid (HW7.out.step (bl_qu (Below.refl _ _) v Z1))
        obtain ⟨T, hT⟩ : ∃ t, Hid (quF v Z1 u4 = t) := ⟨_, rfl⟩
        obtain ⟨u5, hu5⟩ : ∃ t, Hid (quG v Z1 u4 = t) := ⟨_, rfl⟩
        rw [hT.out] at HT8
        rw [hu5.out] at HW8
        have hT' := hT.out
        have hu5' := hu5.out
        have HTB : Hid (B = true → canonOf T = tC vV sS j) := fun hb => by
          rw [HT8.out.1, quo_canon v Z1 HVLj.out HZ1.out.1, HZ1.out.2 hb]
          unfold tC
          rw [hj1.out, HCN.out j HJN.out.1, hv.out]
        have HS8 := hid (stepF b o4 T (caf .quo v Z1) u5 HT8.out.2 HT8.out.1 HW8.out.box)
        have HOV8 := hid (HOV6.out.same (c := caf .quo v Z1) (C := tC vV sS j) HFB.out (fun hb => by rw [← HT8.out.1]; exact HTB.out hb) (fun h => (HUCT.out h j HJN.out.1).2))
        obtain ⟨o5, ho5⟩ : ∃ t, Hid ((o4 || !finB (caf .quo v Z1)) = t) := ⟨_, rfl⟩
        rw [ho5.out] at HS8 HOV8
        have HW9u := hid (HW8.out.s o5)
        obtain ⟨u6, hu6⟩ : ∃ t, Hid (u5.setCell ⟨b, 0, none⟩ (.bool o5) = t) := ⟨_, rfl⟩
        rw [hu6.out] at HS8 HW9u
        have q6 : Hid (∃ q, FrU w9 u3 b gl gw NN n q lo u) := ⟨_, HW6.out⟩
        have q7 : Hid (∃ q, FrU w9 u4 b gl gw NN n q lo u) := ⟨_, HW7.out⟩
        have q8 : Hid (∃ q, FrU w9 u5 b gl gw NN n q lo u) := ⟨_, HW8.out⟩
        have q9 : Hid (∃ q, FrU w9 u6 b gl gw NN n q lo u) := ⟨_, HW9u.out⟩
        go_wp2_with fail
        refine wp_region_held_drew (S := fun W => (W.cell? ⟨ga, j, none⟩ = some (.float .f64 y) ∧ W.cell? ⟨ga, j1, none⟩ = some (.float .f64 zz) ∧ W.cell? ⟨gv, j, none⟩ = some (.float .f64 v)) ∧ Hid (∃ q, FrU w9 W b gl gw NN n q lo u)) (by kernel_rfl) (HKS.out _ q5) (fun hHeld => ?_)
        refine take_at 0 97 (.pointer (some ⟨b, 0, none⟩)) rfl rfl (by kernel_rfl) (by kernel_rfl) (by kernel_rfl) (fun _ _ _ h => h) (Or.inl ⟨by rfl, fun w hSw => by (try dsimp only at hSw); go_simp⟩) (by assumption) ?_
        simp only [Act.put, List.setIfInBounds_toArray, List.set_cons_zero, List.set_cons_succ]
        refine take_at 1 98 (.slice (some ⟨gv, 0, none⟩) n n) rfl rfl (by kernel_rfl) (by kernel_rfl) (by kernel_rfl) (fun _ _ _ h => h) (Or.inl ⟨by rfl, fun w hSw => by (try dsimp only at hSw); go_simp⟩) (by assumption) ?_
        simp only [Act.put, List.setIfInBounds_toArray, List.set_cons_zero, List.set_cons_succ]
        refine take_at 2 99 (.int .i64 j) rfl rfl (by kernel_rfl) (by kernel_rfl) (by kernel_rfl) (fun _ _ _ h => h) (Or.inl ⟨by rfl, fun w hSw => by (try dsimp only at hSw); go_simp⟩) (by assumption) ?_
        simp only [Act.put, List.setIfInBounds_toArray, List.set_cons_zero, List.set_cons_succ]
        refine take_at 3 100 (.pointer (some ⟨gv, j, none⟩)) rfl rfl (by kernel_rfl) (by kernel_rfl) (by kernel_rfl) (fun _ _ _ h => h) (Or.inl ⟨by rfl, fun w hSw => by (try dsimp only at hSw); go_simp⟩) (by assumption) ?_
        simp only [Act.put, List.setIfInBounds_toArray, List.set_cons_zero, List.set_cons_succ]
        refine take_at 4 101 (.float .f64 v) rfl rfl (by kernel_rfl) (by kernel_rfl) (by kernel_rfl) (fun _ _ _ h => h) (Or.inl ⟨by rfl, fun w hSw => by (try dsimp only at hSw); go_simp⟩) (by assumption) ?_
        simp only [Act.put, List.setIfInBounds_toArray, List.set_cons_zero, List.set_cons_succ]
        refine take_at 5 102 (.pointer (some ⟨b, 0, none⟩)) rfl rfl (by kernel_rfl) (by kernel_rfl) (by kernel_rfl) (fun _ _ _ h => h) (Or.inl ⟨by rfl, fun w hSw => by (try dsimp only at hSw); go_simp⟩) (by assumption) ?_
        simp only [Act.put, List.setIfInBounds_toArray, List.set_cons_zero, List.set_cons_succ]
        refine take_at 6 103 (.float .f64 p) rfl rfl (by kernel_rfl) (by kernel_rfl) (by kernel_rfl) (fun _ _ _ h => h) (Or.inl ⟨by rfl, fun w hSw => by (try dsimp only at hSw); go_simp⟩) (by assumption) ?_
        simp only [Act.put, List.setIfInBounds_toArray, List.set_cons_zero, List.set_cons_succ]
        refine take_at 7 104 (.float .f64 q) rfl rfl (by kernel_rfl) (by kernel_rfl) (by kernel_rfl) (fun _ _ _ h => h) (Or.inl ⟨by rfl, fun w hSw => by (try dsimp only at hSw); go_simp⟩) (by assumption) ?_
        simp only [Act.put, List.setIfInBounds_toArray, List.set_cons_zero, List.set_cons_succ]
        refine wpAnyH_ready (rs := [8]) (by kernel_rfl) (by simp) ?_
        refine AllReadyH.cons (o := _) rfl (fun K hK => ?_) AllReadyH.nil
        go_simp
        go_wp2_with fail
        refine hK.out _ _ (HKS.out _ q6) (fun hHeld1 => ?_)
        clear hK K
        try simp only [Act.put, List.setIfInBounds_toArray, List.set_cons_zero, List.set_cons_succ]
        refine wpAnyH_ready (rs := [9]) (by kernel_rfl) (by simp) ?_
        refine AllReadyH.cons (o := _) rfl (fun K hK => ?_) AllReadyH.nil
        go_simp
        refine (HS6.out).mono ?_
        rintro e ww ⟨rfl, hw⟩
        rw [hw]
        clear hw
        go_wp2_with fail
        refine hK.out _ _ (HKS.out _ q7) (fun hHeld2 => ?_)
        clear hK K
        try simp only [Act.put, List.setIfInBounds_toArray, List.set_cons_zero, List.set_cons_succ]
        refine wpAnyH_ready (rs := [10]) (by kernel_rfl) (by simp) ?_
        refine AllReadyH.cons (o := _) rfl (fun K hK => ?_) AllReadyH.nil
        go_simp
        go_wp2_with fail
        refine hK.out _ _ (HKS.out _ q8) (fun hHeld3 => ?_)
        clear hK K
        try simp only [Act.put, List.setIfInBounds_toArray, List.set_cons_zero, List.set_cons_succ]
        refine wpAnyH_ready (rs := [11]) (by kernel_rfl) (by simp) ?_
        refine AllReadyH.cons (o := _) rfl (fun K hK => ?_) AllReadyH.nil
        go_simp
        refine (HS8.out).mono ?_
        rintro e ww ⟨rfl, hw⟩
        rw [hw]
        clear hw
        go_wp2_with fail
        refine hK.out _ _ (HKS.out _ q9) (fun hHeld4 => ?_)
        clear hK K
        try simp only [Act.put, List.setIfInBounds_toArray, List.set_cons_zero, List.set_cons_succ]
        refine take_at 12 24 (.float .f64 T) rfl rfl (by kernel_rfl) (by kernel_rfl) (by kernel_rfl) (fun _ _ _ h => h) (Or.inl ⟨by rfl, fun w hSw => by (try dsimp only at hSw); go_simp⟩) (by assumption) ?_
        simp only [Act.put, List.setIfInBounds_toArray, List.set_cons_zero, List.set_cons_succ]
        refine wpAnyH_done (by kernel_rfl) ?_ _
        clear q5 q6 q7 q8 q9 HW4 HW5 HW6 HW7 HW8 HS6 HS8 HOV3 HOV6 hHeld hHeld1 hHeld2 hHeld3 hHeld4 HZ1 HKS
        go_wp2_with fail
        go_loopw [25] (fun iv wr2 => ∃ (i : Nat) (o2 : Bool) (lo2 xw : Nat → Nat), j ≤ i ∧ i ≤ n ∧ iv = .int .i64 i ∧ Hid (FrU w9 wr2 b gl gw NN n o2 lo2 xw) ∧ Hid (B = true → carO f vV sS n (j + 1) i lo2 ∧ carW f vV n d i xw) ∧ Hid (OvI FN B (∀ a c, a < n → c ≤ a → (j + 1 ≤ c ∨ (c = j ∧ a < i)) → finB (oC f vV sS n a c) = true) o2)) (fun iv _ => n - (intOf iv).toNat)
        case atStart =>
          refine ⟨j, o5, lo, u, Nat.le_refl _, by have := HJ.out; omega, rfl, HW9u, fun hb => ⟨carO_start ?_, carW_start (by have := HJ.out; omega) (HCW.out hb).2⟩, HOV8.out.imp fun h a c ha hc hcc => h a c ha hc (by have := HJ.out; omega)⟩
          have := (HCW.out hb).1
          rw [show n - d = j + 1 by have := HJ.out; omega] at this
          exact this
        case round =>
          obtain ⟨i, o2, lo2, xw, hji, hin, rfl, HI0, HCI, HOI⟩ := hrel
          by_cases hit : i < n
          · have HI := hid (And.intro hji hit)
            have hiI : (i : Int) < (n : Int) := by omega
            have hi0 : (0 : Int) ≤ (i : Int) := by omega
            have wi1 : IntKind.i64.wrap ((i : Int) + 1) = (i : Int) + 1 := IntWalk.i64_in _ (by have := HN.out; omega)
            obtain ⟨k0, _, _, km, _, _, kb⟩ := HK9.out _ _ _ _ HI0.out
            obtain ⟨x0, x1, x2c, x3⟩ := rcells_of k0
            have HA19 := hid (HAT.out _ i j kb hit HJN.out.1)
            obtain ⟨X, hX⟩ : ∃ t, Hid (f (i * n + j) = t) := ⟨_, rfl⟩
            have HXLx : Hid (X < 18446744073709551616) := by show _ < _; rw [← hX.out]; exact HFL.out _ (place_lt hit HJN.out.1)
            rw [hX.out] at HA19
            clear hji hin hit kb km
            go_wp2_with fail
            refine HA19.out.mono ?_
            rintro e v1 ⟨rfl, hb1⟩
            have HI1 := hid (HI0.out.step hb1)
            clear hb1 HI0 HA19
            obtain ⟨wi, hwi⟩ : ∃ t, Hid (xw i = t) := ⟨_, rfl⟩
            have HKS2 : Hid (∀ W, Hid (∃ (q : Bool) (l3 : Nat → Nat), FrU w9 W b gl gw NN n q l3 xw) → (W.cell? ⟨ml, 0, none⟩ = some (.int .i64 n) ∧ W.cell? ⟨ml, 1, none⟩ = some (.int .i64 n) ∧ W.cell? ⟨ml, 2, none⟩ = some (.slice (some ⟨gl, 0, none⟩) NN NN) ∧ W.cell? ⟨gw, i, none⟩ = some (.float .f64 wi) ∧ W.cell? ⟨gv, j, none⟩ = some (.float .f64 v)) ∧ Hid (∃ (q : Bool) (l3 : Nat → Nat), FrU w9 W b gl gw NN n q l3 xw)) := fun W hW => by
              obtain ⟨q, l3, hq⟩ := hW.out
              obtain ⟨_, _, _, km, k1, _, _⟩ := HK9.out _ _ _ _ hq
              obtain ⟨m0, m1, m2⟩ := mcells_of km
              exact ⟨⟨m0, m1, m2, by rw [← hwi.out]; exact hq.rw.cell HI.out.2, by rw [← hv.out]; exact k1 j HJN.out.1⟩, hW⟩
            have HWI : Hid (B = true → wi < 18446744073709551616 ∧ canonOf wi = wC f vV n d i) := fun hb => by
              have h := (HCI.out hb).2 i HI.out.2
              rw [if_neg (Nat.lt_irrefl i), hwi.out] at h
              exact h
            have HCX : Hid (B = true → canonOf C = cC sS j ∧ canonOf T = tC vV sS j) := fun hb => ⟨HCB.out hb, HTB.out hb⟩
            have HKK : Hid (i * n + j < NN) := by show _ < _; rw [← hNN.out]; exact place_lt HI.out.2 HJN.out.1
            have HDJ : Hid (n - 1 - j = d ∧ n - 1 - d = j) := by have := HJ.out; exact ⟨by omega, by omega⟩
            have p0q := hid (HI1.out.step (Below.refl _ _).drew)
            have q0 : Hid (∃ (q : Bool) (l3 : Nat → Nat), FrU w9 v1.drew b gl gw NN n q l3 xw) := ⟨_, _, p0q.out⟩
            go_wp2_with fail
            refine region_merge2 (fun a0 a' w' => ∃ (y1 y2 y3 : Nat) (o7 : Bool), a' = Act.put (Act.put (Act.put (Act.put (Act.put (Act.put (Act.put (Act.put (Act.put (Act.put (Act.put (Act.put (Act.put (Act.put (Act.put (Act.put (Act.put (Act.put (Act.put (Act.put (a0) (some 120) (.agg #[.int .i64 n, .int .i64 n, .slice (some ⟨gl, 0, none⟩) NN NN])) (some 121) (.int .i64 i)) (some 122) (.int .i64 j)) (some 123) (.pointer (some ⟨b, 0, none⟩))) (some 124) (.pointer (some ⟨b, 0, none⟩))) (some 125) (.float .f64 C)) (some 126) (.float .f64 X)) (some 127) (.float .f64 y1)) (some 128) (.float .f64 y1)) (some 129) (.pointer (some ⟨b, 0, none⟩))) (some 130) (.float .f64 T)) (some 131) (.slice (some ⟨gw, 0, none⟩) n n)) (some 132) (.int .i64 i)) (some 133) (.pointer (some ⟨gw, i, none⟩))) (some 134) (.float .f64 wi)) (some 135) (.float .f64 y2)) (some 136) (.float .f64 y2)) (some 137) (.float .f64 y3)) (some 138) (.float .f64 y3)) (some 139) (.tuple #[]) ∧ FrU w9 w' b gl gw NN n o7 (fun t => if t = i * n + j then y3 else lo2 t) xw ∧ (y3 < 18446744073709551616 ∧ (B = true → canonOf y3 = oC f vV sS n i j)) ∧ OvI FN B (∀ a c, a < n → c ≤ a → (j + 1 ≤ c ∨ (c = j ∧ a < i + 1)) → finB (oC f vV sS n a c) = true) o7) (fun HR => ?_) ?_
            · simp only [Act.put, List.setIfInBounds_toArray, List.set_cons_zero, List.set_cons_succ] at HR
              refine wp_region_held_drew (S := fun W => (W.cell? ⟨ml, 0, none⟩ = some (.int .i64 n) ∧ W.cell? ⟨ml, 1, none⟩ = some (.int .i64 n) ∧ W.cell? ⟨ml, 2, none⟩ = some (.slice (some ⟨gl, 0, none⟩) NN NN) ∧ W.cell? ⟨gw, i, none⟩ = some (.float .f64 wi) ∧ W.cell? ⟨gv, j, none⟩ = some (.float .f64 v)) ∧ Hid (∃ (q : Bool) (l3 : Nat → Nat), FrU w9 W b gl gw NN n q l3 xw)) (by kernel_rfl) (HKS2.out _ q0) (fun hHeld => ?_)
              refine take_at 0 120 (.agg #[.int .i64 n, .int .i64 n, .slice (some ⟨gl, 0, none⟩) NN NN]) rfl rfl (by kernel_rfl) (by kernel_rfl) (by kernel_rfl) (fun _ _ _ h => h) (Or.inl ⟨by rfl, fun w hSw => by (try dsimp only at hSw); go_simp⟩) (by assumption) ?_
              simp only [Act.put, List.setIfInBounds_toArray, List.set_cons_zero, List.set_cons_succ]
              refine take_at 1 121 (.int .i64 i) rfl rfl (by kernel_rfl) (by kernel_rfl) (by kernel_rfl) (fun _ _ _ h => h) (Or.inl ⟨by rfl, fun w hSw => by (try dsimp only at hSw); go_simp⟩) (by assumption) ?_
              simp only [Act.put, List.setIfInBounds_toArray, List.set_cons_zero, List.set_cons_succ]
              refine take_at 2 122 (.int .i64 j) rfl rfl (by kernel_rfl) (by kernel_rfl) (by kernel_rfl) (fun _ _ _ h => h) (Or.inl ⟨by rfl, fun w hSw => by (try dsimp only at hSw); go_simp⟩) (by assumption) ?_
              simp only [Act.put, List.setIfInBounds_toArray, List.set_cons_zero, List.set_cons_succ]
              refine take_at 3 123 (.pointer (some ⟨b, 0, none⟩)) rfl rfl (by kernel_rfl) (by kernel_rfl) (by kernel_rfl) (fun _ _ _ h => h) (Or.inl ⟨by rfl, fun w hSw => by (try dsimp only at hSw); go_simp⟩) (by assumption) ?_
              simp only [Act.put, List.setIfInBounds_toArray, List.set_cons_zero, List.set_cons_succ]
              refine take_at 4 124 (.pointer (some ⟨b, 0, none⟩)) rfl rfl (by kernel_rfl) (by kernel_rfl) (by kernel_rfl) (fun _ _ _ h => h) (Or.inl ⟨by rfl, fun w hSw => by (try dsimp only at hSw); go_simp⟩) (by assumption) ?_
              simp only [Act.put, List.setIfInBounds_toArray, List.set_cons_zero, List.set_cons_succ]
              refine take_at 5 125 (.float .f64 C) rfl rfl (by kernel_rfl) (by kernel_rfl) (by kernel_rfl) (fun _ _ _ h => h) (Or.inl ⟨by rfl, fun w hSw => by (try dsimp only at hSw); go_simp⟩) (by assumption) ?_
              simp only [Act.put, List.setIfInBounds_toArray, List.set_cons_zero, List.set_cons_succ]
              refine take_at 6 126 (.float .f64 X) rfl rfl (by kernel_rfl) (by kernel_rfl) (by kernel_rfl) (fun _ _ _ h => h) (Or.inl ⟨by rfl, fun w hSw => by (try dsimp only at hSw); go_simp⟩) (by assumption) ?_
              simp only [Act.put, List.setIfInBounds_toArray, List.set_cons_zero, List.set_cons_succ]
              refine take_at 9 129 (.pointer (some ⟨b, 0, none⟩)) rfl rfl (by kernel_rfl) (by kernel_rfl) (by kernel_rfl) (fun _ _ _ h => h) (Or.inl ⟨by rfl, fun w hSw => by (try dsimp only at hSw); go_simp⟩) (by assumption) ?_
              simp only [Act.put, List.setIfInBounds_toArray, List.set_cons_zero, List.set_cons_succ]
              refine take_at 10 130 (.float .f64 T) rfl rfl (by kernel_rfl) (by kernel_rfl) (by kernel_rfl) (fun _ _ _ h => h) (Or.inl ⟨by rfl, fun w hSw => by (try dsimp only at hSw); go_simp⟩) (by assumption) ?_
              simp only [Act.put, List.setIfInBounds_toArray, List.set_cons_zero, List.set_cons_succ]
              refine take_at 11 131 (.slice (some ⟨gw, 0, none⟩) n n) rfl rfl (by kernel_rfl) (by kernel_rfl) (by kernel_rfl) (fun _ _ _ h => h) (Or.inl ⟨by rfl, fun w hSw => by (try dsimp only at hSw); go_simp⟩) (by assumption) ?_
              simp only [Act.put, List.setIfInBounds_toArray, List.set_cons_zero, List.set_cons_succ]
              refine take_at 12 132 (.int .i64 i) rfl rfl (by kernel_rfl) (by kernel_rfl) (by kernel_rfl) (fun _ _ _ h => h) (Or.inl ⟨by rfl, fun w hSw => by (try dsimp only at hSw); go_simp⟩) (by assumption) ?_
              simp only [Act.put, List.setIfInBounds_toArray, List.set_cons_zero, List.set_cons_succ]
              refine take_at 13 133 (.pointer (some ⟨gw, i, none⟩)) rfl rfl (by kernel_rfl) (by kernel_rfl) (by kernel_rfl) (fun _ _ _ h => h) (Or.inl ⟨by rfl, fun w hSw => by (try dsimp only at hSw); go_simp⟩) (by assumption) ?_
              simp only [Act.put, List.setIfInBounds_toArray, List.set_cons_zero, List.set_cons_succ]
              refine take_at 14 134 (.float .f64 wi) rfl rfl (by kernel_rfl) (by kernel_rfl) (by kernel_rfl) (fun _ _ _ h => h) (Or.inl ⟨by rfl, fun w hSw => by (try dsimp only at hSw); go_simp⟩) (by assumption) ?_
              simp only [Act.put, List.setIfInBounds_toArray, List.set_cons_zero, List.set_cons_succ]
              refine wpAnyH_ready (rs := [7, 15]) (by kernel_rfl) (by simp) ?_
              refine AllReadyH.cons (o := _) rfl (fun K hK => ?_) (AllReadyH.cons (o := _) rfl (fun K hK => ?_) AllReadyH.nil)
              · have HM1 : Hid ((arF .mul C X v1.drew) < 18446744073709551616 ∧ (B = true → canonOf (arF .mul C X v1.drew) = caf .mul (cC sS j) (canonOf (f (i * n + j))))) := ⟨arF_lt ok_m _ _ _, fun hb => by rw [canon_ar ok_m _ _ _ HCc.out.2 HXLx.out, (HCX.out hb).1, ← hX.out]⟩
                have H1 := hid (p0q.out.step (bl_ar (Below.refl _ _) .mul C X))
                obtain ⟨y1, hy1⟩ : ∃ t, Hid ((arF .mul C X v1.drew) = t) := ⟨_, rfl⟩
                obtain ⟨g1, hg1⟩ : ∃ t, Hid ((arG .mul C X v1.drew) = t) := ⟨_, rfl⟩
                rw [hy1.out] at HM1
                rw [hg1.out] at H1
                have hy1' := hy1.out
                have hg1' := hg1.out
                have Q1 : Hid (∃ (q : Bool) (l3 : Nat → Nat), FrU w9 g1 b gl gw NN n q l3 xw) := ⟨_, _, H1.out⟩
                go_simp
                go_wp2_with fail
                refine hK.out _ _ (HKS2.out _ Q1) (fun hHeld7 => ?_)
                clear hK K
                try simp only [Act.put, List.setIfInBounds_toArray, List.set_cons_zero, List.set_cons_succ]
                refine wpAnyH_ready (rs := [8, 15]) (by kernel_rfl) (by simp) ?_
                refine AllReadyH.cons (o := _) rfl (fun K hK => ?_) (AllReadyH.cons (o := _) rfl (fun K hK => ?_) AllReadyH.nil)
                · have HSt2 := hid (stepF b o2 y1 _ g1 HM1.out.1 rfl H1.out.box)
                  have HOv2 := hid (HOI.out.same (c := canonOf y1) (C := caf .mul (cC sS j) (canonOf (f (i * n + j)))) HFB.out HM1.out.2 (fun h => (HUCX.out h i j HI.out.2 HI.out.1).1))
                  obtain ⟨oo2, hoo2⟩ : ∃ t, Hid ((o2 || !finB (canonOf y1)) = t) := ⟨_, rfl⟩
                  rw [hoo2.out] at HSt2 HOv2
                  have H2 := hid (H1.out.s oo2)
                  obtain ⟨g2, hg2⟩ : ∃ t, Hid (g1.setCell ⟨b, 0, none⟩ (.bool oo2) = t) := ⟨_, rfl⟩
                  rw [hg2.out] at HSt2 H2
                  have Q2 : Hid (∃ (q : Bool) (l3 : Nat → Nat), FrU w9 g2 b gl gw NN n q l3 xw) := ⟨_, _, H2.out⟩
                  go_simp
                  refine (HSt2.out).mono ?_
                  rintro e ww ⟨rfl, hw⟩
                  rw [hw]
                  clear hw
                  go_wp2_with fail
                  refine hK.out _ _ (HKS2.out _ Q2) (fun hHeld8 => ?_)
                  clear hK K
                  try simp only [Act.put, List.setIfInBounds_toArray, List.set_cons_zero, List.set_cons_succ]
                  refine wpAnyH_ready (rs := [15]) (by kernel_rfl) (by simp) ?_
                  refine AllReadyH.cons (o := _) rfl (fun K hK => ?_) AllReadyH.nil
                  have HM2 : Hid ((arF .mul T wi g2) < 18446744073709551616 ∧ (B = true → canonOf (arF .mul T wi g2) = caf .mul (tC vV sS j) (wC f vV n (n - 1 - j) i))) := ⟨arF_lt ok_m _ _ _, fun hb => by rw [canon_ar ok_m _ _ _ HT8.out.2 (HWI.out hb).1, (HCX.out hb).2, (HWI.out hb).2, HDJ.out.1]⟩
                  have H3 := hid (H2.out.step (bl_ar (Below.refl _ _) .mul T wi))
                  obtain ⟨y2, hy2⟩ : ∃ t, Hid ((arF .mul T wi g2) = t) := ⟨_, rfl⟩
                  obtain ⟨g3, hg3⟩ : ∃ t, Hid ((arG .mul T wi g2) = t) := ⟨_, rfl⟩
                  rw [hy2.out] at HM2
                  rw [hg3.out] at H3
                  have hy2' := hy2.out
                  have hg3' := hg3.out
                  have Q3 : Hid (∃ (q : Bool) (l3 : Nat → Nat), FrU w9 g3 b gl gw NN n q l3 xw) := ⟨_, _, H3.out⟩
                  go_simp
                  go_wp2_with fail
                  refine hK.out _ _ (HKS2.out _ Q3) (fun hHeld9 => ?_)
                  clear hK K
                  try simp only [Act.put, List.setIfInBounds_toArray, List.set_cons_zero, List.set_cons_succ]
                  refine wpAnyH_ready (rs := [16]) (by kernel_rfl) (by simp) ?_
                  refine AllReadyH.cons (o := _) rfl (fun K hK => ?_) AllReadyH.nil
                  have HSt4 := hid (stepF b oo2 y2 _ g3 HM2.out.1 rfl H3.out.box)
                  have HOv4 := hid (HOv2.out.same (c := canonOf y2) (C := caf .mul (tC vV sS j) (wC f vV n (n - 1 - j) i)) HFB.out HM2.out.2 (fun h => (HUCX.out h i j HI.out.2 HI.out.1).2.1))
                  obtain ⟨oo4, hoo4⟩ : ∃ t, Hid ((oo2 || !finB (canonOf y2)) = t) := ⟨_, rfl⟩
                  rw [hoo4.out] at HSt4 HOv4
                  have H4 := hid (H3.out.s oo4)
                  obtain ⟨g4, hg4⟩ : ∃ t, Hid (g3.setCell ⟨b, 0, none⟩ (.bool oo4) = t) := ⟨_, rfl⟩
                  rw [hg4.out] at HSt4 H4
                  have Q4 : Hid (∃ (q : Bool) (l3 : Nat → Nat), FrU w9 g4 b gl gw NN n q l3 xw) := ⟨_, _, H4.out⟩
                  go_simp
                  refine (HSt4.out).mono ?_
                  rintro e ww ⟨rfl, hw⟩
                  rw [hw]
                  clear hw
                  go_wp2_with fail
                  refine hK.out _ _ (HKS2.out _ Q4) (fun hHeld10 => ?_)
                  clear hK K
                  try simp only [Act.put, List.setIfInBounds_toArray, List.set_cons_zero, List.set_cons_succ]
                  refine wpAnyH_ready (rs := [17]) (by kernel_rfl) (by simp) ?_
                  refine AllReadyH.cons (o := _) rfl (fun K hK => ?_) AllReadyH.nil
                  have HM3 : Hid ((arF .sub y1 y2 g4) < 18446744073709551616 ∧ (B = true → canonOf (arF .sub y1 y2 g4) = oC f vV sS n i j)) := ⟨arF_lt ok_s _ _ _, fun hb => by rw [canon_ar ok_s _ _ _ HM1.out.1 HM2.out.1, HM1.out.2 hb, HM2.out.2 hb]; rfl⟩
                  have H5 := hid (H4.out.step (bl_ar (Below.refl _ _) .sub y1 y2))
                  obtain ⟨y3, hy3⟩ : ∃ t, Hid ((arF .sub y1 y2 g4) = t) := ⟨_, rfl⟩
                  obtain ⟨g5, hg5⟩ : ∃ t, Hid ((arG .sub y1 y2 g4) = t) := ⟨_, rfl⟩
                  rw [hy3.out] at HM3
                  rw [hg5.out] at H5
                  have hy3' := hy3.out
                  have hg5' := hg5.out
                  have Q5 : Hid (∃ (q : Bool) (l3 : Nat → Nat), FrU w9 g5 b gl gw NN n q l3 xw) := ⟨_, _, H5.out⟩
                  go_simp
                  go_wp2_with fail
                  refine hK.out _ _ (HKS2.out _ Q5) (fun hHeld11 => ?_)
                  clear hK K
                  try simp only [Act.put, List.setIfInBounds_toArray, List.set_cons_zero, List.set_cons_succ]
                  refine wpAnyH_ready (rs := [18]) (by kernel_rfl) (by simp) ?_
                  refine AllReadyH.cons (o := _) rfl (fun K hK => ?_) AllReadyH.nil
                  have HSt6 := hid (stepF b oo4 y3 _ g5 HM3.out.1 rfl H5.out.box)
                  have HOv6 := hid (HOv4.out.step (c := canonOf y3) (C := oC f vV sS n i j) HFB.out HM3.out.2 (fun h => (HUCX.out h i j HI.out.2 HI.out.1).2.2) (P' := ∀ a c, a < n → c ≤ a → (j + 1 ≤ c ∨ (c = j ∧ a < i + 1)) → finB (oC f vV sS n a c) = true) (fun h hf => ov_more h hf))
                  obtain ⟨oo6, hoo6⟩ : ∃ t, Hid ((oo4 || !finB (canonOf y3)) = t) := ⟨_, rfl⟩
                  rw [hoo6.out] at HSt6 HOv6
                  have H6 := hid (H5.out.s oo6)
                  obtain ⟨g6, hg6⟩ : ∃ t, Hid (g5.setCell ⟨b, 0, none⟩ (.bool oo6) = t) := ⟨_, rfl⟩
                  rw [hg6.out] at HSt6 H6
                  have Q6 : Hid (∃ (q : Bool) (l3 : Nat → Nat), FrU w9 g6 b gl gw NN n q l3 xw) := ⟨_, _, H6.out⟩
                  go_simp
                  refine (HSt6.out).mono ?_
                  rintro e ww ⟨rfl, hw⟩
                  rw [hw]
                  clear hw
                  go_wp2_with fail
                  refine hK.out _ _ (HKS2.out _ Q6) (fun hHeld12 => ?_)
                  clear hK K
                  try simp only [Act.put, List.setIfInBounds_toArray, List.set_cons_zero, List.set_cons_succ]
                  refine wpAnyH_ready (rs := [19]) (by kernel_rfl) (by simp) ?_
                  refine AllReadyH.cons (o := _) rfl (fun K hK => ?_) AllReadyH.nil
                  have HPt := hid (Put_any n gl n NN NN i j y3 _ g6 (H6.out.rl.cell HKK.out) (H6.out.rl.frozen _) H6.out.rl.lt (by have := HN.out; have := HI.out; omega) (by have := HN.out; omega) (by have := HN.out; have := HJN.out; omega) HKK.out)
                  have H7 := hid ((H6.out.step ((Below.refl _ _).alloc (Nat.le_refl _) (MBox n n (some ⟨gl, 0, none⟩) NN NN))).setl (i * n + j) y3)
                  obtain ⟨g7, hg7⟩ : ∃ t, Hid ((g6.alloc (MBox n n (some ⟨gl, 0, none⟩) NN NN)).setCell ⟨gl, i * n + j, none⟩ (.float .f64 y3) = t) := ⟨_, rfl⟩
                  rw [hg7.out] at HPt H7
                  have Q7 : Hid (∃ (q : Bool) (l3 : Nat → Nat), FrU w9 g7 b gl gw NN n q l3 xw) := ⟨_, _, H7.out⟩
                  go_simp
                  refine (HPt.out).mono ?_
                  rintro e ww ⟨rfl, hw⟩
                  rw [hw]
                  clear hw
                  go_wp2_with fail
                  refine hK.out _ _ (HKS2.out _ Q7) (fun hHeld13 => ?_)
                  clear hK K
                  try simp only [Act.put, List.setIfInBounds_toArray, List.set_cons_zero, List.set_cons_succ]
                  refine wpAnyH_done (by kernel_rfl) ?_ _
                  exact HR.out _ _ ⟨y1, y2, y3, oo6, rfl, H7.out, HM3.out, HOv6.out⟩
                · have HM2 : Hid ((arF .mul T wi g1) < 18446744073709551616 ∧ (B = true → canonOf (arF .mul T wi g1) = caf .mul (tC vV sS j) (wC f vV n (n - 1 - j) i))) := ⟨arF_lt ok_m _ _ _, fun hb => by rw [canon_ar ok_m _ _ _ HT8.out.2 (HWI.out hb).1, (HCX.out hb).2, (HWI.out hb).2, HDJ.out.1]⟩
                  have H2 := hid (H1.out.step (bl_ar (Below.refl _ _) .mul T wi))
                  obtain ⟨y2, hy2⟩ : ∃ t, Hid ((arF .mul T wi g1) = t) := ⟨_, rfl⟩
                  obtain ⟨g2, hg2⟩ : ∃ t, Hid ((arG .mul T wi g1) = t) := ⟨_, rfl⟩
                  rw [hy2.out] at HM2
                  rw [hg2.out] at H2
                  have hy2' := hy2.out
                  have hg2' := hg2.out
                  have Q2 : Hid (∃ (q : Bool) (l3 : Nat → Nat), FrU w9 g2 b gl gw NN n q l3 xw) := ⟨_, _, H2.out⟩
                  go_simp
                  go_wp2_with fail
                  refine hK.out _ _ (HKS2.out _ Q2) (fun hHeld14 => ?_)
                  clear hK K
                  try simp only [Act.put, List.setIfInBounds_toArray, List.set_cons_zero, List.set_cons_succ]
                  refine wpAnyH_ready (rs := [8]) (by kernel_rfl) (by simp) ?_
                  refine AllReadyH.cons (o := _) rfl (fun K hK => ?_) AllReadyH.nil
                  have HSt3 := hid (stepF b o2 y1 _ g2 HM1.out.1 rfl H2.out.box)
                  have HOv3 := hid (HOI.out.same (c := canonOf y1) (C := caf .mul (cC sS j) (canonOf (f (i * n + j)))) HFB.out HM1.out.2 (fun h => (HUCX.out h i j HI.out.2 HI.out.1).1))
                  obtain ⟨oo3, hoo3⟩ : ∃ t, Hid ((o2 || !finB (canonOf y1)) = t) := ⟨_, rfl⟩
                  rw [hoo3.out] at HSt3 HOv3
                  have H3 := hid (H2.out.s oo3)
                  obtain ⟨g3, hg3⟩ : ∃ t, Hid (g2.setCell ⟨b, 0, none⟩ (.bool oo3) = t) := ⟨_, rfl⟩
                  rw [hg3.out] at HSt3 H3
                  have Q3 : Hid (∃ (q : Bool) (l3 : Nat → Nat), FrU w9 g3 b gl gw NN n q l3 xw) := ⟨_, _, H3.out⟩
                  go_simp
                  refine (HSt3.out).mono ?_
                  rintro e ww ⟨rfl, hw⟩
                  rw [hw]
                  clear hw
                  go_wp2_with fail
                  refine hK.out _ _ (HKS2.out _ Q3) (fun hHeld15 => ?_)
                  clear hK K
                  try simp only [Act.put, List.setIfInBounds_toArray, List.set_cons_zero, List.set_cons_succ]
                  refine wpAnyH_ready (rs := [16]) (by kernel_rfl) (by simp) ?_
                  refine AllReadyH.cons (o := _) rfl (fun K hK => ?_) AllReadyH.nil
                  have HSt4 := hid (stepF b oo3 y2 _ g3 HM2.out.1 rfl H3.out.box)
                  have HOv4 := hid (HOv3.out.same (c := canonOf y2) (C := caf .mul (tC vV sS j) (wC f vV n (n - 1 - j) i)) HFB.out HM2.out.2 (fun h => (HUCX.out h i j HI.out.2 HI.out.1).2.1))
                  obtain ⟨oo4, hoo4⟩ : ∃ t, Hid ((oo3 || !finB (canonOf y2)) = t) := ⟨_, rfl⟩
                  rw [hoo4.out] at HSt4 HOv4
                  have H4 := hid (H3.out.s oo4)
                  obtain ⟨g4, hg4⟩ : ∃ t, Hid (g3.setCell ⟨b, 0, none⟩ (.bool oo4) = t) := ⟨_, rfl⟩
                  rw [hg4.out] at HSt4 H4
                  have Q4 : Hid (∃ (q : Bool) (l3 : Nat → Nat), FrU w9 g4 b gl gw NN n q l3 xw) := ⟨_, _, H4.out⟩
                  go_simp
                  refine (HSt4.out).mono ?_
                  rintro e ww ⟨rfl, hw⟩
                  rw [hw]
                  clear hw
                  go_wp2_with fail
                  refine hK.out _ _ (HKS2.out _ Q4) (fun hHeld16 => ?_)
                  clear hK K
                  try simp only [Act.put, List.setIfInBounds_toArray, List.set_cons_zero, List.set_cons_succ]
                  refine wpAnyH_ready (rs := [17]) (by kernel_rfl) (by simp) ?_
                  refine AllReadyH.cons (o := _) rfl (fun K hK => ?_) AllReadyH.nil
                  have HM3 : Hid ((arF .sub y1 y2 g4) < 18446744073709551616 ∧ (B = true → canonOf (arF .sub y1 y2 g4) = oC f vV sS n i j)) := ⟨arF_lt ok_s _ _ _, fun hb => by rw [canon_ar ok_s _ _ _ HM1.out.1 HM2.out.1, HM1.out.2 hb, HM2.out.2 hb]; rfl⟩
                  have H5 := hid (H4.out.step (bl_ar (Below.refl _ _) .sub y1 y2))
                  obtain ⟨y3, hy3⟩ : ∃ t, Hid ((arF .sub y1 y2 g4) = t) := ⟨_, rfl⟩
                  obtain ⟨g5, hg5⟩ : ∃ t, Hid ((arG .sub y1 y2 g4) = t) := ⟨_, rfl⟩
                  rw [hy3.out] at HM3
                  rw [hg5.out] at H5
                  have hy3' := hy3.out
                  have hg5' := hg5.out
                  have Q5 : Hid (∃ (q : Bool) (l3 : Nat → Nat), FrU w9 g5 b gl gw NN n q l3 xw) := ⟨_, _, H5.out⟩
                  go_simp
                  go_wp2_with fail
                  refine hK.out _ _ (HKS2.out _ Q5) (fun hHeld17 => ?_)
                  clear hK K
                  try simp only [Act.put, List.setIfInBounds_toArray, List.set_cons_zero, List.set_cons_succ]
                  refine wpAnyH_ready (rs := [18]) (by kernel_rfl) (by simp) ?_
                  refine AllReadyH.cons (o := _) rfl (fun K hK => ?_) AllReadyH.nil
                  have HSt6 := hid (stepF b oo4 y3 _ g5 HM3.out.1 rfl H5.out.box)
                  have HOv6 := hid (HOv4.out.step (c := canonOf y3) (C := oC f vV sS n i j) HFB.out HM3.out.2 (fun h => (HUCX.out h i j HI.out.2 HI.out.1).2.2) (P' := ∀ a c, a < n → c ≤ a → (j + 1 ≤ c ∨ (c = j ∧ a < i + 1)) → finB (oC f vV sS n a c) = true) (fun h hf => ov_more h hf))
                  obtain ⟨oo6, hoo6⟩ : ∃ t, Hid ((oo4 || !finB (canonOf y3)) = t) := ⟨_, rfl⟩
                  rw [hoo6.out] at HSt6 HOv6
                  have H6 := hid (H5.out.s oo6)
                  obtain ⟨g6, hg6⟩ : ∃ t, Hid (g5.setCell ⟨b, 0, none⟩ (.bool oo6) = t) := ⟨_, rfl⟩
                  rw [hg6.out] at HSt6 H6
                  have Q6 : Hid (∃ (q : Bool) (l3 : Nat → Nat), FrU w9 g6 b gl gw NN n q l3 xw) := ⟨_, _, H6.out⟩
                  go_simp
                  refine (HSt6.out).mono ?_
                  rintro e ww ⟨rfl, hw⟩
                  rw [hw]
                  clear hw
                  go_wp2_with fail
                  refine hK.out _ _ (HKS2.out _ Q6) (fun hHeld18 => ?_)
                  clear hK K
                  try simp only [Act.put, List.setIfInBounds_toArray, List.set_cons_zero, List.set_cons_succ]
                  refine wpAnyH_ready (rs := [19]) (by kernel_rfl) (by simp) ?_
                  refine AllReadyH.cons (o := _) rfl (fun K hK => ?_) AllReadyH.nil
                  have HPt := hid (Put_any n gl n NN NN i j y3 _ g6 (H6.out.rl.cell HKK.out) (H6.out.rl.frozen _) H6.out.rl.lt (by have := HN.out; have := HI.out; omega) (by have := HN.out; omega) (by have := HN.out; have := HJN.out; omega) HKK.out)
                  have H7 := hid ((H6.out.step ((Below.refl _ _).alloc (Nat.le_refl _) (MBox n n (some ⟨gl, 0, none⟩) NN NN))).setl (i * n + j) y3)
                  obtain ⟨g7, hg7⟩ : ∃ t, Hid ((g6.alloc (MBox n n (some ⟨gl, 0, none⟩) NN NN)).setCell ⟨gl, i * n + j, none⟩ (.float .f64 y3) = t) := ⟨_, rfl⟩
                  rw [hg7.out] at HPt H7
                  have Q7 : Hid (∃ (q : Bool) (l3 : Nat → Nat), FrU w9 g7 b gl gw NN n q l3 xw) := ⟨_, _, H7.out⟩
                  go_simp
                  refine (HPt.out).mono ?_
                  rintro e ww ⟨rfl, hw⟩
                  rw [hw]
                  clear hw
                  go_wp2_with fail
                  refine hK.out _ _ (HKS2.out _ Q7) (fun hHeld19 => ?_)
                  clear hK K
                  try simp only [Act.put, List.setIfInBounds_toArray, List.set_cons_zero, List.set_cons_succ]
                  refine wpAnyH_done (by kernel_rfl) ?_ _
                  exact HR.out _ _ ⟨y1, y2, y3, oo6, rfl, H7.out, HM3.out, HOv6.out⟩
              · have HM2 : Hid ((arF .mul T wi v1.drew) < 18446744073709551616 ∧ (B = true → canonOf (arF .mul T wi v1.drew) = caf .mul (tC vV sS j) (wC f vV n (n - 1 - j) i))) := ⟨arF_lt ok_m _ _ _, fun hb => by rw [canon_ar ok_m _ _ _ HT8.out.2 (HWI.out hb).1, (HCX.out hb).2, (HWI.out hb).2, HDJ.out.1]⟩
                have H1 := hid (p0q.out.step (bl_ar (Below.refl _ _) .mul T wi))
                obtain ⟨y2, hy2⟩ : ∃ t, Hid ((arF .mul T wi v1.drew) = t) := ⟨_, rfl⟩
                obtain ⟨g1, hg1⟩ : ∃ t, Hid ((arG .mul T wi v1.drew) = t) := ⟨_, rfl⟩
                rw [hy2.out] at HM2
                rw [hg1.out] at H1
                have hy2' := hy2.out
                have hg1' := hg1.out
                have Q1 : Hid (∃ (q : Bool) (l3 : Nat → Nat), FrU w9 g1 b gl gw NN n q l3 xw) := ⟨_, _, H1.out⟩
                go_simp
                go_wp2_with fail
                refine hK.out _ _ (HKS2.out _ Q1) (fun hHeld20 => ?_)
                clear hK K
                try simp only [Act.put, List.setIfInBounds_toArray, List.set_cons_zero, List.set_cons_succ]
                refine wpAnyH_ready (rs := [7]) (by kernel_rfl) (by simp) ?_
                refine AllReadyH.cons (o := _) rfl (fun K hK => ?_) AllReadyH.nil
                have HM1 : Hid ((arF .mul C X g1) < 18446744073709551616 ∧ (B = true → canonOf (arF .mul C X g1) = caf .mul (cC sS j) (canonOf (f (i * n + j))))) := ⟨arF_lt ok_m _ _ _, fun hb => by rw [canon_ar ok_m _ _ _ HCc.out.2 HXLx.out, (HCX.out hb).1, ← hX.out]⟩
                have H2 := hid (H1.out.step (bl_ar (Below.refl _ _) .mul C X))
                obtain ⟨y1, hy1⟩ : ∃ t, Hid ((arF .mul C X g1) = t) := ⟨_, rfl⟩
                obtain ⟨g2, hg2⟩ : ∃ t, Hid ((arG .mul C X g1) = t) := ⟨_, rfl⟩
                rw [hy1.out] at HM1
                rw [hg2.out] at H2
                have hy1' := hy1.out
                have hg2' := hg2.out
                have Q2 : Hid (∃ (q : Bool) (l3 : Nat → Nat), FrU w9 g2 b gl gw NN n q l3 xw) := ⟨_, _, H2.out⟩
                go_simp
                go_wp2_with fail
                refine hK.out _ _ (HKS2.out _ Q2) (fun hHeld21 => ?_)
                clear hK K
                try simp only [Act.put, List.setIfInBounds_toArray, List.set_cons_zero, List.set_cons_succ]
                refine wpAnyH_ready (rs := [8]) (by kernel_rfl) (by simp) ?_
                refine AllReadyH.cons (o := _) rfl (fun K hK => ?_) AllReadyH.nil
                have HSt3 := hid (stepF b o2 y1 _ g2 HM1.out.1 rfl H2.out.box)
                have HOv3 := hid (HOI.out.same (c := canonOf y1) (C := caf .mul (cC sS j) (canonOf (f (i * n + j)))) HFB.out HM1.out.2 (fun h => (HUCX.out h i j HI.out.2 HI.out.1).1))
                obtain ⟨oo3, hoo3⟩ : ∃ t, Hid ((o2 || !finB (canonOf y1)) = t) := ⟨_, rfl⟩
                rw [hoo3.out] at HSt3 HOv3
                have H3 := hid (H2.out.s oo3)
                obtain ⟨g3, hg3⟩ : ∃ t, Hid (g2.setCell ⟨b, 0, none⟩ (.bool oo3) = t) := ⟨_, rfl⟩
                rw [hg3.out] at HSt3 H3
                have Q3 : Hid (∃ (q : Bool) (l3 : Nat → Nat), FrU w9 g3 b gl gw NN n q l3 xw) := ⟨_, _, H3.out⟩
                go_simp
                refine (HSt3.out).mono ?_
                rintro e ww ⟨rfl, hw⟩
                rw [hw]
                clear hw
                go_wp2_with fail
                refine hK.out _ _ (HKS2.out _ Q3) (fun hHeld22 => ?_)
                clear hK K
                try simp only [Act.put, List.setIfInBounds_toArray, List.set_cons_zero, List.set_cons_succ]
                refine wpAnyH_ready (rs := [16]) (by kernel_rfl) (by simp) ?_
                refine AllReadyH.cons (o := _) rfl (fun K hK => ?_) AllReadyH.nil
                have HSt4 := hid (stepF b oo3 y2 _ g3 HM2.out.1 rfl H3.out.box)
                have HOv4 := hid (HOv3.out.same (c := canonOf y2) (C := caf .mul (tC vV sS j) (wC f vV n (n - 1 - j) i)) HFB.out HM2.out.2 (fun h => (HUCX.out h i j HI.out.2 HI.out.1).2.1))
                obtain ⟨oo4, hoo4⟩ : ∃ t, Hid ((oo3 || !finB (canonOf y2)) = t) := ⟨_, rfl⟩
                rw [hoo4.out] at HSt4 HOv4
                have H4 := hid (H3.out.s oo4)
                obtain ⟨g4, hg4⟩ : ∃ t, Hid (g3.setCell ⟨b, 0, none⟩ (.bool oo4) = t) := ⟨_, rfl⟩
                rw [hg4.out] at HSt4 H4
                have Q4 : Hid (∃ (q : Bool) (l3 : Nat → Nat), FrU w9 g4 b gl gw NN n q l3 xw) := ⟨_, _, H4.out⟩
                go_simp
                refine (HSt4.out).mono ?_
                rintro e ww ⟨rfl, hw⟩
                rw [hw]
                clear hw
                go_wp2_with fail
                refine hK.out _ _ (HKS2.out _ Q4) (fun hHeld23 => ?_)
                clear hK K
                try simp only [Act.put, List.setIfInBounds_toArray, List.set_cons_zero, List.set_cons_succ]
                refine wpAnyH_ready (rs := [17]) (by kernel_rfl) (by simp) ?_
                refine AllReadyH.cons (o := _) rfl (fun K hK => ?_) AllReadyH.nil
                have HM3 : Hid ((arF .sub y1 y2 g4) < 18446744073709551616 ∧ (B = true → canonOf (arF .sub y1 y2 g4) = oC f vV sS n i j)) := ⟨arF_lt ok_s _ _ _, fun hb => by rw [canon_ar ok_s _ _ _ HM1.out.1 HM2.out.1, HM1.out.2 hb, HM2.out.2 hb]; rfl⟩
                have H5 := hid (H4.out.step (bl_ar (Below.refl _ _) .sub y1 y2))
                obtain ⟨y3, hy3⟩ : ∃ t, Hid ((arF .sub y1 y2 g4) = t) := ⟨_, rfl⟩
                obtain ⟨g5, hg5⟩ : ∃ t, Hid ((arG .sub y1 y2 g4) = t) := ⟨_, rfl⟩
                rw [hy3.out] at HM3
                rw [hg5.out] at H5
                have hy3' := hy3.out
                have hg5' := hg5.out
                have Q5 : Hid (∃ (q : Bool) (l3 : Nat → Nat), FrU w9 g5 b gl gw NN n q l3 xw) := ⟨_, _, H5.out⟩
                go_simp
                go_wp2_with fail
                refine hK.out _ _ (HKS2.out _ Q5) (fun hHeld24 => ?_)
                clear hK K
                try simp only [Act.put, List.setIfInBounds_toArray, List.set_cons_zero, List.set_cons_succ]
                refine wpAnyH_ready (rs := [18]) (by kernel_rfl) (by simp) ?_
                refine AllReadyH.cons (o := _) rfl (fun K hK => ?_) AllReadyH.nil
                have HSt6 := hid (stepF b oo4 y3 _ g5 HM3.out.1 rfl H5.out.box)
                have HOv6 := hid (HOv4.out.step (c := canonOf y3) (C := oC f vV sS n i j) HFB.out HM3.out.2 (fun h => (HUCX.out h i j HI.out.2 HI.out.1).2.2) (P' := ∀ a c, a < n → c ≤ a → (j + 1 ≤ c ∨ (c = j ∧ a < i + 1)) → finB (oC f vV sS n a c) = true) (fun h hf => ov_more h hf))
                obtain ⟨oo6, hoo6⟩ : ∃ t, Hid ((oo4 || !finB (canonOf y3)) = t) := ⟨_, rfl⟩
                rw [hoo6.out] at HSt6 HOv6
                have H6 := hid (H5.out.s oo6)
                obtain ⟨g6, hg6⟩ : ∃ t, Hid (g5.setCell ⟨b, 0, none⟩ (.bool oo6) = t) := ⟨_, rfl⟩
                rw [hg6.out] at HSt6 H6
                have Q6 : Hid (∃ (q : Bool) (l3 : Nat → Nat), FrU w9 g6 b gl gw NN n q l3 xw) := ⟨_, _, H6.out⟩
                go_simp
                refine (HSt6.out).mono ?_
                rintro e ww ⟨rfl, hw⟩
                rw [hw]
                clear hw
                go_wp2_with fail
                refine hK.out _ _ (HKS2.out _ Q6) (fun hHeld25 => ?_)
                clear hK K
                try simp only [Act.put, List.setIfInBounds_toArray, List.set_cons_zero, List.set_cons_succ]
                refine wpAnyH_ready (rs := [19]) (by kernel_rfl) (by simp) ?_
                refine AllReadyH.cons (o := _) rfl (fun K hK => ?_) AllReadyH.nil
                have HPt := hid (Put_any n gl n NN NN i j y3 _ g6 (H6.out.rl.cell HKK.out) (H6.out.rl.frozen _) H6.out.rl.lt (by have := HN.out; have := HI.out; omega) (by have := HN.out; omega) (by have := HN.out; have := HJN.out; omega) HKK.out)
                have H7 := hid ((H6.out.step ((Below.refl _ _).alloc (Nat.le_refl _) (MBox n n (some ⟨gl, 0, none⟩) NN NN))).setl (i * n + j) y3)
                obtain ⟨g7, hg7⟩ : ∃ t, Hid ((g6.alloc (MBox n n (some ⟨gl, 0, none⟩) NN NN)).setCell ⟨gl, i * n + j, none⟩ (.float .f64 y3) = t) := ⟨_, rfl⟩
                rw [hg7.out] at HPt H7
                have Q7 : Hid (∃ (q : Bool) (l3 : Nat → Nat), FrU w9 g7 b gl gw NN n q l3 xw) := ⟨_, _, H7.out⟩
                go_simp
                refine (HPt.out).mono ?_
                rintro e ww ⟨rfl, hw⟩
                rw [hw]
                clear hw
                go_wp2_with fail
                refine hK.out _ _ (HKS2.out _ Q7) (fun hHeld26 => ?_)
                clear hK K
                try simp only [Act.put, List.setIfInBounds_toArray, List.set_cons_zero, List.set_cons_succ]
                refine wpAnyH_done (by kernel_rfl) ?_ _
                exact HR.out _ _ ⟨y1, y2, y3, oo6, rfl, H7.out, HM3.out, HOv6.out⟩
            · rintro a' v2 ⟨y1, y2, y3, o7, rfl, hF, hy3, hov⟩
              simp only [Act.put, List.setIfInBounds_toArray, List.set_cons_zero, List.set_cons_succ]
              have HF2 : Hid (FrU w9 v2 b gl gw NN n o7 (fun t => if t = i * n + j then y3 else lo2 t) xw) := hF
              have HY3 := hid hy3
              have HOV7 := hid hov
              clear hF hy3 hov q0 p0q HI1 HKS2 HOI
              have HKS3 : Hid (∀ W, Hid (∃ (q : Bool), FrU w9 W b gl gw NN n q (fun t => if t = i * n + j then y3 else lo2 t) xw) → (W.cell? ⟨gw, i, none⟩ = some (.float .f64 wi) ∧ W.cell? ⟨gv, j, none⟩ = some (.float .f64 v)) ∧ Hid (∃ (q : Bool), FrU w9 W b gl gw NN n q (fun t => if t = i * n + j then y3 else lo2 t) xw)) := fun W hW => by
                obtain ⟨q, hq⟩ := hW.out
                obtain ⟨_, _, _, _, k1, _, _⟩ := HK9.out _ _ _ _ hq
                exact ⟨⟨by rw [← hwi.out]; exact hq.rw.cell HI.out.2, by rw [← hv.out]; exact k1 j HJN.out.1⟩, hW⟩
              have HB0 := hid (HF2.out.step (Below.refl _ _).drew)
              have q0 : Hid (∃ (q : Bool), FrU w9 v2.drew b gl gw NN n q (fun t => if t = i * n + j then y3 else lo2 t) xw) := ⟨_, HB0.out⟩
              have HM4 : Hid (arF .mul v X v2.drew < 18446744073709551616 ∧ (B = true → canonOf (arF .mul v X v2.drew) = caf .mul (canonOf (vV (n - 1 - d))) (canonOf (f (i * n + (n - 1 - d)))))) := ⟨arF_lt ok_m _ _ _, fun hb => by rw [canon_ar ok_m _ _ _ HVLj.out HXLx.out, HDJ.out.2, HCN.out j HJN.out.1, hv.out, hX.out]⟩
              have HB1 := hid (HB0.out.step (bl_ar (Below.refl _ _) .mul v X))
              obtain ⟨y4, hy4⟩ : ∃ t, Hid (arF .mul v X v2.drew = t) := ⟨_, rfl⟩
              obtain ⟨e1, he1⟩ : ∃ t, Hid (arG .mul v X v2.drew = t) := ⟨_, rfl⟩
              rw [hy4.out] at HM4
              rw [he1.out] at HB1
              have hy4' := hy4.out
              have he1' := he1.out
              have HS4 := hid (stepF b o7 y4 _ e1 HM4.out.1 rfl HB1.out.box)
              have HO8 := hid (HOV7.out.same (c := canonOf y4) (C := caf .mul (canonOf (vV (n - 1 - d))) (canonOf (f (i * n + (n - 1 - d))))) HFB.out HM4.out.2 (fun h => (HUW.out h i d HI.out.2 (by have := HJ.out; omega) (by have := HDJ.out.2; have := HI.out; omega)).1))
              obtain ⟨o8, ho8⟩ : ∃ t, Hid ((o7 || !finB (canonOf y4)) = t) := ⟨_, rfl⟩
              rw [ho8.out] at HS4 HO8
              have HB2 := hid (HB1.out.s o8)
              obtain ⟨e2w, he2⟩ : ∃ t, Hid (e1.setCell ⟨b, 0, none⟩ (.bool o8) = t) := ⟨_, rfl⟩
              rw [he2.out] at HS4 HB2
              have HM5 : Hid (arF .add wi y4 e2w < 18446744073709551616 ∧ (B = true → canonOf (arF .add wi y4 e2w) = caf .add (wC f vV n d i) (caf .mul (canonOf (vV (n - 1 - d))) (canonOf (f (i * n + (n - 1 - d))))))) := ⟨arF_lt ok_a _ _ _, fun hb => by rw [canon_ar ok_a _ _ _ (HWI.out hb).1 HM4.out.1, HM4.out.2 hb, (HWI.out hb).2]⟩
              have HB3 := hid (HB2.out.step (bl_ar (Below.refl _ _) .add wi y4))
              obtain ⟨y5, hy5⟩ : ∃ t, Hid (arF .add wi y4 e2w = t) := ⟨_, rfl⟩
              obtain ⟨e3w, he3⟩ : ∃ t, Hid (arG .add wi y4 e2w = t) := ⟨_, rfl⟩
              rw [hy5.out] at HM5
              rw [he3.out] at HB3
              have hy5' := hy5.out
              have he3' := he3.out
              have HS5b := hid (stepF b o8 y5 _ e3w HM5.out.1 rfl HB3.out.box)
              have HO9 := hid (HO8.out.same (c := canonOf y5) (C := caf .add (wC f vV n d i) (caf .mul (canonOf (vV (n - 1 - d))) (canonOf (f (i * n + (n - 1 - d)))))) HFB.out HM5.out.2 (fun h => (HUW.out h i d HI.out.2 (by have := HJ.out; omega) (by have := HDJ.out.2; have := HI.out; omega)).2))
              obtain ⟨o9, ho9⟩ : ∃ t, Hid ((o8 || !finB (canonOf y5)) = t) := ⟨_, rfl⟩
              rw [ho9.out] at HS5b HO9
              have HB4 := hid (HB3.out.s o9)
              obtain ⟨e4w, he4⟩ : ∃ t, Hid (e3w.setCell ⟨b, 0, none⟩ (.bool o9) = t) := ⟨_, rfl⟩
              rw [he4.out] at HS5b HB4
              have HB5 := hid (HB4.out.setw i y5)
              have cw4 := HB4.out.rw.cell HI.out.2
              have fw4 := HB4.out.rw.frozen i
              obtain ⟨e5w, he5⟩ : ∃ t, Hid (e4w.setCell ⟨gw, i, none⟩ (.float .f64 y5) = t) := ⟨_, rfl⟩
              rw [he5.out] at HB5
              have he5' := he5.out
              have q1 : Hid (∃ (q : Bool), FrU w9 e1 b gl gw NN n q (fun t => if t = i * n + j then y3 else lo2 t) xw) := ⟨_, HB1.out⟩
              have q2 : Hid (∃ (q : Bool), FrU w9 e2w b gl gw NN n q (fun t => if t = i * n + j then y3 else lo2 t) xw) := ⟨_, HB2.out⟩
              have q3 : Hid (∃ (q : Bool), FrU w9 e3w b gl gw NN n q (fun t => if t = i * n + j then y3 else lo2 t) xw) := ⟨_, HB3.out⟩
              have q4 : Hid (∃ (q : Bool), FrU w9 e4w b gl gw NN n q (fun t => if t = i * n + j then y3 else lo2 t) xw) := ⟨_, HB4.out⟩
              have HKS4 : Hid (∀ W, Hid (∃ (q : Bool) (u3 : Nat → Nat), FrU w9 W b gl gw NN n q (fun t => if t = i * n + j then y3 else lo2 t) u3) → (W.cell? ⟨gv, j, none⟩ = some (.float .f64 v)) ∧ Hid (∃ (q : Bool) (u3 : Nat → Nat), FrU w9 W b gl gw NN n q (fun t => if t = i * n + j then y3 else lo2 t) u3)) := fun W hW => by
                obtain ⟨q, u3, hq⟩ := hW.out
                obtain ⟨_, _, _, _, k1, _, _⟩ := HK9.out _ _ _ _ hq
                exact ⟨by rw [← hv.out]; exact k1 j HJN.out.1, hW⟩
              have Q0 : Hid (∃ (q : Bool) (u3 : Nat → Nat), FrU w9 v2.drew b gl gw NN n q (fun t => if t = i * n + j then y3 else lo2 t) u3) := ⟨_, _, HB0.out⟩
              have Q1 : Hid (∃ (q : Bool) (u3 : Nat → Nat), FrU w9 e1 b gl gw NN n q (fun t => if t = i * n + j then y3 else lo2 t) u3) := ⟨_, _, HB1.out⟩
              have Q2 : Hid (∃ (q : Bool) (u3 : Nat → Nat), FrU w9 e2w b gl gw NN n q (fun t => if t = i * n + j then y3 else lo2 t) u3) := ⟨_, _, HB2.out⟩
              have Q3 : Hid (∃ (q : Bool) (u3 : Nat → Nat), FrU w9 e3w b gl gw NN n q (fun t => if t = i * n + j then y3 else lo2 t) u3) := ⟨_, _, HB3.out⟩
              have Q4 : Hid (∃ (q : Bool) (u3 : Nat → Nat), FrU w9 e4w b gl gw NN n q (fun t => if t = i * n + j then y3 else lo2 t) u3) := ⟨_, _, HB4.out⟩
              have Q5 : Hid (∃ (q : Bool) (u3 : Nat → Nat), FrU w9 e5w b gl gw NN n q (fun t => if t = i * n + j then y3 else lo2 t) u3) := ⟨_, _, HB5.out⟩
              have cwi := HB0.out.rw.cell HI.out.2
              have cw1 := HB1.out.rw.cell HI.out.2
              have cw2 := HB2.out.rw.cell HI.out.2
              rw [hwi.out] at cwi cw1 cw2
              go_wp2_with fail
              refine wp_region_held_drew (S := fun W => (W.cell? ⟨gv, j, none⟩ = some (.float .f64 v)) ∧ Hid (∃ (q : Bool) (u3 : Nat → Nat), FrU w9 W b gl gw NN n q (fun t => if t = i * n + j then y3 else lo2 t) u3)) (by kernel_rfl) (HKS4.out _ Q0) (fun hHeld => ?_)
              refine take_at 0 140 (.slice (some ⟨gw, 0, none⟩) n n) rfl rfl (by kernel_rfl) (by kernel_rfl) (by kernel_rfl) (fun _ _ _ h => h) (Or.inl ⟨by rfl, fun w hSw => by (try dsimp only at hSw); go_simp⟩) (by assumption) ?_
              simp only [Act.put, List.setIfInBounds_toArray, List.set_cons_zero, List.set_cons_succ]
              refine take_at 1 141 (.int .i64 i) rfl rfl (by kernel_rfl) (by kernel_rfl) (by kernel_rfl) (fun _ _ _ h => h) (Or.inl ⟨by rfl, fun w hSw => by (try dsimp only at hSw); go_simp⟩) (by assumption) ?_
              simp only [Act.put, List.setIfInBounds_toArray, List.set_cons_zero, List.set_cons_succ]
              refine take_at 2 142 (.pointer (some ⟨b, 0, none⟩)) rfl rfl (by kernel_rfl) (by kernel_rfl) (by kernel_rfl) (fun _ _ _ h => h) (Or.inl ⟨by rfl, fun w hSw => by (try dsimp only at hSw); go_simp⟩) (by assumption) ?_
              simp only [Act.put, List.setIfInBounds_toArray, List.set_cons_zero, List.set_cons_succ]
              refine take_at 3 143 (.slice (some ⟨gw, 0, none⟩) n n) rfl rfl (by kernel_rfl) (by kernel_rfl) (by kernel_rfl) (fun _ _ _ h => h) (Or.inl ⟨by rfl, fun w hSw => by (try dsimp only at hSw); go_simp⟩) (by assumption) ?_
              simp only [Act.put, List.setIfInBounds_toArray, List.set_cons_zero, List.set_cons_succ]
              refine take_at 4 144 (.int .i64 i) rfl rfl (by kernel_rfl) (by kernel_rfl) (by kernel_rfl) (fun _ _ _ h => h) (Or.inl ⟨by rfl, fun w hSw => by (try dsimp only at hSw); go_simp⟩) (by assumption) ?_
              simp only [Act.put, List.setIfInBounds_toArray, List.set_cons_zero, List.set_cons_succ]
              refine take_at 5 145 (.pointer (some ⟨gw, i, none⟩)) rfl rfl (by kernel_rfl) (by kernel_rfl) (by kernel_rfl) (fun _ _ _ h => h) (Or.inl ⟨by rfl, fun w hSw => by (try dsimp only at hSw); go_simp⟩) (by assumption) ?_
              simp only [Act.put, List.setIfInBounds_toArray, List.set_cons_zero, List.set_cons_succ]
              refine take_at 7 147 (.pointer (some ⟨b, 0, none⟩)) rfl rfl (by kernel_rfl) (by kernel_rfl) (by kernel_rfl) (fun _ _ _ h => h) (Or.inl ⟨by rfl, fun w hSw => by (try dsimp only at hSw); go_simp⟩) (by assumption) ?_
              simp only [Act.put, List.setIfInBounds_toArray, List.set_cons_zero, List.set_cons_succ]
              refine take_at 8 148 (.slice (some ⟨gv, 0, none⟩) n n) rfl rfl (by kernel_rfl) (by kernel_rfl) (by kernel_rfl) (fun _ _ _ h => h) (Or.inl ⟨by rfl, fun w hSw => by (try dsimp only at hSw); go_simp⟩) (by assumption) ?_
              simp only [Act.put, List.setIfInBounds_toArray, List.set_cons_zero, List.set_cons_succ]
              refine take_at 9 149 (.int .i64 j) rfl rfl (by kernel_rfl) (by kernel_rfl) (by kernel_rfl) (fun _ _ _ h => h) (Or.inl ⟨by rfl, fun w hSw => by (try dsimp only at hSw); go_simp⟩) (by assumption) ?_
              simp only [Act.put, List.setIfInBounds_toArray, List.set_cons_zero, List.set_cons_succ]
              refine take_at 10 150 (.pointer (some ⟨gv, j, none⟩)) rfl rfl (by kernel_rfl) (by kernel_rfl) (by kernel_rfl) (fun _ _ _ h => h) (Or.inl ⟨by rfl, fun w hSw => by (try dsimp only at hSw); go_simp⟩) (by assumption) ?_
              simp only [Act.put, List.setIfInBounds_toArray, List.set_cons_zero, List.set_cons_succ]
              refine take_at 11 151 (.float .f64 v) rfl rfl (by kernel_rfl) (by kernel_rfl) (by kernel_rfl) (fun _ _ _ h => h) (Or.inl ⟨by rfl, fun w hSw => by (try dsimp only at hSw); go_simp⟩) (by assumption) ?_
              simp only [Act.put, List.setIfInBounds_toArray, List.set_cons_zero, List.set_cons_succ]
              refine take_at 12 152 (.float .f64 X) rfl rfl (by kernel_rfl) (by kernel_rfl) (by kernel_rfl) (fun _ _ _ h => h) (Or.inl ⟨by rfl, fun w hSw => by (try dsimp only at hSw); go_simp⟩) (by assumption) ?_
              simp only [Act.put, List.setIfInBounds_toArray, List.set_cons_zero, List.set_cons_succ]
              refine wpAnyH_ready (rs := [6, 13]) (by kernel_rfl) (by simp) ?_
              refine AllReadyH.cons (o := _) rfl (fun K hK => ?_) (AllReadyH.cons (o := _) rfl (fun K hK => ?_) AllReadyH.nil)
              · go_simp
                go_wp2_with fail
                refine hK.out _ _ (HKS4.out _ Q0) (fun hHeld27 => ?_)
                clear hK K
                try simp only [Act.put, List.setIfInBounds_toArray, List.set_cons_zero, List.set_cons_succ]
                refine wpAnyH_ready (rs := [13]) (by kernel_rfl) (by simp) ?_
                refine AllReadyH.cons (o := _) rfl (fun K hK => ?_) AllReadyH.nil
                go_simp
                go_wp2_with fail
                refine hK.out _ _ (HKS4.out _ Q1) (fun hHeld28 => ?_)
                clear hK K
                try simp only [Act.put, List.setIfInBounds_toArray, List.set_cons_zero, List.set_cons_succ]
                refine wpAnyH_ready (rs := [14]) (by kernel_rfl) (by simp) ?_
                refine AllReadyH.cons (o := _) rfl (fun K hK => ?_) AllReadyH.nil
                go_simp
                refine (HS4.out).mono ?_
                rintro e ww ⟨rfl, hw⟩
                rw [hw]
                clear hw
                go_wp2_with fail
                refine hK.out _ _ (HKS4.out _ Q2) (fun hHeld29 => ?_)
                clear hK K
                try simp only [Act.put, List.setIfInBounds_toArray, List.set_cons_zero, List.set_cons_succ]
                refine wpAnyH_ready (rs := [15]) (by kernel_rfl) (by simp) ?_
                refine AllReadyH.cons (o := _) rfl (fun K hK => ?_) AllReadyH.nil
                go_simp
                go_wp2_with fail
                refine hK.out _ _ (HKS4.out _ Q3) (fun hHeld30 => ?_)
                clear hK K
                try simp only [Act.put, List.setIfInBounds_toArray, List.set_cons_zero, List.set_cons_succ]
                refine wpAnyH_ready (rs := [16]) (by kernel_rfl) (by simp) ?_
                refine AllReadyH.cons (o := _) rfl (fun K hK => ?_) AllReadyH.nil
                go_simp
                refine (HS5b.out).mono ?_
                rintro e ww ⟨rfl, hw⟩
                rw [hw]
                clear hw
                go_wp2_with fail
                refine hK.out _ _ (HKS4.out _ Q4) (fun hHeld31 => ?_)
                clear hK K
                try simp only [Act.put, List.setIfInBounds_toArray, List.set_cons_zero, List.set_cons_succ]
                refine take_at 17 157 (.pointer (some ⟨gw, i, none⟩)) rfl rfl (by kernel_rfl) (by kernel_rfl) (by kernel_rfl) (fun _ _ _ h => h) (Or.inl ⟨by rfl, fun w hSw => by (try dsimp only at hSw); go_simp⟩) (by assumption) ?_
                simp only [Act.put, List.setIfInBounds_toArray, List.set_cons_zero, List.set_cons_succ]
                refine wpAnyH_ready (rs := [18]) (by kernel_rfl) (by simp) ?_
                refine AllReadyH.cons (o := _) rfl (fun K hK => ?_) AllReadyH.nil
                go_simp
                go_wp2_with fail
                refine hK.out _ _ (HKS4.out _ Q5) (fun hHeld32 => ?_)
                clear hK K
                try simp only [Act.put, List.setIfInBounds_toArray, List.set_cons_zero, List.set_cons_succ]
                refine wpAnyH_done (by kernel_rfl) ?_ _
                clear q0 q1 q2 q3 q4 Q0 Q1 Q2 Q3 Q4 Q5 HB0 HB1 HB2 HB3 HB4 HS4 HS5b cw4 fw4 cwi cw1 cw2
                go_wp2_with fail
                refine ⟨⟨i + 1, o9, fun t => if t = i * n + j then y3 else lo2 t, fun t => if t = i then y5 else xw t, by have := HI.out; omega, by have := HI.out; omega, by go_num, HB5, fun hb => ⟨carO_step (HCI.out hb).1 HI.out.1 HI.out.2 HY3.out.1 (HY3.out.2 hb), carW_step (HCI.out hb).2 (by have := HDJ.out.2; have := HI.out; omega) HM5.out.1 (HM5.out.2 hb)⟩, HO9⟩, ?_⟩
                have := HI.out
                simp [intOf]; omega
              · go_simp
                go_wp2_with fail
                refine hK.out _ _ (HKS4.out _ Q1) (fun hHeld33 => ?_)
                clear hK K
                try simp only [Act.put, List.setIfInBounds_toArray, List.set_cons_zero, List.set_cons_succ]
                refine wpAnyH_ready (rs := [6, 14]) (by kernel_rfl) (by simp) ?_
                refine AllReadyH.cons (o := _) rfl (fun K hK => ?_) (AllReadyH.cons (o := _) rfl (fun K hK => ?_) AllReadyH.nil)
                · go_simp
                  go_wp2_with fail
                  refine hK.out _ _ (HKS4.out _ Q1) (fun hHeld34 => ?_)
                  clear hK K
                  try simp only [Act.put, List.setIfInBounds_toArray, List.set_cons_zero, List.set_cons_succ]
                  refine wpAnyH_ready (rs := [14]) (by kernel_rfl) (by simp) ?_
                  refine AllReadyH.cons (o := _) rfl (fun K hK => ?_) AllReadyH.nil
                  go_simp
                  refine (HS4.out).mono ?_
                  rintro e ww ⟨rfl, hw⟩
                  rw [hw]
                  clear hw
                  go_wp2_with fail
                  refine hK.out _ _ (HKS4.out _ Q2) (fun hHeld35 => ?_)
                  clear hK K
                  try simp only [Act.put, List.setIfInBounds_toArray, List.set_cons_zero, List.set_cons_succ]
                  refine wpAnyH_ready (rs := [15]) (by kernel_rfl) (by simp) ?_
                  refine AllReadyH.cons (o := _) rfl (fun K hK => ?_) AllReadyH.nil
                  go_simp
                  go_wp2_with fail
                  refine hK.out _ _ (HKS4.out _ Q3) (fun hHeld36 => ?_)
                  clear hK K
                  try simp only [Act.put, List.setIfInBounds_toArray, List.set_cons_zero, List.set_cons_succ]
                  refine wpAnyH_ready (rs := [16]) (by kernel_rfl) (by simp) ?_
                  refine AllReadyH.cons (o := _) rfl (fun K hK => ?_) AllReadyH.nil
                  go_simp
                  refine (HS5b.out).mono ?_
                  rintro e ww ⟨rfl, hw⟩
                  rw [hw]
                  clear hw
                  go_wp2_with fail
                  refine hK.out _ _ (HKS4.out _ Q4) (fun hHeld37 => ?_)
                  clear hK K
                  try simp only [Act.put, List.setIfInBounds_toArray, List.set_cons_zero, List.set_cons_succ]
                  refine take_at 17 157 (.pointer (some ⟨gw, i, none⟩)) rfl rfl (by kernel_rfl) (by kernel_rfl) (by kernel_rfl) (fun _ _ _ h => h) (Or.inl ⟨by rfl, fun w hSw => by (try dsimp only at hSw); go_simp⟩) (by assumption) ?_
                  simp only [Act.put, List.setIfInBounds_toArray, List.set_cons_zero, List.set_cons_succ]
                  refine wpAnyH_ready (rs := [18]) (by kernel_rfl) (by simp) ?_
                  refine AllReadyH.cons (o := _) rfl (fun K hK => ?_) AllReadyH.nil
                  go_simp
                  go_wp2_with fail
                  refine hK.out _ _ (HKS4.out _ Q5) (fun hHeld38 => ?_)
                  clear hK K
                  try simp only [Act.put, List.setIfInBounds_toArray, List.set_cons_zero, List.set_cons_succ]
                  refine wpAnyH_done (by kernel_rfl) ?_ _
                  clear q0 q1 q2 q3 q4 Q0 Q1 Q2 Q3 Q4 Q5 HB0 HB1 HB2 HB3 HB4 HS4 HS5b cw4 fw4 cwi cw1 cw2
                  go_wp2_with fail
                  refine ⟨⟨i + 1, o9, fun t => if t = i * n + j then y3 else lo2 t, fun t => if t = i then y5 else xw t, by have := HI.out; omega, by have := HI.out; omega, by go_num, HB5, fun hb => ⟨carO_step (HCI.out hb).1 HI.out.1 HI.out.2 HY3.out.1 (HY3.out.2 hb), carW_step (HCI.out hb).2 (by have := HDJ.out.2; have := HI.out; omega) HM5.out.1 (HM5.out.2 hb)⟩, HO9⟩, ?_⟩
                  have := HI.out
                  simp [intOf]; omega
                · go_simp
                  refine (HS4.out).mono ?_
                  rintro e ww ⟨rfl, hw⟩
                  rw [hw]
                  clear hw
                  go_wp2_with fail
                  refine hK.out _ _ (HKS4.out _ Q2) (fun hHeld39 => ?_)
                  clear hK K
                  try simp only [Act.put, List.setIfInBounds_toArray, List.set_cons_zero, List.set_cons_succ]
                  refine wpAnyH_ready (rs := [6]) (by kernel_rfl) (by simp) ?_
                  refine AllReadyH.cons (o := _) rfl (fun K hK => ?_) AllReadyH.nil
                  go_simp
                  go_wp2_with fail
                  refine hK.out _ _ (HKS4.out _ Q2) (fun hHeld40 => ?_)
                  clear hK K
                  try simp only [Act.put, List.setIfInBounds_toArray, List.set_cons_zero, List.set_cons_succ]
                  refine wpAnyH_ready (rs := [15]) (by kernel_rfl) (by simp) ?_
                  refine AllReadyH.cons (o := _) rfl (fun K hK => ?_) AllReadyH.nil
                  go_simp
                  go_wp2_with fail
                  refine hK.out _ _ (HKS4.out _ Q3) (fun hHeld41 => ?_)
                  clear hK K
                  try simp only [Act.put, List.setIfInBounds_toArray, List.set_cons_zero, List.set_cons_succ]
                  refine wpAnyH_ready (rs := [16]) (by kernel_rfl) (by simp) ?_
                  refine AllReadyH.cons (o := _) rfl (fun K hK => ?_) AllReadyH.nil
                  go_simp
                  refine (HS5b.out).mono ?_
                  rintro e ww ⟨rfl, hw⟩
                  rw [hw]
                  clear hw
                  go_wp2_with fail
                  refine hK.out _ _ (HKS4.out _ Q4) (fun hHeld42 => ?_)
                  clear hK K
                  try simp only [Act.put, List.setIfInBounds_toArray, List.set_cons_zero, List.set_cons_succ]
                  refine take_at 17 157 (.pointer (some ⟨gw, i, none⟩)) rfl rfl (by kernel_rfl) (by kernel_rfl) (by kernel_rfl) (fun _ _ _ h => h) (Or.inl ⟨by rfl, fun w hSw => by (try dsimp only at hSw); go_simp⟩) (by assumption) ?_
                  simp only [Act.put, List.setIfInBounds_toArray, List.set_cons_zero, List.set_cons_succ]
                  refine wpAnyH_ready (rs := [18]) (by kernel_rfl) (by simp) ?_
                  refine AllReadyH.cons (o := _) rfl (fun K hK => ?_) AllReadyH.nil
                  go_simp
                  go_wp2_with fail
                  refine hK.out _ _ (HKS4.out _ Q5) (fun hHeld43 => ?_)
                  clear hK K
                  try simp only [Act.put, List.setIfInBounds_toArray, List.set_cons_zero, List.set_cons_succ]
                  refine wpAnyH_done (by kernel_rfl) ?_ _
                  clear q0 q1 q2 q3 q4 Q0 Q1 Q2 Q3 Q4 Q5 HB0 HB1 HB2 HB3 HB4 HS4 HS5b cw4 fw4 cwi cw1 cw2
                  go_wp2_with fail
                  refine ⟨⟨i + 1, o9, fun t => if t = i * n + j then y3 else lo2 t, fun t => if t = i then y5 else xw t, by have := HI.out; omega, by have := HI.out; omega, by go_num, HB5, fun hb => ⟨carO_step (HCI.out hb).1 HI.out.1 HI.out.2 HY3.out.1 (HY3.out.2 hb), carW_step (HCI.out hb).2 (by have := HDJ.out.2; have := HI.out; omega) HM5.out.1 (HM5.out.2 hb)⟩, HO9⟩, ?_⟩
                  have := HI.out
                  simp [intOf]; omega
          · obtain rfl : i = n := by omega
            go_wp2_with fail
            refine ⟨⟨d + 1, o2, lo2, xw, by have := HJ.out; omega, by rw [show (i : Int) - 1 - ((d + 1 : Nat) : Int) = (j : Int) - 1 by have := HJ.out; omega], HI0, fun hb => ⟨?_, carW_end (HCI.out hb).2⟩, HOI.out.imp fun h a c ha hc hcc => h a c ha hc (by have := HJ.out; omega)⟩, ?_⟩
            · have := carO_end (HCI.out hb).1
              rw [show i - (d + 1) = j by have := HJ.out; omega]
              exact this
            · have := HJ.out; simp [intOf]; omega
      · obtain rfl : n = d := by omega
        obtain ⟨wS, hwS⟩ : ∃ t, t = wr := ⟨_, rfl⟩
        subst hwS
        have en : (n : Int) - 1 - (n : Int) = -1 := by omega
        rw [en]
        clear en
        rw [Nat.sub_self] at HCW HOV
        obtain ⟨k0, k1, k2, km, kv, ka2, kb⟩ := HK9.out _ _ _ _ HF.out
        have HBW := hid kb
        have HBS : Hid (b < wS.heap.size) := (Array.getElem?_eq_some_iff.1 HF.out.box).1
        have HGS : Hid (gw < wS.heap.size ∧ gl < wS.heap.size ∧ ga < wS.heap.size ∧ p0 < wS.heap.size ∧ p1 < wS.heap.size ∧ p2 < wS.heap.size ∧ ml < wS.heap.size) := by have h1 := HF.out.rw.lt; have h2 := HF.out.rl.lt; have h3 := (Array.getElem?_eq_some_iff.1 km).1; have := HGN.out; show _ ∧ _ ∧ _ ∧ _ ∧ _ ∧ _ ∧ _; omega
        have HKX : Hid (∀ (W : World) (q : Bool), Stp wS.heap.size b q wS W → W.heap[p0]? = some (RBox xa n kx n n sa m ka) ∧ W.heap[p1]? = some (RBox none 0 0 0 0 none 0 0) ∧ W.heap[p2]? = some (StBox 0 0 0 none 0 0) ∧ W.heap[ml]? = some (MBox n n (some ⟨gl, 0, none⟩) NN NN) ∧ (∀ t, t < n → W.cell? ⟨gw, t, none⟩ = some (.float .f64 (u t))) ∧ (∀ t, t < N1 → W.cell? ⟨ga, t, none⟩ = some (.float .f64 (fa t))) ∧ W.rowIs gl 28 NN (fun t => .float .f64 (lo t)) ∧ Below w.heap.size w W) := fun W q h => by
          have hn := HGN.out; have hg := HGS.out; have hw := HPW.out
          refine ⟨h.at k0 (by omega) (by omega), h.at k1 (by omega) (by omega), h.at k2 (by omega) (by omega), h.at km (by omega) (by omega), fun t ht => ?_, fun t ht => ?_, HF.out.rl.of_block (h.keep gl (by omega) (by omega)), ?_⟩
          · exact (World.cell?_of_block (h.keep gw (by omega) (by omega))).trans (HF.out.rw.cell ht)
          · exact (World.cell?_of_block (h.keep ga (by omega) (by omega))).trans (ka2 t ht)
          · exact HBW.out.trans (h.below HBW.out.size (by omega))
        have HU : Hid (B = true → ∀ t, t < n → u t < 18446744073709551616 ∧ canonOf (u t) = wC f vV n n t) := fun hb t ht => by
          have h := (HCW.out hb).2 t ht
          rw [if_neg (Nat.not_lt_zero _)] at h
          exact h
        have HS00 : Hid (B = true → fa 0 = sS 0) := fun hb => HSA.out hb 0 (Nat.zero_le _)
        have HA0L : Hid (fa 0 < 18446744073709551616) := HAL.out 0 (by have := hN1.out; omega)
        have HFG : Hid (FN = true → ∀ t, t < n → finB (gU f hs n x t) = true ∧ finB (caf .mul (gU f hs n x t) (yU hs zs n z)) = true ∧ finB (xU f hs zs n x z t) = true) := fun h t ht => ⟨upd_g (by rw [hFN.out]; exact h) HZS.out ht, upd_gy (by rw [hFN.out]; exact h) HZS.out ht, upd_x (by rw [hFN.out]; exact h) ht⟩
        have HFSC : Hid (FN = true → finB (caf .mul (yU hs zs n z) (yU hs zs n z)) = true ∧ finB (scU f hs zs n x z) = true) := fun h => ⟨upd_yy (x := x) (f := f) (by rw [hFN.out]; exact h), upd_sc (by rw [hFN.out]; exact h)⟩
        have HGD : Hid (∀ t, gU f hs n x t = caf .quo (wC f vV n n t) (canonOf (sS 0))) := fun t => by rw [← hsS.out, ← hvV.out]; rfl
        have HXD : Hid (∀ t, xU f hs zs n x z t = caf .add (canonOf (zs.getD t 0)) (caf .mul (gU f hs n x t) (yU hs zs n z))) := fun t => rfl
        have HSD : Hid (scU f hs zs n x z = caf .quo (caf .mul (yU hs zs n z) (yU hs zs n z)) (canonOf (sS 0))) := by show _ = _; rw [← hsS.out]; rfl
        have wN1 : (0 : Int) < (N1 : Int) := by have := hN1.out; omega
        have z0 : 0 < N1 := by have := hN1.out; omega
        have HOV0 : Hid (OvI FN B ((∀ a c, a < n → c ≤ a → finB (oC f vV sS n a c) = true) ∧ ∀ t, t < 0 → finB (xU f hs zs n x z t) = true) o) := HOV.out.imp fun h => ⟨fun a c ha hc => h a c ha hc (Nat.zero_le _), fun t ht => absurd ht (Nat.not_lt_zero t)⟩
        clear k0 k1 k2 km kv ka2 kb
        go_wp2_with fail
        go_loopw [27, 28, 29] (fun kv xv iv wr3 => ∃ (i : Nat) (sk sx : Option Addr) (ck cx : Nat) (o3 : Bool) (ks xq : List Nat), i ≤ n ∧ kv = .slice sk i ck ∧ xv = .slice sx i cx ∧ iv = .int .i64 i ∧ Hid (Stp wS.heap.size b o3 wS wr3) ∧ Hid (wr3.ownsRow wS.heap.size 28 1 (.slice sk i ck) i (ks.map (.float .f64)) ∧ wr3.ownsRow wS.heap.size 28 1 (.slice sx i cx) i (xq.map (.float .f64)) ∧ ∀ g, (Value.slice sk i ck).ownBlock = some g → (Value.slice sx i cx).ownBlock ≠ some g) ∧ Hid ((ks.length = i ∧ xq.length = i ∧ ∀ t, t < i → ks.getD t 0 < 18446744073709551616 ∧ xq.getD t 0 < 18446744073709551616) ∧ (B = true → ∀ t, t < i → canonOf (ks.getD t 0) = gU f hs n x t ∧ canonOf (xq.getD t 0) = xU f hs zs n x z t)) ∧ Hid (OvI FN B ((∀ a c, a < n → c ≤ a → finB (oC f vV sS n a c) = true) ∧ ∀ t, t < i → finB (xU f hs zs n x z t) = true) o3)) (fun _ _ iv _ => n - (intOf iv).toNat)
        case atStart => exact ⟨0, none, none, 0, 0, o, [], [], Nat.zero_le _, rfl, rfl, rfl, Stp.start HF.out.box, ⟨World.ownsRow_nil _ _ _ _, World.ownsRow_nil _ _ _ _, fun g h => by cases h⟩, ⟨⟨rfl, rfl, fun t ht => absurd ht (Nat.not_lt_zero t)⟩, fun _ t ht => absurd ht (Nat.not_lt_zero t)⟩, HOV0⟩
        case round =>
          obtain ⟨i, sk, sx, ck, cx, o3, ks, xq, hin, rfl, rfl, rfl, HT, HOW, HLS, HOI⟩ := hrel
          by_cases hit : i < n
          · have HI := hid hit
            have hiI : (i : Int) < (n : Int) := by omega
            have hi0 : (0 : Int) ≤ (i : Int) := by omega
            have wi1 : IntKind.i64.wrap ((i : Int) + 1) = (i : Int) + 1 := IntWalk.i64_in _ (by have := HN.out; omega)
            obtain ⟨wi, hwi⟩ : ∃ t, Hid (u i = t) := ⟨_, rfl⟩
            obtain ⟨A0, hA0⟩ : ∃ t, Hid (fa 0 = t) := ⟨_, rfl⟩
            have HKS2 : Hid (∀ W, Hid (∃ q, Stp wS.heap.size b q wS W) → (W.cell? ⟨gw, i, none⟩ = some (.float .f64 wi) ∧ W.cell? ⟨ga, 0, none⟩ = some (.float .f64 A0)) ∧ Hid (∃ q, Stp wS.heap.size b q wS W)) := fun W hW => by
              obtain ⟨q, hq⟩ := hW.out
              obtain ⟨_, _, _, _, k1, k2, _, _⟩ := HKX.out _ _ hq
              exact ⟨⟨by rw [← hwi.out]; exact k1 i HI.out, by rw [← hA0.out]; exact k2 0 z0⟩, hW⟩
            have HWIL : Hid (B = true → wi < 18446744073709551616 ∧ canonOf wi = wC f vV n n i) := fun hb => by have := HU.out hb i HI.out; rw [hwi.out] at this; exact this
            have HA0 : Hid (A0 < 18446744073709551616 ∧ (B = true → A0 = sS 0)) := ⟨by rw [← hA0.out]; exact HA0L.out, fun hb => by rw [← hA0.out]; exact HS00.out hb⟩
            have HB0 := hid (HT.out.step (Below.refl _ _).drew HT.out.size)
            have HO0 := hid (And.intro (owns_keepr HOW.out.1 ((Below.refl _ _).drew)) (And.intro (owns_keepr HOW.out.2.1 ((Below.refl _ _).drew)) HOW.out.2.2))
            have HKc : Hid (canonOf (quF wi A0 wr.drew) = caf .quo wi A0 ∧ quF wi A0 wr.drew < 18446744073709551616) := ⟨canon_qu _ _ _, quF_lt _ _ _⟩
            have bl1 := bl_qu (Below.refl wr.drew.heap.size wr.drew) wi A0
            have HB1 := hid (HB0.out.step bl1 HB0.out.size)
            have HO1 := hid (And.intro (owns_keepr HO0.out.1 bl1) (And.intro (owns_keepr HO0.out.2.1 bl1) HO0.out.2.2))
            obtain ⟨K, hKK⟩ : ∃ t, Hid (quF wi A0 wr.drew = t) := ⟨_, rfl⟩
            obtain ⟨e1, he1⟩ : ∃ t, Hid (quG wi A0 wr.drew = t) := ⟨_, rfl⟩
            rw [hKK.out] at HKc
            rw [he1.out] at HB1 HO1
            have hKK' := hKK.out
            have he1' := he1.out
            have HKB : Hid (B = true → canonOf K = gU f hs n x i) := fun hb => by rw [HKc.out.1, quo_canon wi A0 (HWIL.out hb).1 HA0.out.1, (HWIL.out hb).2, HA0.out.2 hb, HGD.out i]
            have HS1 := hid (stepF b o3 K (caf .quo wi A0) e1 HKc.out.2 HKc.out.1 HB1.out.box)
            have HOI1 := hid (HOI.out.same (c := caf .quo wi A0) (C := gU f hs n x i) HFB.out (fun hb => by rw [← HKc.out.1]; exact HKB.out hb) (fun h => (HFG.out h i HI.out).1))
            obtain ⟨o4, ho4⟩ : ∃ t, Hid ((o3 || !finB (caf .quo wi A0)) = t) := ⟨_, rfl⟩
            rw [ho4.out] at HS1 HOI1
            have HB2 := hid (HB1.out.s o4)
            have HO2 := hid (And.intro (owns_sets HO1.out.1 HB1.out.box (.bool o4)) (And.intro (owns_sets HO1.out.2.1 HB1.out.box (.bool o4)) HO1.out.2.2))
            obtain ⟨e2, he2⟩ : ∃ t, Hid (e1.setCell ⟨b, 0, none⟩ (.bool o4) = t) := ⟨_, rfl⟩
            rw [he2.out] at HS1 HB2 HO2
            have HB3 := hid (HB2.out.step ((Below.refl _ _).alloc (Nat.le_refl _) (.cells #[.float .f64 K] 28)) HB2.out.size)
            obtain ⟨gk, ck2, e4, hrun, hw1, hw2, hw3, hbe⟩ := app_at K 32 HO2.out.1 HO2.out.2.1 HO2.out.2.2 (by have := HN.out; have := HI.out; omega) HB2.out.size
            obtain ⟨i1, hi1⟩ : ∃ t, Hid (i + 1 = t) := ⟨_, rfl⟩
            rw [hi1.out] at hrun hw1
            have hiI1 : (i : Int) < (i1 : Int) := by have := hi1.out; omega
            have HB4 := hid (HB2.out.stepB hbe HBS.out)
            have HO4 := hid (And.intro hw1 (And.intro hw2 hw3))
            obtain ⟨e3, he3⟩ : ∃ t, Hid (e2.alloc (.cells #[.float .f64 K] 28) = t) := ⟨_, rfl⟩
            rw [he3.out] at hrun HB3
            have he3' := he3.out
            obtain ⟨m2, hm2⟩ : ∃ t, Hid (e2.heap.size = t) := ⟨_, rfl⟩
            rw [hm2.out] at hrun
            have hm2' := hm2.out
            clear hw1 hw2 hw3 hbe bl1
            have q0 : Hid (∃ q, Stp wS.heap.size b q wS wr.drew) := ⟨_, HB0.out⟩
            have q1 : Hid (∃ q, Stp wS.heap.size b q wS e1) := ⟨_, HB1.out⟩
            have q2 : Hid (∃ q, Stp wS.heap.size b q wS e2) := ⟨_, HB2.out⟩
            have q3 : Hid (∃ q, Stp wS.heap.size b q wS e3) := ⟨_, HB3.out⟩
            have q4 : Hid (∃ q, Stp wS.heap.size b q wS e4) := ⟨_, HB4.out⟩
            go_wp2_with fail
            refine wp_region_held_drew (S := fun W => (W.cell? ⟨gw, i, none⟩ = some (.float .f64 wi) ∧ W.cell? ⟨ga, 0, none⟩ = some (.float .f64 A0)) ∧ Hid (∃ q, Stp wS.heap.size b q wS W)) (by kernel_rfl) (HKS2.out _ q0) (fun hHeld => ?_)
            refine take_at 0 163 (.slice sk i ck) rfl rfl (by kernel_rfl) (by kernel_rfl) (by kernel_rfl) (fun _ _ _ h => h) (Or.inl ⟨by rfl, fun w hSw => by (try dsimp only at hSw); go_simp⟩) (by assumption) ?_
            simp only [Act.put, List.setIfInBounds_toArray, List.set_cons_zero, List.set_cons_succ]
            refine take_at 1 164 (.pointer (some ⟨b, 0, none⟩)) rfl rfl (by kernel_rfl) (by kernel_rfl) (by kernel_rfl) (fun _ _ _ h => h) (Or.inl ⟨by rfl, fun w hSw => by (try dsimp only at hSw); go_simp⟩) (by assumption) ?_
            simp only [Act.put, List.setIfInBounds_toArray, List.set_cons_zero, List.set_cons_succ]
            refine take_at 2 165 (.slice (some ⟨gw, 0, none⟩) n n) rfl rfl (by kernel_rfl) (by kernel_rfl) (by kernel_rfl) (fun _ _ _ h => h) (Or.inl ⟨by rfl, fun w hSw => by (try dsimp only at hSw); go_simp⟩) (by assumption) ?_
            simp only [Act.put, List.setIfInBounds_toArray, List.set_cons_zero, List.set_cons_succ]
            refine take_at 3 166 (.int .i64 i) rfl rfl (by kernel_rfl) (by kernel_rfl) (by kernel_rfl) (fun _ _ _ h => h) (Or.inl ⟨by rfl, fun w hSw => by (try dsimp only at hSw); go_simp⟩) (by assumption) ?_
            simp only [Act.put, List.setIfInBounds_toArray, List.set_cons_zero, List.set_cons_succ]
            refine take_at 4 167 (.pointer (some ⟨gw, i, none⟩)) rfl rfl (by kernel_rfl) (by kernel_rfl) (by kernel_rfl) (fun _ _ _ h => h) (Or.inl ⟨by rfl, fun w hSw => by (try dsimp only at hSw); go_simp⟩) (by assumption) ?_
            simp only [Act.put, List.setIfInBounds_toArray, List.set_cons_zero, List.set_cons_succ]
            refine take_at 5 168 (.float .f64 wi) rfl rfl (by kernel_rfl) (by kernel_rfl) (by kernel_rfl) (fun _ _ _ h => h) (Or.inl ⟨by rfl, fun w hSw => by (try dsimp only at hSw); go_simp⟩) (by assumption) ?_
            simp only [Act.put, List.setIfInBounds_toArray, List.set_cons_zero, List.set_cons_succ]
            refine take_at 6 169 (.slice (some ⟨ga, 0, none⟩) N1 N1) rfl rfl (by kernel_rfl) (by kernel_rfl) (by kernel_rfl) (fun _ _ _ h => h) (Or.inl ⟨by rfl, fun w hSw => by (try dsimp only at hSw); go_simp⟩) (by assumption) ?_
            simp only [Act.put, List.setIfInBounds_toArray, List.set_cons_zero, List.set_cons_succ]
            refine take_at 7 170 (.pointer (some ⟨ga, 0, none⟩)) rfl rfl (by kernel_rfl) (by kernel_rfl) (by kernel_rfl) (fun _ _ _ h => h) (Or.inl ⟨by rfl, fun w hSw => by (try dsimp only at hSw); go_simp⟩) (by assumption) ?_
            simp only [Act.put, List.setIfInBounds_toArray, List.set_cons_zero, List.set_cons_succ]
            refine take_at 8 171 (.float .f64 A0) rfl rfl (by kernel_rfl) (by kernel_rfl) (by kernel_rfl) (fun _ _ _ h => h) (Or.inl ⟨by rfl, fun w hSw => by (try dsimp only at hSw); go_simp⟩) (by assumption) ?_
            simp only [Act.put, List.setIfInBounds_toArray, List.set_cons_zero, List.set_cons_succ]
            refine wpAnyH_ready (rs := [9]) (by kernel_rfl) (by simp) ?_
            refine AllReadyH.cons (o := _) rfl (fun K0 hK => ?_) AllReadyH.nil
            go_simp
            go_wp2_with fail
            refine hK.out _ _ (HKS2.out _ q1) (fun hHeld1 => ?_)
            clear hK K0
            try simp only [Act.put, List.setIfInBounds_toArray, List.set_cons_zero, List.set_cons_succ]
            refine wpAnyH_ready (rs := [10]) (by kernel_rfl) (by simp) ?_
            refine AllReadyH.cons (o := _) rfl (fun K0 hK => ?_) AllReadyH.nil
            go_simp
            refine (HS1.out).mono ?_
            rintro e ww ⟨rfl, hw⟩
            rw [hw]
            clear hw
            go_wp2_with fail
            refine hK.out _ _ (HKS2.out _ q2) (fun hHeld2 => ?_)
            clear hK K0
            try simp only [Act.put, List.setIfInBounds_toArray, List.set_cons_zero, List.set_cons_succ]
            refine wpAnyH_ready (rs := [11]) (by kernel_rfl) (by simp) ?_
            refine AllReadyH.cons (o := _) rfl (fun K0 hK => ?_) AllReadyH.nil
            go_simp
            go_wp2_with fail
            refine hK.out _ _ (HKS2.out _ q3) (fun hHeld3 => ?_)
            clear hK K0
            try simp only [Act.put, List.setIfInBounds_toArray, List.set_cons_zero, List.set_cons_succ]
            refine wpAnyH_ready (rs := [12]) (by kernel_rfl) (by simp) ?_
            refine AllReadyH.cons (o := _) rfl (fun K0 hK => ?_) AllReadyH.nil
            refine step_apr 32 175 rfl rfl _ _ rfl _ _ rfl rfl hrun ?_
            refine hK.out _ _ (HKS2.out _ q4) (fun hHeld4 => ?_)
            clear hK K0 hrun
            try simp only [Act.put, List.setIfInBounds_toArray, List.set_cons_zero, List.set_cons_succ]
            refine take_at 13 27 (.slice (some ⟨gk, 0, none⟩) i1 ck2) rfl rfl (by kernel_rfl) (by kernel_rfl) (by kernel_rfl) (fun _ _ _ h => h) (Or.inl ⟨by rfl, fun w hSw => by (try dsimp only at hSw); go_simp⟩) (by assumption) ?_
            simp only [Act.put, List.setIfInBounds_toArray, List.set_cons_zero, List.set_cons_succ]
            refine wpAnyH_done (by kernel_rfl) ?_ _
            clear q0 q1 q2 q3 q4 HB0 HB1 HB2 HB3 HO0 HO1 HO2 HS1 HKS2 hHeld hHeld1 hHeld2 hHeld3 hHeld4 hm2 HT HOW
            obtain ⟨bx, ox, hxa, hbx, hcx⟩ := fn_some HXX.out.fn (by have := HI.out; omega)
            subst hxa
            obtain ⟨zi, hzi⟩ : ∃ t, Hid (zs.getD i 0 = t) := ⟨_, rfl⟩
            have HZI : Hid (zi < 18446744073709551616) := by have := (hcx i HI.out).2; rw [hzi.out] at this; exact this
            have HLK := HLS.out.1
            have HKS3 : Hid (∀ W, Hid (∃ q, Stp wS.heap.size b q wS W ∧ W.ownsRow wS.heap.size 28 1 (.slice (some ⟨gk, 0, none⟩) i1 ck2) i1 ((ks ++ [K]).map (.float .f64))) → (W.cell? ⟨p0, 0, none⟩ = some (.slice (some ⟨bx, ox, none⟩) n kx) ∧ W.cell? ⟨bx, ox + i, none⟩ = some (.float .f64 zi) ∧ W.cell? ⟨gk, i, none⟩ = some (.float .f64 K)) ∧ Hid (∃ q, Stp wS.heap.size b q wS W ∧ W.ownsRow wS.heap.size 28 1 (.slice (some ⟨gk, 0, none⟩) i1 ck2) i1 ((ks ++ [K]).map (.float .f64)))) := fun W hW => by
              obtain ⟨q, hq, how⟩ := hW.out
              obtain ⟨k0, _, _, _, _, _, _, kb⟩ := HKX.out _ _ hq
              obtain ⟨x0, _, _, _⟩ := rcells_of k0
              refine ⟨⟨x0, ?_, ?_⟩, hW⟩
              · have := fnO_cell (HXX.out.fn.below kb) HI.out
                rw [hzi.out] at this
                exact this
              · have := how.cellAt i (by have := hi1.out; omega)
                rw [this, List.getElem?_map, List.getElem?_append_right (by rw [HLS.out.1.1]; exact Nat.le_refl _), HLS.out.1.1, Nat.sub_self]
                rfl
            clear hbx hcx HLK
            have HB5 := hid (HB4.out.step (Below.refl _ _).drew HB4.out.size)
            have HO5 := hid (And.intro (owns_keepr HO4.out.1 ((Below.refl _ _).drew)) (And.intro (owns_keepr HO4.out.2.1 ((Below.refl _ _).drew)) HO4.out.2.2))
            have HM1 : Hid (arF .mul K Y e4.drew < 18446744073709551616 ∧ (B = true → canonOf (arF .mul K Y e4.drew) = caf .mul (gU f hs n x i) (yU hs zs n z))) := ⟨arF_lt ok_m _ _ _, fun hb => by rw [canon_ar ok_m _ _ _ HKc.out.2 HY.out.2, HKB.out hb, HY.out.1]⟩
            have bl6 := bl_ar (Below.refl e4.drew.heap.size e4.drew) .mul K Y
            have HB6 := hid (HB5.out.step bl6 HB5.out.size)
            have HO6 := hid (And.intro (owns_keepr HO5.out.1 bl6) (And.intro (owns_keepr HO5.out.2.1 bl6) HO5.out.2.2))
            obtain ⟨y1, hy1⟩ : ∃ t, Hid (arF .mul K Y e4.drew = t) := ⟨_, rfl⟩
            obtain ⟨e6, he6⟩ : ∃ t, Hid (arG .mul K Y e4.drew = t) := ⟨_, rfl⟩
            rw [hy1.out] at HM1
            rw [he6.out] at HB6 HO6
            have hy1' := hy1.out
            have he6' := he6.out
            have HS6 := hid (stepF b o4 y1 _ e6 HM1.out.1 rfl HB6.out.box)
            have HOI6 := hid (HOI1.out.same (c := canonOf y1) (C := caf .mul (gU f hs n x i) (yU hs zs n z)) HFB.out HM1.out.2 (fun h => (HFG.out h i HI.out).2.1))
            obtain ⟨o5x, ho5x⟩ : ∃ t, Hid ((o4 || !finB (canonOf y1)) = t) := ⟨_, rfl⟩
            rw [ho5x.out] at HS6 HOI6
            have HB7 := hid (HB6.out.s o5x)
            have HO7 := hid (And.intro (owns_sets HO6.out.1 HB6.out.box (.bool o5x)) (And.intro (owns_sets HO6.out.2.1 HB6.out.box (.bool o5x)) HO6.out.2.2))
            obtain ⟨e7, he7⟩ : ∃ t, Hid (e6.setCell ⟨b, 0, none⟩ (.bool o5x) = t) := ⟨_, rfl⟩
            rw [he7.out] at HS6 HB7 HO7
            have HM2 : Hid (arF .add zi y1 e7 < 18446744073709551616 ∧ (B = true → canonOf (arF .add zi y1 e7) = xU f hs zs n x z i)) := ⟨arF_lt ok_a _ _ _, fun hb => by rw [canon_ar ok_a _ _ _ HZI.out HM1.out.1, HM1.out.2 hb, HXD.out i, hzi.out]⟩
            have bl8 := bl_ar (Below.refl e7.heap.size e7) .add zi y1
            have HB8 := hid (HB7.out.step bl8 HB7.out.size)
            have HO8 := hid (And.intro (owns_keepr HO7.out.1 bl8) (And.intro (owns_keepr HO7.out.2.1 bl8) HO7.out.2.2))
            obtain ⟨xn, hxn⟩ : ∃ t, Hid (arF .add zi y1 e7 = t) := ⟨_, rfl⟩
            obtain ⟨e8, he8⟩ : ∃ t, Hid (arG .add zi y1 e7 = t) := ⟨_, rfl⟩
            rw [hxn.out] at HM2
            rw [he8.out] at HB8 HO8
            have hxn' := hxn.out
            have he8' := he8.out
            have HS8x := hid (stepF b o5x xn _ e8 HM2.out.1 rfl HB8.out.box)
            have HOI8 := hid (HOI6.out.step (c := canonOf xn) (C := xU f hs zs n x z i) (P' := (∀ a c, a < n → c ≤ a → finB (oC f vV sS n a c) = true) ∧ ∀ t, t < i + 1 → finB (xU f hs zs n x z t) = true) HFB.out HM2.out.2 (fun h => (HFG.out h i HI.out).2.2) (fun h hf => ⟨h.1, fun t ht => by
                by_cases e : t = i
                · subst e; exact hf
                · exact h.2 t (by omega)⟩))
            obtain ⟨o6x, ho6x⟩ : ∃ t, Hid ((o5x || !finB (canonOf xn)) = t) := ⟨_, rfl⟩
            rw [ho6x.out] at HS8x HOI8
            have HB9 := hid (HB8.out.s o6x)
            have HO9x := hid (And.intro (owns_sets HO8.out.1 HB8.out.box (.bool o6x)) (And.intro (owns_sets HO8.out.2.1 HB8.out.box (.bool o6x)) HO8.out.2.2))
            obtain ⟨e9, he9⟩ : ∃ t, Hid (e8.setCell ⟨b, 0, none⟩ (.bool o6x) = t) := ⟨_, rfl⟩
            rw [he9.out] at HS8x HB9 HO9x
            have HB10 := hid (HB9.out.step ((Below.refl _ _).alloc (Nat.le_refl _) (.cells #[.float .f64 xn] 28)) HB9.out.size)
            have HOa := hid (owns_keepr HO9x.out.1 ((Below.refl e9.heap.size e9).alloc (Nat.le_refl _) (.cells #[.float .f64 xn] 28)))
            obtain ⟨gx, cx2, e11, hrun, hw1, hw2, hw3, hbe⟩ := app_at xn 32 HO9x.out.2.1 HO9x.out.1 (fun g hg e => HO9x.out.2.2 (by rw [hg, ← e]; rfl)) (by have := HN.out; have := HI.out; omega) HB9.out.size
            have HB11 := hid (HB9.out.stepB hbe HBS.out)
            have HO11 := hid (And.intro hw2 (And.intro hw1 hw3))
            obtain ⟨e10, he10⟩ : ∃ t, Hid (e9.alloc (.cells #[.float .f64 xn] 28) = t) := ⟨_, rfl⟩
            rw [he10.out] at hrun HB10 HOa
            have he10' := he10.out
            obtain ⟨m3, hm3⟩ : ∃ t, Hid (e9.heap.size = t) := ⟨_, rfl⟩
            rw [hm3.out] at hrun
            have hm3' := hm3.out
            clear hw1 hw2 hw3 hbe bl6 bl8
            have q5 : Hid (∃ q, Stp wS.heap.size b q wS e4.drew ∧ e4.drew.ownsRow wS.heap.size 28 1 (.slice (some ⟨gk, 0, none⟩) i1 ck2) i1 ((ks ++ [K]).map (.float .f64))) := ⟨_, HB5.out, HO5.out.1⟩
            have q6 : Hid (∃ q, Stp wS.heap.size b q wS e6 ∧ e6.ownsRow wS.heap.size 28 1 (.slice (some ⟨gk, 0, none⟩) i1 ck2) i1 ((ks ++ [K]).map (.float .f64))) := ⟨_, HB6.out, HO6.out.1⟩
            have q7 : Hid (∃ q, Stp wS.heap.size b q wS e7 ∧ e7.ownsRow wS.heap.size 28 1 (.slice (some ⟨gk, 0, none⟩) i1 ck2) i1 ((ks ++ [K]).map (.float .f64))) := ⟨_, HB7.out, HO7.out.1⟩
            have q8 : Hid (∃ q, Stp wS.heap.size b q wS e8 ∧ e8.ownsRow wS.heap.size 28 1 (.slice (some ⟨gk, 0, none⟩) i1 ck2) i1 ((ks ++ [K]).map (.float .f64))) := ⟨_, HB8.out, HO8.out.1⟩
            have q9 : Hid (∃ q, Stp wS.heap.size b q wS e9 ∧ e9.ownsRow wS.heap.size 28 1 (.slice (some ⟨gk, 0, none⟩) i1 ck2) i1 ((ks ++ [K]).map (.float .f64))) := ⟨_, HB9.out, HO9x.out.1⟩
            have q10 : Hid (∃ q, Stp wS.heap.size b q wS e10 ∧ e10.ownsRow wS.heap.size 28 1 (.slice (some ⟨gk, 0, none⟩) i1 ck2) i1 ((ks ++ [K]).map (.float .f64))) := ⟨_, HB10.out, HOa.out⟩
            have q11 : Hid (∃ q, Stp wS.heap.size b q wS e11 ∧ e11.ownsRow wS.heap.size 28 1 (.slice (some ⟨gk, 0, none⟩) i1 ck2) i1 ((ks ++ [K]).map (.float .f64))) := ⟨_, HB11.out, HO11.out.1⟩
            go_wp2_with fail
            refine wp_region_held_drew (S := fun W => (W.cell? ⟨p0, 0, none⟩ = some (.slice (some ⟨bx, ox, none⟩) n kx) ∧ W.cell? ⟨bx, ox + i, none⟩ = some (.float .f64 zi) ∧ W.cell? ⟨gk, i, none⟩ = some (.float .f64 K)) ∧ Hid (∃ q, Stp wS.heap.size b q wS W ∧ W.ownsRow wS.heap.size 28 1 (.slice (some ⟨gk, 0, none⟩) i1 ck2) i1 ((ks ++ [K]).map (.float .f64)))) (by kernel_rfl) (HKS3.out _ q5) (fun hHeld => ?_)
            refine take_at 0 176 (.slice sx i cx) rfl rfl (by kernel_rfl) (by kernel_rfl) (by kernel_rfl) (fun _ _ _ h => h) (Or.inl ⟨by rfl, fun w hSw => by (try dsimp only at hSw); go_simp⟩) (by assumption) ?_
            simp only [Act.put, List.setIfInBounds_toArray, List.set_cons_zero, List.set_cons_succ]
            refine take_at 1 177 (.pointer (some ⟨b, 0, none⟩)) rfl rfl (by kernel_rfl) (by kernel_rfl) (by kernel_rfl) (fun _ _ _ h => h) (Or.inl ⟨by rfl, fun w hSw => by (try dsimp only at hSw); go_simp⟩) (by assumption) ?_
            simp only [Act.put, List.setIfInBounds_toArray, List.set_cons_zero, List.set_cons_succ]
            refine take_at 2 178 (.pointer (some ⟨p0, 0, none⟩)) rfl rfl (by kernel_rfl) (by kernel_rfl) (by kernel_rfl) (fun _ _ _ h => h) (Or.inl ⟨by rfl, fun w hSw => by (try dsimp only at hSw); go_simp⟩) (by assumption) ?_
            simp only [Act.put, List.setIfInBounds_toArray, List.set_cons_zero, List.set_cons_succ]
            refine take_at 3 179 (.slice (some ⟨bx, ox, none⟩) n kx) rfl rfl (by kernel_rfl) (by kernel_rfl) (by kernel_rfl) (fun _ _ _ h => h) (Or.inl ⟨by rfl, fun w hSw => by (try dsimp only at hSw); go_simp⟩) (by assumption) ?_
            simp only [Act.put, List.setIfInBounds_toArray, List.set_cons_zero, List.set_cons_succ]
            refine take_at 4 180 (.int .i64 i) rfl rfl (by kernel_rfl) (by kernel_rfl) (by kernel_rfl) (fun _ _ _ h => h) (Or.inl ⟨by rfl, fun w hSw => by (try dsimp only at hSw); go_simp⟩) (by assumption) ?_
            simp only [Act.put, List.setIfInBounds_toArray, List.set_cons_zero, List.set_cons_succ]
            refine take_at 5 181 (.pointer (some ⟨bx, ox + i, none⟩)) rfl rfl (by kernel_rfl) (by kernel_rfl) (by kernel_rfl) (fun _ _ _ h => h) (Or.inl ⟨by rfl, fun w hSw => by (try dsimp only at hSw); go_simp⟩) (by assumption) ?_
            simp only [Act.put, List.setIfInBounds_toArray, List.set_cons_zero, List.set_cons_succ]
            refine take_at 6 182 (.float .f64 zi) rfl rfl (by kernel_rfl) (by kernel_rfl) (by kernel_rfl) (fun _ _ _ h => h) (Or.inl ⟨by rfl, fun w hSw => by (try dsimp only at hSw); go_simp⟩) (by assumption) ?_
            simp only [Act.put, List.setIfInBounds_toArray, List.set_cons_zero, List.set_cons_succ]
            refine take_at 7 183 (.pointer (some ⟨b, 0, none⟩)) rfl rfl (by kernel_rfl) (by kernel_rfl) (by kernel_rfl) (fun _ _ _ h => h) (Or.inl ⟨by rfl, fun w hSw => by (try dsimp only at hSw); go_simp⟩) (by assumption) ?_
            simp only [Act.put, List.setIfInBounds_toArray, List.set_cons_zero, List.set_cons_succ]
            refine take_at 8 184 (.slice (some ⟨gk, 0, none⟩) i1 ck2) rfl rfl (by kernel_rfl) (by kernel_rfl) (by kernel_rfl) (fun _ _ _ h => h) (Or.inl ⟨by rfl, fun w hSw => by (try dsimp only at hSw); go_simp⟩) (by assumption) ?_
            simp only [Act.put, List.setIfInBounds_toArray, List.set_cons_zero, List.set_cons_succ]
            refine take_at 9 185 (.int .i64 i) rfl rfl (by kernel_rfl) (by kernel_rfl) (by kernel_rfl) (fun _ _ _ h => h) (Or.inl ⟨by rfl, fun w hSw => by (try dsimp only at hSw); go_simp⟩) (by assumption) ?_
            simp only [Act.put, List.setIfInBounds_toArray, List.set_cons_zero, List.set_cons_succ]
            refine take_at 10 186 (.pointer (some ⟨gk, i, none⟩)) rfl rfl (by kernel_rfl) (by kernel_rfl) (by kernel_rfl) (fun _ _ _ h => h) (Or.inl ⟨by rfl, fun w hSw => by (try dsimp only at hSw); go_simp⟩) (by assumption) ?_
            simp only [Act.put, List.setIfInBounds_toArray, List.set_cons_zero, List.set_cons_succ]
            refine take_at 11 187 (.float .f64 K) rfl rfl (by kernel_rfl) (by kernel_rfl) (by kernel_rfl) (fun _ _ _ h => h) (Or.inl ⟨by rfl, fun w hSw => by (try dsimp only at hSw); go_simp⟩) (by assumption) ?_
            simp only [Act.put, List.setIfInBounds_toArray, List.set_cons_zero, List.set_cons_succ]
            refine take_at 12 188 (.float .f64 Y) rfl rfl (by kernel_rfl) (by kernel_rfl) (by kernel_rfl) (fun _ _ _ h => h) (Or.inl ⟨by rfl, fun w hSw => by (try dsimp only at hSw); go_simp⟩) (by assumption) ?_
            simp only [Act.put, List.setIfInBounds_toArray, List.set_cons_zero, List.set_cons_succ]
            refine wpAnyH_ready (rs := [13]) (by kernel_rfl) (by simp) ?_
            refine AllReadyH.cons (o := _) rfl (fun K0 hK => ?_) AllReadyH.nil
            go_simp
            go_wp2_with fail
            refine hK.out _ _ (HKS3.out _ q6) (fun hHeld1 => ?_)
            clear hK K0
            try simp only [Act.put, List.setIfInBounds_toArray, List.set_cons_zero, List.set_cons_succ]
            refine wpAnyH_ready (rs := [14]) (by kernel_rfl) (by simp) ?_
            refine AllReadyH.cons (o := _) rfl (fun K0 hK => ?_) AllReadyH.nil
            go_simp
            refine (HS6.out).mono ?_
            rintro e ww ⟨rfl, hw⟩
            rw [hw]
            clear hw
            go_wp2_with fail
            refine hK.out _ _ (HKS3.out _ q7) (fun hHeld2 => ?_)
            clear hK K0
            try simp only [Act.put, List.setIfInBounds_toArray, List.set_cons_zero, List.set_cons_succ]
            refine wpAnyH_ready (rs := [15]) (by kernel_rfl) (by simp) ?_
            refine AllReadyH.cons (o := _) rfl (fun K0 hK => ?_) AllReadyH.nil
            go_simp
            go_wp2_with fail
            refine hK.out _ _ (HKS3.out _ q8) (fun hHeld3 => ?_)
            clear hK K0
            try simp only [Act.put, List.setIfInBounds_toArray, List.set_cons_zero, List.set_cons_succ]
            refine wpAnyH_ready (rs := [16]) (by kernel_rfl) (by simp) ?_
            refine AllReadyH.cons (o := _) rfl (fun K0 hK => ?_) AllReadyH.nil
            go_simp
            refine (HS8x.out).mono ?_
            rintro e ww ⟨rfl, hw⟩
            rw [hw]
            clear hw
            go_wp2_with fail
            refine hK.out _ _ (HKS3.out _ q9) (fun hHeld4 => ?_)
            clear hK K0
            try simp only [Act.put, List.setIfInBounds_toArray, List.set_cons_zero, List.set_cons_succ]
            refine wpAnyH_ready (rs := [17]) (by kernel_rfl) (by simp) ?_
            refine AllReadyH.cons (o := _) rfl (fun K0 hK => ?_) AllReadyH.nil
            go_simp
            go_wp2_with fail
            refine hK.out _ _ (HKS3.out _ q10) (fun hHeld5 => ?_)
            clear hK K0
            try simp only [Act.put, List.setIfInBounds_toArray, List.set_cons_zero, List.set_cons_succ]
            refine wpAnyH_ready (rs := [18]) (by kernel_rfl) (by simp) ?_
            refine AllReadyH.cons (o := _) rfl (fun K0 hK => ?_) AllReadyH.nil
            refine step_apr 32 194 rfl rfl _ _ rfl _ _ rfl rfl hrun ?_
            refine hK.out _ _ (HKS3.out _ q11) (fun hHeld6 => ?_)
            clear hK K0 hrun
            try simp only [Act.put, List.setIfInBounds_toArray, List.set_cons_zero, List.set_cons_succ]
            refine take_at 19 28 (.slice (some ⟨gx, 0, none⟩) (i + 1) cx2) rfl rfl (by kernel_rfl) (by kernel_rfl) (by kernel_rfl) (fun _ _ _ h => h) (Or.inl ⟨by rfl, fun w hSw => by (try dsimp only at hSw); go_simp⟩) (by assumption) ?_
            simp only [Act.put, List.setIfInBounds_toArray, List.set_cons_zero, List.set_cons_succ]
            refine wpAnyH_done (by kernel_rfl) ?_ _
            clear q5 q6 q7 q8 q9 q10 q11 HB4 HB5 HB6 HB7 HB8 HB9 HB10 HO4 HO5 HO6 HO7 HO8 HO9x HOa HS6 HS8x HKS3 hHeld hHeld1 hHeld2 hHeld3 hHeld4 hHeld5 hHeld6 hm3
            go_wp2_with fail
            have hii := HI.out
            rw [← hi1.out] at HO11
            refine ⟨⟨i + 1, some ⟨gk, 0, none⟩, some ⟨gx, 0, none⟩, ck2, cx2, o6x, ks ++ [K], xq ++ [xn], by omega, by rw [hi1.out], rfl, by go_num, HB11, ⟨HO11.out.1, HO11.out.2.1, fun g hg => by cases hg; exact fun e => HO11.out.2.2 e.symm⟩, ⟨⟨by rw [List.length_append, HLS.out.1.1]; rfl, by rw [List.length_append, HLS.out.1.2.1]; rfl, fun t ht => ?_⟩, fun hb t ht => ?_⟩, HOI8⟩, ?_⟩
            · by_cases e : t = i
              · subst e
                rw [getD_last _ _ HLS.out.1.1, getD_last _ _ HLS.out.1.2.1]
                exact ⟨HKc.out.2, HM2.out.1⟩
              · rw [getD_init _ _ (by rw [HLS.out.1.1]; omega), getD_init _ _ (by rw [HLS.out.1.2.1]; omega)]
                exact HLS.out.1.2.2 t (by omega)
            · by_cases e : t = i
              · subst e
                rw [getD_last _ _ HLS.out.1.1, getD_last _ _ HLS.out.1.2.1]
                exact ⟨HKB.out hb, HM2.out.2 hb⟩
              · rw [getD_init _ _ (by rw [HLS.out.1.1]; omega), getD_init _ _ (by rw [HLS.out.1.2.1]; omega)]
                exact HLS.out.2 hb t (by omega)
            · simp [intOf]; omega
          · obtain rfl : n = i := by omega
            obtain ⟨A0, hA0⟩ : ∃ t, Hid (fa 0 = t) := ⟨_, rfl⟩
            have HA0 : Hid (A0 < 18446744073709551616 ∧ (B = true → A0 = sS 0)) := ⟨by rw [← hA0.out]; exact HA0L.out, fun hb => by rw [← hA0.out]; exact HS00.out hb⟩
            have HKS2 : Hid (∀ W, Hid (∃ q, Stp wS.heap.size b q wS W) → W.cell? ⟨ga, 0, none⟩ = some (.float .f64 A0) ∧ Hid (∃ q, Stp wS.heap.size b q wS W)) := fun W hW => by
              obtain ⟨q, hq⟩ := hW.out
              obtain ⟨_, _, _, _, _, k2, _, _⟩ := HKX.out _ _ hq
              exact ⟨by rw [← hA0.out]; exact k2 0 z0, hW⟩
            have HB0 := hid (HT.out.step (Below.refl _ _).drew HT.out.size)
            have HO0 := hid (And.intro (owns_keepr HOW.out.1 ((Below.refl _ _).drew)) (owns_keepr HOW.out.2.1 ((Below.refl _ _).drew)))
            have HM1 : Hid (arF .mul Y Y wr.drew < 18446744073709551616 ∧ canonOf (arF .mul Y Y wr.drew) = caf .mul (yU hs zs n z) (yU hs zs n z)) := ⟨arF_lt ok_m _ _ _, by rw [canon_ar ok_m _ _ _ HY.out.2 HY.out.2, HY.out.1]⟩
            have bl1 := bl_ar (Below.refl wr.drew.heap.size wr.drew) .mul Y Y
            have HB1 := hid (HB0.out.step bl1 HB0.out.size)
            have HO1 := hid (And.intro (owns_keepr HO0.out.1 bl1) (owns_keepr HO0.out.2 bl1))
            obtain ⟨yy, hyy⟩ : ∃ t, Hid (arF .mul Y Y wr.drew = t) := ⟨_, rfl⟩
            obtain ⟨e1, he1⟩ : ∃ t, Hid (arG .mul Y Y wr.drew = t) := ⟨_, rfl⟩
            rw [hyy.out] at HM1
            rw [he1.out] at HB1 HO1
            have hyy' := hyy.out
            have he1' := he1.out
            have HS1 := hid (stepF b o3 yy _ e1 HM1.out.1 HM1.out.2 HB1.out.box)
            have HOI1 := hid (HOI.out.same (c := caf .mul (yU hs zs n z) (yU hs zs n z)) (C := caf .mul (yU hs zs n z) (yU hs zs n z)) HFB.out (fun _ => rfl) (fun h => (HFSC.out h).1))
            obtain ⟨o4, ho4⟩ : ∃ t, Hid ((o3 || !finB (caf .mul (yU hs zs n z) (yU hs zs n z))) = t) := ⟨_, rfl⟩
            rw [ho4.out] at HS1 HOI1
            have HB2 := hid (HB1.out.s o4)
            have HO2 := hid (And.intro (owns_sets HO1.out.1 HB1.out.box (.bool o4)) (owns_sets HO1.out.2 HB1.out.box (.bool o4)))
            obtain ⟨e2, he2⟩ : ∃ t, Hid (e1.setCell ⟨b, 0, none⟩ (.bool o4) = t) := ⟨_, rfl⟩
            rw [he2.out] at HS1 HB2 HO2
            have HSC : Hid (canonOf (quF yy A0 e2) = caf .quo yy A0 ∧ quF yy A0 e2 < 18446744073709551616) := ⟨canon_qu _ _ _, quF_lt _ _ _⟩
            have bl3 := bl_qu (Below.refl e2.heap.size e2) yy A0
            have HB3 := hid (HB2.out.step bl3 HB2.out.size)
            have HO3 := hid (And.intro (owns_keepr HO2.out.1 bl3) (owns_keepr HO2.out.2 bl3))
            obtain ⟨SC, hSC⟩ : ∃ t, Hid (quF yy A0 e2 = t) := ⟨_, rfl⟩
            obtain ⟨e3, he3⟩ : ∃ t, Hid (quG yy A0 e2 = t) := ⟨_, rfl⟩
            rw [hSC.out] at HSC
            rw [he3.out] at HB3 HO3
            have hSC' := hSC.out
            have he3' := he3.out
            have HSB : Hid (B = true → canonOf SC = scU f hs zs n x z) := fun hb => by rw [HSC.out.1, quo_canon yy A0 HM1.out.1 HA0.out.1, HM1.out.2, HA0.out.2 hb, HSD.out]
            have HS3 := hid (stepF b o4 SC (caf .quo yy A0) e3 HSC.out.2 HSC.out.1 HB3.out.box)
            have HOI3 := hid (HOI1.out.step (c := caf .quo yy A0) (C := scU f hs zs n x z) (P' := ((∀ a c, a < n → c ≤ a → finB (oC f vV sS n a c) = true) ∧ ∀ t, t < n → finB (xU f hs zs n x z t) = true) ∧ finB (scU f hs zs n x z) = true) HFB.out (fun hb => by rw [← HSC.out.1]; exact HSB.out hb) (fun h => (HFSC.out h).2) (fun h hf => ⟨h, hf⟩))
            obtain ⟨o5, ho5⟩ : ∃ t, Hid ((o4 || !finB (caf .quo yy A0)) = t) := ⟨_, rfl⟩
            rw [ho5.out] at HS3 HOI3
            have HB4 := hid (HB3.out.s o5)
            have HO4 := hid (And.intro (owns_sets HO3.out.1 HB3.out.box (.bool o5)) (owns_sets HO3.out.2 HB3.out.box (.bool o5)))
            obtain ⟨e4, he4⟩ : ∃ t, Hid (e3.setCell ⟨b, 0, none⟩ (.bool o5) = t) := ⟨_, rfl⟩
            rw [he4.out] at HS3 HB4 HO4
            have q0 : Hid (∃ q, Stp wS.heap.size b q wS wr.drew) := ⟨_, HB0.out⟩
            have q1 : Hid (∃ q, Stp wS.heap.size b q wS e1) := ⟨_, HB1.out⟩
            have q2 : Hid (∃ q, Stp wS.heap.size b q wS e2) := ⟨_, HB2.out⟩
            have q3 : Hid (∃ q, Stp wS.heap.size b q wS e3) := ⟨_, HB3.out⟩
            have q4 : Hid (∃ q, Stp wS.heap.size b q wS e4) := ⟨_, HB4.out⟩
            clear bl1 bl3
            go_wp2_with fail
            refine wp_region_held_drew (S := fun W => W.cell? ⟨ga, 0, none⟩ = some (.float .f64 A0) ∧ Hid (∃ q, Stp wS.heap.size b q wS W)) (by kernel_rfl) (HKS2.out _ q0) (fun hHeld => ?_)
            refine take_at 0 195 (.pointer (some ⟨b, 0, none⟩)) rfl rfl (by kernel_rfl) (by kernel_rfl) (by kernel_rfl) (fun _ _ _ h => h) (Or.inl ⟨by rfl, fun w hSw => by (try dsimp only at hSw); go_simp⟩) (by assumption) ?_
            simp only [Act.put, List.setIfInBounds_toArray, List.set_cons_zero, List.set_cons_succ]
            refine take_at 1 196 (.pointer (some ⟨b, 0, none⟩)) rfl rfl (by kernel_rfl) (by kernel_rfl) (by kernel_rfl) (fun _ _ _ h => h) (Or.inl ⟨by rfl, fun w hSw => by (try dsimp only at hSw); go_simp⟩) (by assumption) ?_
            simp only [Act.put, List.setIfInBounds_toArray, List.set_cons_zero, List.set_cons_succ]
            refine take_at 2 197 (.float .f64 Y) rfl rfl (by kernel_rfl) (by kernel_rfl) (by kernel_rfl) (fun _ _ _ h => h) (Or.inl ⟨by rfl, fun w hSw => by (try dsimp only at hSw); go_simp⟩) (by assumption) ?_
            simp only [Act.put, List.setIfInBounds_toArray, List.set_cons_zero, List.set_cons_succ]
            refine take_at 3 198 (.float .f64 Y) rfl rfl (by kernel_rfl) (by kernel_rfl) (by kernel_rfl) (fun _ _ _ h => h) (Or.inl ⟨by rfl, fun w hSw => by (try dsimp only at hSw); go_simp⟩) (by assumption) ?_
            simp only [Act.put, List.setIfInBounds_toArray, List.set_cons_zero, List.set_cons_succ]
            refine take_at 6 201 (.slice (some ⟨ga, 0, none⟩) N1 N1) rfl rfl (by kernel_rfl) (by kernel_rfl) (by kernel_rfl) (fun _ _ _ h => h) (Or.inl ⟨by rfl, fun w hSw => by (try dsimp only at hSw); go_simp⟩) (by assumption) ?_
            simp only [Act.put, List.setIfInBounds_toArray, List.set_cons_zero, List.set_cons_succ]
            refine take_at 7 202 (.pointer (some ⟨ga, 0, none⟩)) rfl rfl (by kernel_rfl) (by kernel_rfl) (by kernel_rfl) (fun _ _ _ h => h) (Or.inl ⟨by rfl, fun w hSw => by (try dsimp only at hSw); go_simp⟩) (by assumption) ?_
            simp only [Act.put, List.setIfInBounds_toArray, List.set_cons_zero, List.set_cons_succ]
            refine take_at 8 203 (.float .f64 A0) rfl rfl (by kernel_rfl) (by kernel_rfl) (by kernel_rfl) (fun _ _ _ h => h) (Or.inl ⟨by rfl, fun w hSw => by (try dsimp only at hSw); go_simp⟩) (by assumption) ?_
            simp only [Act.put, List.setIfInBounds_toArray, List.set_cons_zero, List.set_cons_succ]
            refine wpAnyH_ready (rs := [4]) (by kernel_rfl) (by simp) ?_
            refine AllReadyH.cons (o := _) rfl (fun K0 hK => ?_) AllReadyH.nil
            go_simp
            go_wp2_with fail
            refine hK.out _ _ (HKS2.out _ q1) (fun hHeld1 => ?_)
            clear hK K0
            try simp only [Act.put, List.setIfInBounds_toArray, List.set_cons_zero, List.set_cons_succ]
            refine wpAnyH_ready (rs := [5]) (by kernel_rfl) (by simp) ?_
            refine AllReadyH.cons (o := _) rfl (fun K0 hK => ?_) AllReadyH.nil
            go_simp
            refine (HS1.out).mono ?_
            rintro e ww ⟨rfl, hw⟩
            rw [hw]
            clear hw
            go_wp2_with fail
            refine hK.out _ _ (HKS2.out _ q2) (fun hHeld2 => ?_)
            clear hK K0
            try simp only [Act.put, List.setIfInBounds_toArray, List.set_cons_zero, List.set_cons_succ]
            refine wpAnyH_ready (rs := [9]) (by kernel_rfl) (by simp) ?_
            refine AllReadyH.cons (o := _) rfl (fun K0 hK => ?_) AllReadyH.nil
            go_simp
            go_wp2_with fail
            refine hK.out _ _ (HKS2.out _ q3) (fun hHeld3 => ?_)
            clear hK K0
            try simp only [Act.put, List.setIfInBounds_toArray, List.set_cons_zero, List.set_cons_succ]
            refine wpAnyH_ready (rs := [10]) (by kernel_rfl) (by simp) ?_
            refine AllReadyH.cons (o := _) rfl (fun K0 hK => ?_) AllReadyH.nil
            go_simp
            refine (HS3.out).mono ?_
            rintro e ww ⟨rfl, hw⟩
            rw [hw]
            clear hw
            go_wp2_with fail
            refine hK.out _ _ (HKS2.out _ q4) (fun hHeld4 => ?_)
            clear hK K0
            try simp only [Act.put, List.setIfInBounds_toArray, List.set_cons_zero, List.set_cons_succ]
            refine take_at 11 30 (.float .f64 SC) rfl rfl (by kernel_rfl) (by kernel_rfl) (by kernel_rfl) (fun _ _ _ h => h) (Or.inl ⟨by rfl, fun w hSw => by (try dsimp only at hSw); go_simp⟩) (by assumption) ?_
            simp only [Act.put, List.setIfInBounds_toArray, List.set_cons_zero, List.set_cons_succ]
            refine wpAnyH_done (by kernel_rfl) ?_ _
            clear q0 q1 q2 q3 q4 HB0 HB1 HB2 HB3 HO0 HO1 HO2 HO3 HS1 HS3 HKS2 hHeld hHeld1 hHeld2 hHeld3 hHeld4 HT HOW
            obtain ⟨ob, _⟩ := sbx_of HB4.out.box
            obtain ⟨k0, k1, k2, km, _, ka2, kl, kb⟩ := HKX.out _ _ HB4.out
            have HKB4 := hid kb
            cases o5 with
            | true =>
              have HNO : Hid (FN = false) := by
                show _ = _
                cases hfn : FN with
                | false => rfl
                | true => exact absurd (HOI3.out.1 hfn) (by decide)
              have HE5 : Hid (updE f hs zs n x z = 5) := by show _ = _; rw [updE_is, hFN.out, HNO.out]; rfl
              obtain ⟨c0, c1, c2, c3⟩ := rcells_of k1
              obtain ⟨d0, d1, d2, d3⟩ := scells_of k2
              have fz1 := rfrz k1
              have fz2 := sfrz k2
              clear k0 k1 k2 km ka2 kl kb
              go_wp2_with fail
              refine bodyPost_ret (v := .tuple #[.agg #[.slice none 0 0, .int .i64 0, .int .i64 0, .slice none 0 0], .agg #[.float .f64 0, .float .f64 0, .float .f64 0, .slice none 0 0], .int .i64 5]) (by simp [results, Try.results13, go_sem, c0, c1, c2, c3, d0, d1, d2, d3]) rfl ⟨by rw [HFT.out, HE5.out]; exact Or.inr ⟨by decide, rfl⟩, ?_⟩
              first | exact ssto_below (rsto_below HKB4.out HPW.out.2.1 _ _ _ _) HPW.out.2.2.1 _ _ _ _ | (rw [← hp0.out]; exact ssto_below (rsto_below HKB4.out HPW.out.2.1 _ _ _ _) HPW.out.2.2.1 _ _ _ _) | (have hh := ssto_below (rsto_below HKB4.out HPW.out.2.1 _ _ _ _) HPW.out.2.2.1 _ _ _ _; rw [hp0.out] at hh; exact hh)
            | false =>
              obtain ⟨hb, ⟨hl, hxx⟩, hsc⟩ := HOI3.out.2 rfl
              have HBT := hid hb
              have HFN : Hid (updB f hs zs n x z = true) := upd_of (by rw [hB.out]; exact hb) (fun i j hi hj => by rw [hsS.out, hvV.out]; exact hl i j hi hj) hxx hsc
              have HEE : Hid (updE f hs zs n x z = if diagB n (oU f hs n x) = true then 0 else 93) := by show _ = _; rw [updE_is, if_pos HFN.out]
              have HLO := hid (HCW.out hb).1
              have HLE : Hid (∀ k, k < n * n → canonOf (lo k) = oU f hs n x k ∧ lo k < 18446744073709551616) := fun k hk => by
                obtain ⟨s1, s2, s3⟩ := split_k hk
                have h := HLO.out _ _ s1 s2
                rw [s3] at h
                refine ⟨?_, h.1⟩
                unfold oU
                by_cases c : k % n ≤ k / n
                · rw [if_pos c, h.2.1 ⟨c, Or.inl (Nat.zero_le _)⟩, ← hsS.out, ← hvV.out]
                · rw [if_neg c, h.2.2 (fun q => c q.1)]; decide
              have HFO : Hid (finF (n * n) (oU f hs n x) = true) := by have := HFN.out; unfold updB at this; simp only [Bool.and_eq_true] at this; exact this.2.1.1
              have HFLo : Hid (finF NN lo = true) := by show _ = _; rw [← hNN.out, finF_canon (fun k hk => (HLE.out k hk).1)]; exact HFO.out
              have HDG : Hid (diagB n lo = diagB n (oU f hs n x)) := lo_diag (fun k hk => (HLE.out k hk).1) (by rw [hNN.out]; exact HFLo.out)
              have HFNL : Hid (FnM e4 (some ⟨gl, 0, none⟩) NN NN lo) := Or.inr ⟨gl, 0, rfl, kl.lt, Nat.le_refl _, by rw [← hNN.out]; have := Nat.mul_le_mul HN.out HN.out; omega, fun k hk => ⟨by rw [Nat.zero_add]; exact kl.cell hk, (HLE.out k (by rw [hNN.out]; exact hk)).2⟩⟩
              have HEN := hid (rEnded n NN NN cx sx (some ⟨gl, 0, none⟩) lo e4 HFNL.out HNw.out HN.out HFLo.out)
              rw [HDG.out] at HEN
              obtain ⟨m0, m1, m2⟩ := mcells_of km
              have HK1 := hid k1
              have HK2 := hid k2
              have HKA : Hid (e4.cell? ⟨ga, 0, none⟩ = some (.float .f64 A0)) := by have := ka2 0 z0; rw [hA0.out] at this; exact this
              have HGA : Hid (ga < e4.heap.size) := by
                rcases Nat.lt_or_ge ga e4.heap.size with h | h
                · exact h
                · have h1 := HKA.out; have h2 : e4.heap[ga]? = none := Array.getElem?_eq_none h; unfold World.cell? at h1; simp [h2] at h1
              have HKF := hid (own_fnr HO4.out.1 HLS.out.1.1 (fun t ht => (HLS.out.1.2.2 t ht).1) (by have := HN.out; omega))
              have HXF := hid (own_fnr HO4.out.2 HLS.out.1.2.1 (fun t ht => (HLS.out.1.2.2 t ht).2) (by have := HN.out; omega))
              have HKBb : Hid (∀ g o, sk = some ⟨g, o, none⟩ → wS.heap.size ≤ g) := fun g o e => (World.ownsRow.lt HO4.out.1 g (by rw [e]; rfl)).1
              have HXB : Hid (∀ g o, sx = some ⟨g, o, none⟩ → wS.heap.size ≤ g) := fun g o e => (World.ownsRow.lt HO4.out.2 g (by rw [e]; rfl)).1
              clear hb hl hxx hsc k0 k1 k2 km ka2 kl kb
              obtain ⟨D, hD⟩ : ∃ t, Hid (diagB n (oU f hs n x) = t) := ⟨_, rfl⟩
              rw [hD.out] at HEN HEE
              cases D with
              | false =>
                have HEN : Hid (Calls Try.prog 40 #[.slice sx n cx, .agg #[.int .i64 n, .int .i64 n, .slice (some ⟨gl, 0, none⟩) NN NN]] e4 fun e w' => e = .returned (.tuple #[.agg #[.slice none 0 0, .int .i64 0, .int .i64 0, .slice none 0 0], .int .i64 93]) ∧ Below e4.heap.size e4 w') := HEN.out
                go_wp2_with fail
                refine HEN.out.mono ?_
                rintro e e5 ⟨rfl, hb5⟩
                have al5 : Below e5.heap.size e5 (e5.alloc (RBox none 0 0 0 0 none 0 0)) := (Below.refl _ _).alloc (Nat.le_refl _) _
                have b56 := hb5.trans (al5.mono hb5.size)
                have H6 := hid (blkM HK1.out b56)
                have H7 := hid (blkM HK2.out b56)
                have H8 := hid (nblkM e5 (RBox none 0 0 0 0 none 0 0))
                have HB6 := hid (HKB4.out.trans (b56.mono HKB4.out.size))
                have HKF6 := hid (HKF.out.below b56)
                have HXF6 := hid (HXF.out.below b56)
                have HLF6 := hid (HFNL.out.below b56)
                have HA6 : Hid ((e5.alloc (RBox none 0 0 0 0 none 0 0)).cell? ⟨ga, 0, none⟩ = some (.float .f64 A0)) := (b56.cell (p := ⟨ga, 0, none⟩) HGA.out).trans HKA.out
                obtain ⟨e6, he6⟩ : ∃ t, Hid (e5.alloc (RBox none 0 0 0 0 none 0 0) = t) := ⟨_, rfl⟩
                obtain ⟨p5, hp5⟩ : ∃ t, Hid (e5.heap.size = t) := ⟨_, rfl⟩
                rw [he6.out] at H6 H7 H8 HB6 HKF6 HXF6 HLF6 HA6
                rw [hp5.out] at H8
                have he6' := he6.out
                unfold RBox at he6'
                have hp5' := hp5.out
                obtain ⟨x0, x1, x2, x3⟩ := rcells_of H8.out
                have HS56 : Hid (e4.heap.size ≤ p5) := by show _ ≤ _; rw [← hp5.out]; exact hb5.size
                clear hb5 al5 b56
                obtain ⟨c0, c1, c2, c3⟩ := rcells_of H6.out
                obtain ⟨d0, d1, d2, d3⟩ := scells_of H7.out
                have fz1 := rfrz H6.out
                have fz2 := sfrz H7.out
                have hw5z := rfrz H8.out
                obtain ⟨sm0, sm1, sm2, sm3⟩ := rsame H8.out
                go_wp2_with fail
                refine bodyPost_ret (v := .tuple #[.agg #[.slice none 0 0, .int .i64 0, .int .i64 0, .slice none 0 0], .agg #[.float .f64 0, .float .f64 0, .float .f64 0, .slice none 0 0], .int .i64 93]) (by simp [results, Try.results13, go_sem, c0, c1, c2, c3, d0, d1, d2, d3]) rfl ⟨by rw [HFT.out, HEE.out]; exact Or.inr ⟨by decide, rfl⟩, ?_⟩
                first | exact ssto_below (rsto_below HB6.out HPW.out.2.1 _ _ _ _) HPW.out.2.2.1 _ _ _ _ | (rw [← hp0.out]; exact ssto_below (rsto_below HB6.out HPW.out.2.1 _ _ _ _) HPW.out.2.2.1 _ _ _ _) | (have hh := ssto_below (rsto_below HB6.out HPW.out.2.1 _ _ _ _) HPW.out.2.2.1 _ _ _ _; rw [hp0.out] at hh; exact hh)
              | true =>
                have HEN : Hid (Calls Try.prog 40 #[.slice sx n cx, .agg #[.int .i64 n, .int .i64 n, .slice (some ⟨gl, 0, none⟩) NN NN]] e4 fun e w' => e = .returned (.tuple #[.agg #[.slice sx n cx, .int .i64 n, .int .i64 n, .slice (some ⟨gl, 0, none⟩) NN NN], .int .i64 0]) ∧ Below e4.heap.size e4 w') := HEN.out
                go_wp2_with fail
                refine HEN.out.mono ?_
                rintro e e5 ⟨rfl, hb5⟩
                have al5 : Below e5.heap.size e5 (e5.alloc (RBox sx n cx n n (some ⟨gl, 0, none⟩) NN NN)) := (Below.refl _ _).alloc (Nat.le_refl _) _
                have b56 := hb5.trans (al5.mono hb5.size)
                have H6 := hid (blkM HK1.out b56)
                have H7 := hid (blkM HK2.out b56)
                have H8 := hid (nblkM e5 (RBox sx n cx n n (some ⟨gl, 0, none⟩) NN NN))
                have HB6 := hid (HKB4.out.trans (b56.mono HKB4.out.size))
                have HKF6 := hid (HKF.out.below b56)
                have HXF6 := hid (HXF.out.below b56)
                have HLF6 := hid (HFNL.out.below b56)
                have HA6 : Hid ((e5.alloc (RBox sx n cx n n (some ⟨gl, 0, none⟩) NN NN)).cell? ⟨ga, 0, none⟩ = some (.float .f64 A0)) := (b56.cell (p := ⟨ga, 0, none⟩) HGA.out).trans HKA.out
                obtain ⟨e6, he6⟩ : ∃ t, Hid (e5.alloc (RBox sx n cx n n (some ⟨gl, 0, none⟩) NN NN) = t) := ⟨_, rfl⟩
                obtain ⟨p5, hp5⟩ : ∃ t, Hid (e5.heap.size = t) := ⟨_, rfl⟩
                rw [he6.out] at H6 H7 H8 HB6 HKF6 HXF6 HLF6 HA6
                rw [hp5.out] at H8
                have he6' := he6.out
                unfold RBox at he6'
                have hp5' := hp5.out
                obtain ⟨x0, x1, x2, x3⟩ := rcells_of H8.out
                have HS56 : Hid (e4.heap.size ≤ p5) := by show _ ≤ _; rw [← hp5.out]; exact hb5.size
                clear hb5 al5 b56
                obtain ⟨c0, c1, c2, c3⟩ := rcells_of H6.out
                obtain ⟨d0, d1, d2, d3⟩ := scells_of H7.out
                have fz1 := rfrz H6.out
                have fz2 := sfrz H7.out
                have HA6c := HA6.out
                have hP12 : Hid (p1 ≠ p2 ∧ gl ≠ p1 ∧ gl ≠ p2) := by have := HGN.out; show _ ∧ _ ∧ _; omega
                go_wp2_with fail
                have HNP : Hid (p5 ≠ p1 ∧ p5 ≠ p2 ∧ ga ≠ p1 ∧ ga ≠ p2 ∧ p1 ≠ p2) := by
                  have h1 := (Array.getElem?_eq_some_iff.1 HK1.out).1
                  have h2 := (Array.getElem?_eq_some_iff.1 HK2.out).1
                  have h3 := HS56.out
                  have h4 := HGN.out
                  exact ⟨Nat.ne_of_gt (Nat.lt_of_lt_of_le h1 h3), Nat.ne_of_gt (Nat.lt_of_lt_of_le h2 h3), Nat.ne_of_gt (Nat.lt_trans h4.2.1 (Nat.lt_trans h4.2.2.1 h4.2.2.2.2.1)), Nat.ne_of_gt (Nat.lt_trans h4.2.2.1 h4.2.2.2.2.1), Nat.ne_of_lt h4.2.1⟩
                have HKS3 : Hid (∀ W : World, Hid (W.heap[p5]? = some (RBox sx n cx n n (some ⟨gl, 0, none⟩) NN NN) ∧ W.cell? ⟨ga, 0, none⟩ = some (.float .f64 A0)) → (W.cell? ⟨p5, 0, none⟩ = some (.slice sx n cx) ∧ W.cell? ⟨p5, 1, none⟩ = some (.int .i64 n) ∧ W.cell? ⟨p5, 2, none⟩ = some (.int .i64 n) ∧ W.cell? ⟨p5, 3, none⟩ = some (.slice (some ⟨gl, 0, none⟩) NN NN) ∧ W.cell? ⟨ga, 0, none⟩ = some (.float .f64 A0)) ∧ Hid (W.heap[p5]? = some (RBox sx n cx n n (some ⟨gl, 0, none⟩) NN NN) ∧ W.cell? ⟨ga, 0, none⟩ = some (.float .f64 A0))) := fun W hW => by
                  obtain ⟨a0, a1, a2, a3⟩ := rcells_of hW.out.1
                  exact ⟨⟨a0, a1, a2, a3, hW.out.2⟩, hW⟩
                have G0 : Hid (e6.drew.heap[p5]? = some (RBox sx n cx n n (some ⟨gl, 0, none⟩) NN NN) ∧ e6.drew.cell? ⟨ga, 0, none⟩ = some (.float .f64 A0)) := ⟨H8.out, HA6.out⟩
                refine wp_region_held_drew (S := fun W => (W.cell? ⟨p5, 0, none⟩ = some (.slice sx n cx) ∧ W.cell? ⟨p5, 1, none⟩ = some (.int .i64 n) ∧ W.cell? ⟨p5, 2, none⟩ = some (.int .i64 n) ∧ W.cell? ⟨p5, 3, none⟩ = some (.slice (some ⟨gl, 0, none⟩) NN NN) ∧ W.cell? ⟨ga, 0, none⟩ = some (.float .f64 A0)) ∧ Hid (W.heap[p5]? = some (RBox sx n cx n n (some ⟨gl, 0, none⟩) NN NN) ∧ W.cell? ⟨ga, 0, none⟩ = some (.float .f64 A0))) (by kernel_rfl) (HKS3.out _ G0) (fun hHeld => ?_)
                obtain ⟨v0, hv0⟩ : ∃ t, Hid (e6.drew = t) := ⟨_, rfl⟩
                rw [hv0.out] at hHeld ⊢
                refine take_at 0 223 (.agg #[.slice sx n cx, .int .i64 n, .int .i64 n, .slice (some ⟨gl, 0, none⟩) NN NN]) rfl rfl (by kernel_rfl) (by kernel_rfl) (by kernel_rfl) (fun _ _ _ h => h) (Or.inl ⟨by rfl, fun w hSw => by (try dsimp only at hSw); go_simp⟩) (by assumption) ?_
                simp only [Act.put, List.setIfInBounds_toArray, List.set_cons_zero, List.set_cons_succ]
                refine take_at 1 224 (.float .f64 Y) rfl rfl (by kernel_rfl) (by kernel_rfl) (by kernel_rfl) (fun _ _ _ h => h) (Or.inl ⟨by rfl, fun w hSw => by (try dsimp only at hSw); go_simp⟩) (by assumption) ?_
                simp only [Act.put, List.setIfInBounds_toArray, List.set_cons_zero, List.set_cons_succ]
                refine take_at 2 225 (.slice (some ⟨ga, 0, none⟩) N1 N1) rfl rfl (by kernel_rfl) (by kernel_rfl) (by kernel_rfl) (fun _ _ _ h => h) (Or.inl ⟨by rfl, fun w hSw => by (try dsimp only at hSw); go_simp⟩) (by assumption) ?_
                simp only [Act.put, List.setIfInBounds_toArray, List.set_cons_zero, List.set_cons_succ]
                refine take_at 3 226 (.pointer (some ⟨ga, 0, none⟩)) rfl rfl (by kernel_rfl) (by kernel_rfl) (by kernel_rfl) (fun _ _ _ h => h) (Or.inl ⟨by rfl, fun w hSw => by (try dsimp only at hSw); go_simp⟩) (by assumption) ?_
                simp only [Act.put, List.setIfInBounds_toArray, List.set_cons_zero, List.set_cons_succ]
                refine take_at 4 227 (.float .f64 A0) rfl rfl (by kernel_rfl) (by kernel_rfl) (by kernel_rfl) (fun _ _ _ h => h) (Or.inl ⟨by rfl, fun w hSw => by (try dsimp only at hSw); go_simp⟩) (by assumption) ?_
                simp only [Act.put, List.setIfInBounds_toArray, List.set_cons_zero, List.set_cons_succ]
                refine take_at 5 228 (.float .f64 SC) rfl rfl (by kernel_rfl) (by kernel_rfl) (by kernel_rfl) (fun _ _ _ h => h) (Or.inl ⟨by rfl, fun w hSw => by (try dsimp only at hSw); go_simp⟩) (by assumption) ?_
                simp only [Act.put, List.setIfInBounds_toArray, List.set_cons_zero, List.set_cons_succ]
                refine take_at 6 229 (.slice sk n ck) rfl rfl (by kernel_rfl) (by kernel_rfl) (by kernel_rfl) (fun _ _ _ h => h) (Or.inl ⟨by rfl, fun w hSw => by (try dsimp only at hSw); go_simp⟩) (by assumption) ?_
                simp only [Act.put, List.setIfInBounds_toArray, List.set_cons_zero, List.set_cons_succ]
                refine take_at 7 230 (.agg #[.float .f64 Y, .float .f64 A0, .float .f64 SC, .slice sk n ck]) rfl rfl (by kernel_rfl) (by kernel_rfl) (by kernel_rfl) (fun _ _ _ h => h) (Or.inl ⟨by rfl, fun w hSw => by (try dsimp only at hSw); go_simp⟩) (by assumption) ?_
                simp only [Act.put, List.setIfInBounds_toArray, List.set_cons_zero, List.set_cons_succ]
                have D1 : Hid (v0.heap[p1]? = some (RBox none 0 0 0 0 none 0 0)) := by rw [← hv0.out]; exact H6.out
                have D2 : Hid (v0.heap[p2]? = some (StBox 0 0 0 none 0 0)) := by rw [← hv0.out]; exact H7.out
                have H8v : Hid (v0.heap[p5]? = some (RBox sx n cx n n (some ⟨gl, 0, none⟩) NN NN)) := by rw [← hv0.out]; exact H8.out
                have HA6v : Hid (v0.cell? ⟨ga, 0, none⟩ = some (.float .f64 A0)) := by rw [← hv0.out]; exact HA6.out
                have HB6v : Hid (Below w.heap.size w v0) := by rw [← hv0.out]; exact HB6.out.drew
                have HXF6v : Hid (FnM v0 sx n cx (fun t => xq.getD t 0)) := by rw [← hv0.out]; exact HXF6.out
                have HKF6v : Hid (FnM v0 sk n ck (fun t => ks.getD t 0)) := by rw [← hv0.out]; exact HKF6.out
                have HLF6v : Hid (FnM v0 (some ⟨gl, 0, none⟩) NN NN lo) := by rw [← hv0.out]; exact HLF6.out
                obtain ⟨c0, c1, c2, c3⟩ := rcells_of D1.out
                have fz1 := rfrz D1.out
                have J1 : Hid (((((v0.setCell ⟨p1, 0, none⟩ (.slice sx n cx)).setCell ⟨p1, 1, none⟩ (.int .i64 n)).setCell ⟨p1, 2, none⟩ (.int .i64 n)).setCell ⟨p1, 3, none⟩ (.slice (some ⟨gl, 0, none⟩) NN NN)).heap[p1]? = some (RBox sx n cx n n (some ⟨gl, 0, none⟩) NN NN)) := rset4 D1.out
                have J2 : Hid (((((v0.setCell ⟨p1, 0, none⟩ (.slice sx n cx)).setCell ⟨p1, 1, none⟩ (.int .i64 n)).setCell ⟨p1, 2, none⟩ (.int .i64 n)).setCell ⟨p1, 3, none⟩ (.slice (some ⟨gl, 0, none⟩) NN NN)).heap[p2]? = some (StBox 0 0 0 none 0 0)) := by show _ = _; rw [set_keepM HNP.out.2.2.2.2.symm, set_keepM HNP.out.2.2.2.2.symm, set_keepM HNP.out.2.2.2.2.symm, set_keepM HNP.out.2.2.2.2.symm]; exact D2.out
                have G1 : Hid (((((v0.setCell ⟨p1, 0, none⟩ (.slice sx n cx)).setCell ⟨p1, 1, none⟩ (.int .i64 n)).setCell ⟨p1, 2, none⟩ (.int .i64 n)).setCell ⟨p1, 3, none⟩ (.slice (some ⟨gl, 0, none⟩) NN NN)).heap[p5]? = some (RBox sx n cx n n (some ⟨gl, 0, none⟩) NN NN) ∧ ((((v0.setCell ⟨p1, 0, none⟩ (.slice sx n cx)).setCell ⟨p1, 1, none⟩ (.int .i64 n)).setCell ⟨p1, 2, none⟩ (.int .i64 n)).setCell ⟨p1, 3, none⟩ (.slice (some ⟨gl, 0, none⟩) NN NN)).cell? ⟨ga, 0, none⟩ = some (.float .f64 A0)) := ⟨by rw [set_keepM HNP.out.1, set_keepM HNP.out.1, set_keepM HNP.out.1, set_keepM HNP.out.1]; exact H8v.out, (World.cell?_of_block (by show _ = v0.heap[ga]?; rw [set_keepM HNP.out.2.2.1, set_keepM HNP.out.2.2.1, set_keepM HNP.out.2.2.1, set_keepM HNP.out.2.2.1])).trans HA6v.out⟩
                have HB7 : Hid (Below w.heap.size w ((((v0.setCell ⟨p1, 0, none⟩ (.slice sx n cx)).setCell ⟨p1, 1, none⟩ (.int .i64 n)).setCell ⟨p1, 2, none⟩ (.int .i64 n)).setCell ⟨p1, 3, none⟩ (.slice (some ⟨gl, 0, none⟩) NN NN))) := rsto_below HB6v.out HPW.out.2.1 _ _ _ _
                have HX7 : Hid (FnM ((((v0.setCell ⟨p1, 0, none⟩ (.slice sx n cx)).setCell ⟨p1, 1, none⟩ (.int .i64 n)).setCell ⟨p1, 2, none⟩ (.int .i64 n)).setCell ⟨p1, 3, none⟩ (.slice (some ⟨gl, 0, none⟩) NN NN)) sx n cx (fun t => xq.getD t 0)) := FnM.sto4 HXF6v.out (fun g o e => Nat.ne_of_gt (Nat.lt_of_lt_of_le HGS.out.2.2.2.2.1 (HXB.out g o e))) _ _ _ _
                have HG7 : Hid (FnM ((((v0.setCell ⟨p1, 0, none⟩ (.slice sx n cx)).setCell ⟨p1, 1, none⟩ (.int .i64 n)).setCell ⟨p1, 2, none⟩ (.int .i64 n)).setCell ⟨p1, 3, none⟩ (.slice (some ⟨gl, 0, none⟩) NN NN)) sk n ck (fun t => ks.getD t 0)) := FnM.sto4 HKF6v.out (fun g o e => Nat.ne_of_gt (Nat.lt_of_lt_of_le HGS.out.2.2.2.2.1 (HKBb.out g o e))) _ _ _ _
                have HL7 : Hid (FnM ((((v0.setCell ⟨p1, 0, none⟩ (.slice sx n cx)).setCell ⟨p1, 1, none⟩ (.int .i64 n)).setCell ⟨p1, 2, none⟩ (.int .i64 n)).setCell ⟨p1, 3, none⟩ (.slice (some ⟨gl, 0, none⟩) NN NN)) (some ⟨gl, 0, none⟩) NN NN lo) := FnM.sto4 HLF6v.out (fun g o e => by cases e; exact Nat.ne_of_gt HPG.out.1) _ _ _ _
                obtain ⟨v1, hv1⟩ : ∃ t, Hid (((((v0.setCell ⟨p1, 0, none⟩ (.slice sx n cx)).setCell ⟨p1, 1, none⟩ (.int .i64 n)).setCell ⟨p1, 2, none⟩ (.int .i64 n)).setCell ⟨p1, 3, none⟩ (.slice (some ⟨gl, 0, none⟩) NN NN)) = t) := ⟨_, rfl⟩
                rw [hv1.out] at J1 J2 G1 HB7 HX7 HG7 HL7
                have hv1' := hv1.out
                have M2 : Hid (((((v1.setCell ⟨p2, 0, none⟩ (.float .f64 Y)).setCell ⟨p2, 1, none⟩ (.float .f64 A0)).setCell ⟨p2, 2, none⟩ (.float .f64 SC)).setCell ⟨p2, 3, none⟩ (.slice sk n ck)).heap[p2]? = some (StBox Y A0 SC sk n ck)) := sset4 J2.out
                have M1 : Hid (((((v1.setCell ⟨p2, 0, none⟩ (.float .f64 Y)).setCell ⟨p2, 1, none⟩ (.float .f64 A0)).setCell ⟨p2, 2, none⟩ (.float .f64 SC)).setCell ⟨p2, 3, none⟩ (.slice sk n ck)).heap[p1]? = some (RBox sx n cx n n (some ⟨gl, 0, none⟩) NN NN)) := by show _ = _; rw [set_keepM HNP.out.2.2.2.2, set_keepM HNP.out.2.2.2.2, set_keepM HNP.out.2.2.2.2, set_keepM HNP.out.2.2.2.2]; exact J1.out
                have G2 : Hid (((((v1.setCell ⟨p2, 0, none⟩ (.float .f64 Y)).setCell ⟨p2, 1, none⟩ (.float .f64 A0)).setCell ⟨p2, 2, none⟩ (.float .f64 SC)).setCell ⟨p2, 3, none⟩ (.slice sk n ck)).heap[p5]? = some (RBox sx n cx n n (some ⟨gl, 0, none⟩) NN NN) ∧ ((((v1.setCell ⟨p2, 0, none⟩ (.float .f64 Y)).setCell ⟨p2, 1, none⟩ (.float .f64 A0)).setCell ⟨p2, 2, none⟩ (.float .f64 SC)).setCell ⟨p2, 3, none⟩ (.slice sk n ck)).cell? ⟨ga, 0, none⟩ = some (.float .f64 A0)) := ⟨by rw [set_keepM HNP.out.2.1, set_keepM HNP.out.2.1, set_keepM HNP.out.2.1, set_keepM HNP.out.2.1]; exact G1.out.1, (World.cell?_of_block (by rw [set_keepM HNP.out.2.2.2.1, set_keepM HNP.out.2.2.2.1, set_keepM HNP.out.2.2.2.1, set_keepM HNP.out.2.2.2.1])).trans G1.out.2⟩
                have HB8 : Hid (Below w.heap.size w ((((v1.setCell ⟨p2, 0, none⟩ (.float .f64 Y)).setCell ⟨p2, 1, none⟩ (.float .f64 A0)).setCell ⟨p2, 2, none⟩ (.float .f64 SC)).setCell ⟨p2, 3, none⟩ (.slice sk n ck))) := ssto_below HB7.out HPW.out.2.2.1 _ _ _ _
                have HX8 : Hid (FnM ((((v1.setCell ⟨p2, 0, none⟩ (.float .f64 Y)).setCell ⟨p2, 1, none⟩ (.float .f64 A0)).setCell ⟨p2, 2, none⟩ (.float .f64 SC)).setCell ⟨p2, 3, none⟩ (.slice sk n ck)) sx n cx (fun t => xq.getD t 0)) := FnM.sto4 HX7.out (fun g o e => Nat.ne_of_gt (Nat.lt_of_lt_of_le HGS.out.2.2.2.2.2.1 (HXB.out g o e))) _ _ _ _
                have HG8 : Hid (FnM ((((v1.setCell ⟨p2, 0, none⟩ (.float .f64 Y)).setCell ⟨p2, 1, none⟩ (.float .f64 A0)).setCell ⟨p2, 2, none⟩ (.float .f64 SC)).setCell ⟨p2, 3, none⟩ (.slice sk n ck)) sk n ck (fun t => ks.getD t 0)) := FnM.sto4 HG7.out (fun g o e => Nat.ne_of_gt (Nat.lt_of_lt_of_le HGS.out.2.2.2.2.2.1 (HKBb.out g o e))) _ _ _ _
                have HL8 : Hid (FnM ((((v1.setCell ⟨p2, 0, none⟩ (.float .f64 Y)).setCell ⟨p2, 1, none⟩ (.float .f64 A0)).setCell ⟨p2, 2, none⟩ (.float .f64 SC)).setCell ⟨p2, 3, none⟩ (.slice sk n ck)) (some ⟨gl, 0, none⟩) NN NN lo) := FnM.sto4 HL7.out (fun g o e => by cases e; exact Nat.ne_of_gt HPG.out.2.1) _ _ _ _
                obtain ⟨v2, hv2⟩ : ∃ t, Hid (((((v1.setCell ⟨p2, 0, none⟩ (.float .f64 Y)).setCell ⟨p2, 1, none⟩ (.float .f64 A0)).setCell ⟨p2, 2, none⟩ (.float .f64 SC)).setCell ⟨p2, 3, none⟩ (.slice sk n ck)) = t) := ⟨_, rfl⟩
                rw [hv2.out] at M1 M2 G2 HB8 HX8 HG8 HL8
                have hv2' := hv2.out
                obtain ⟨d0, d1, d2, d3⟩ := scells_of J2.out
                have fz2 := sfrz J2.out
                clear J1 HB7 HX7 HG7 HL7
                refine wpAnyH_ready (rs := [8]) (by kernel_rfl) (by simp) ?_
                refine AllReadyH.cons (o := _) rfl (fun K0 hK => ?_) AllReadyH.nil
                go_simp
                go_wp2_with fail
                refine hK.out _ _ (HKS3.out _ G1) (fun hHeld1 => ?_)
                clear hK K0
                try simp only [Act.put, List.setIfInBounds_toArray, List.set_cons_zero, List.set_cons_succ]
                refine wpAnyH_ready (rs := [9]) (by kernel_rfl) (by simp) ?_
                refine AllReadyH.cons (o := _) rfl (fun K0 hK => ?_) AllReadyH.nil
                go_simp
                go_wp2_with fail
                refine hK.out _ _ (HKS3.out _ G2) (fun hHeld2 => ?_)
                clear hK K0
                try simp only [Act.put, List.setIfInBounds_toArray, List.set_cons_zero, List.set_cons_succ]
                refine take_at 10 10 (.int .i64 0) rfl rfl (by kernel_rfl) (by kernel_rfl) (by kernel_rfl) (fun _ _ _ h => h) (Or.inl ⟨by rfl, fun w hSw => by (try dsimp only at hSw); go_simp⟩) (by assumption) ?_
                simp only [Act.put, List.setIfInBounds_toArray, List.set_cons_zero, List.set_cons_succ]
                refine wpAnyH_done (by kernel_rfl) ?_ _
                obtain ⟨c0, c1, c2, c3⟩ := rcells_of M1.out
                obtain ⟨d0, d1, d2, d3⟩ := scells_of M2.out
                clear hHeld hHeld1 hHeld2 G0 G1 G2
                go_wp2_with fail
                refine bodyPost_ret (v := .tuple #[.agg #[.slice sx n cx, .int .i64 n, .int .i64 n, .slice (some ⟨gl, 0, none⟩) NN NN], .agg #[.float .f64 Y, .float .f64 A0, .float .f64 SC, .slice sk n ck], .int .i64 0]) (by simp [results, Try.results13, go_sem, c0, c1, c2, c3, d0, d1, d2, d3]) rfl ⟨?_, ?_⟩
                · rw [HFT.out, HEE.out, hf.out]
                  refine Or.inl ⟨by rfl, sx, sk, cx, ck, gl, Y, A0, SC, fun t => xq.getD t 0, lo, fun t => ks.getD t 0, by rw [hNN.out], HX8.out, by rw [hNN.out]; exact HL8.out, HG8.out, fun i hi => ((HLS.out.2 HBT.out) i hi).2, fun k hk => (HLE.out k hk).1, fun i hi => ((HLS.out.2 HBT.out) i hi).1, HY.out, ⟨?_, HA0.out.1⟩, ⟨HSB.out HBT.out, HSC.out.2⟩, fun g o e => Nat.le_trans HBW.out.size (HXB.out g o e), HPG.out.2.2, fun g o e => Nat.le_trans HBW.out.size (HKBb.out g o e)⟩
                  rw [HA0.out.2 HBT.out, ← HSA.out HBT.out 0 (Nat.zero_le _), HCA.out 0 (Nat.zero_le _)]
                  rfl
                · first | exact HB8.out | (rw [← hp0.out]; exact HB8.out)
  · have hne : (E != 0) = true := by simpa using h3
    have H3 := hid h3
    clear h3
    obtain ⟨c0, c1, c2, c3⟩ := rcells_of q2.out.2.2.1
    obtain ⟨d0, d1, d2, d3⟩ := scells_of q2.out.2.2.2
    have fz1 := rfrz q2.out.2.2.1
    have fz2 := sfrz q2.out.2.2.2
    go_wp2_with fail
    refine bodyPost_ret (v := .tuple #[.agg #[.slice none 0 0, .int .i64 0, .int .i64 0, .slice none 0 0], .agg #[.float .f64 0, .float .f64 0, .float .f64 0, .slice none 0 0], .int .i64 E]) (by simp [results, Try.results13, go_sem, c0, c1, c2, c3, d0, d1, d2, d3]) rfl ⟨by rw [HFT.out, if_neg H3.out]; exact Or.inr ⟨H3.out, rfl⟩, ?_⟩
    first | exact ssto_below (rsto_below q2.out.1 HPW.out.2.1 _ _ _ _) HPW.out.2.2.1 _ _ _ _ | (rw [← hp0.out]; exact ssto_below (rsto_below q2.out.1 HPW.out.2.1 _ _ _ _) HPW.out.2.2.1 _ _ _ _) | (have hh := ssto_below (rsto_below q2.out.1 HPW.out.2.1 _ _ _ _) HPW.out.2.2.1 _ _ _ _; rw [hp0.out] at hh; exact hh)
end Go.Proofs.Ythakhmnlpmfdgaa
