
/- The document's Foresee of anything. (Written by mkrtaf.py.) -/
import Derived.Test.YthakhmnlpmfdgaaP44
import Derived.Test.YthakhmnlpmfdgaaP29
namespace Go.Proofs.Ythakhmnlpmfdgaa
open Go.RowKit Go.IntWalk

/-- What the document's Foresee answers. -/
def FoD (E : Int) (f : Nat → Nat) (hs zs : List Nat) (n x : Nat) (e : Ending) : Prop :=
  (E = 0 ∧ ∃ M A : Nat, (M < 18446744073709551616 ∧ canonOf M = dotW hs zs n) ∧ (A < 18446744073709551616 ∧ canonOf A = sumA (alV f hs n) x n n) ∧ e = .returned (.tuple #[.float .f64 M, .float .f64 A, .int .i64 0])) ∨ (E ≠ 0 ∧ e = .returned (.tuple #[.float .f64 0, .float .f64 0, .int .i64 E]))
set_option maxRecDepth 8000 in
set_option maxHeartbeats 8000000 in
theorem rForesee_any (xa : Option Addr) (k kx : Nat) (zs : List Nat) (r c : Int) (sa : Option Addr) (m ka : Nat) (xs : List Nat) (ha : Option Addr) (q kh x : Nat) (hs : List Nat) (w : World) (hX : FlM w xa k kx zs) (hk : k ≤ 17592186043904) (hA : FlM w sa m ka xs) (hm : m ≤ 17592186043904) (hH : FlM w ha q kh hs) (hq : q ≤ 17592186043904) (hx : x < 18446744073709551616) :
    Calls Try.prog 9 #[.agg #[.slice xa k kx, .int .i64 r, .int .i64 c, .slice sa m ka], .slice ha q kh, .float .f64 x] w fun e w' => FoD (forT zs k r c m xs q hs x) (fun j => xs.getD j 0) hs zs k x e ∧ Below w.heap.size w w' := by
  have HC := hid (fun W (hW : Below w.heap.size w W) => rCheck16_any xa k kx zs r c sa m ka xs W (hX.below hW) hk (hA.below hW) hm)
  have HRW := hid (fun W (hW : Below w.heap.size w W) => rRow15_any (k : Int) ha q kh hs x W (hH.below hW) hq hx)
  have HXX := hid hX
  have HAA := hid hA
  have HHH := hid hH
  have HXL := hid hx
  have HFT : Hid (forT zs k r c m xs q hs x = if firstL [rootE zs k r c m xs, rrowE q hs (k : Int) x] = 0 then forE k (fun j => xs.getD j 0) hs zs x else firstL [rootE zs k r c m xs, rrowE q hs (k : Int) x]) := by
    show _ = _
    rw [first_two2]
    unfold forT first2
    by_cases h1 : rootE zs k r c m xs = 0
    · rw [if_pos h1, if_pos h1]
    · rw [if_neg h1, if_neg h1, if_neg h1]
  obtain ⟨E1, hE1⟩ : ∃ t, Hid (rootE zs k r c m xs = t) := ⟨_, rfl⟩
  obtain ⟨E2, hE2⟩ : ∃ t, Hid (rrowE q hs (k : Int) x = t) := ⟨_, rfl⟩
  rw [hE1.out] at HC HFT
  rw [hE2.out] at HRW HFT
  obtain ⟨E3, hE3⟩ : ∃ t, Hid (firstL [E1, E2] = t) := ⟨_, rfl⟩
  rw [hE3.out] at HFT
  have HFS := hid (fun b W h => First_two b E1 E2 W h)
  rw [hE3.out] at HFS
  have H0 : Hid ((w.alloc (RBox xa k kx r c sa m ka)).heap[w.heap.size]? = some (RBox xa k kx r c sa m ka)) := nblkM _ _
  have HB : Hid (Below w.heap.size w (w.alloc (RBox xa k kx r c sa m ka))) := (Below.refl _ _).alloc (Nat.le_refl _) _
  obtain ⟨V, hV⟩ : ∃ t, Hid (w.alloc (RBox xa k kx r c sa m ka) = t) := ⟨_, rfl⟩
  rw [hV.out] at H0 HB
  have hV' := hV.out
  unfold RBox at hV'
  obtain ⟨p0, hp0⟩ : ∃ t, Hid (w.heap.size = t) := ⟨_, rfl⟩
  have e0 := hp0.out
  have HP0 : Hid (w.heap.size ≤ p0) := Nat.le_of_eq hp0.out
  rw [hp0.out] at H0
  have HKS : Hid (∀ W, Hid (Below w.heap.size w W ∧ W.heap[p0]? = some (RBox xa k kx r c sa m ka)) → (W.cell? ⟨p0, 0, none⟩ = some (.slice xa k kx) ∧ W.cell? ⟨p0, 1, none⟩ = some (.int .i64 r) ∧ W.cell? ⟨p0, 2, none⟩ = some (.int .i64 c) ∧ W.cell? ⟨p0, 3, none⟩ = some (.slice sa m ka)) ∧ Hid (Below w.heap.size w W ∧ W.heap[p0]? = some (RBox xa k kx r c sa m ka))) := fun W hW => by
    obtain ⟨x0, x1, x2, x3⟩ := rcells_of hW.out.2
    exact ⟨⟨x0, x1, x2, x3⟩, hW⟩
  have q0 : Hid (Below w.heap.size w V.drew ∧ V.drew.heap[p0]? = some (RBox xa k kx r c sa m ka)) := ⟨HB.out.drew, H0.out⟩
  clear hX hk hA hm hH hq hx
  go_enter Try.func9, Try.ntmps9
  go_wp2_with fail
  refine wp_region_held_drew (S := fun W => (W.cell? ⟨p0, 0, none⟩ = some (.slice xa k kx) ∧ W.cell? ⟨p0, 1, none⟩ = some (.int .i64 r) ∧ W.cell? ⟨p0, 2, none⟩ = some (.int .i64 c) ∧ W.cell? ⟨p0, 3, none⟩ = some (.slice sa m ka)) ∧ Hid (Below w.heap.size w W ∧ W.heap[p0]? = some (RBox xa k kx r c sa m ka))) (by kernel_rfl) (HKS.out _ q0) (fun hHeld => ?_)
  refine take_at 0 14 (.agg #[.slice xa k kx, .int .i64 r, .int .i64 c, .slice sa m ka]) rfl rfl (by kernel_rfl) (by kernel_rfl) (by kernel_rfl) (fun _ _ _ h => h) (Or.inl ⟨by rfl, fun w hSw => by (try dsimp only at hSw); go_simp⟩) (by assumption) ?_
  simp only [Act.put, List.setIfInBounds_toArray, List.set_cons_zero, List.set_cons_succ]
  refine take_at 2 16 (.pointer (some ⟨p0, 0, none⟩)) rfl rfl (by kernel_rfl) (by kernel_rfl) (by kernel_rfl) (fun _ _ _ h => h) (Or.inl ⟨by rfl, fun w hSw => by (try dsimp only at hSw); go_simp⟩) (by assumption) ?_
  simp only [Act.put, List.setIfInBounds_toArray, List.set_cons_zero, List.set_cons_succ]
  refine take_at 3 17 (.slice xa k kx) rfl rfl (by kernel_rfl) (by kernel_rfl) (by kernel_rfl) (fun _ _ _ h => h) (Or.inl ⟨by rfl, fun w hSw => by (try dsimp only at hSw); go_simp⟩) (by assumption) ?_
  simp only [Act.put, List.setIfInBounds_toArray, List.set_cons_zero, List.set_cons_succ]
  refine take_at 4 18 (.int .i64 k) rfl rfl (by kernel_rfl) (by kernel_rfl) (by kernel_rfl) (fun _ _ _ h => h) (Or.inl ⟨by rfl, fun w hSw => by (try dsimp only at hSw); go_simp⟩) (by assumption) ?_
  simp only [Act.put, List.setIfInBounds_toArray, List.set_cons_zero, List.set_cons_succ]
  refine take_at 5 19 (.slice ha q kh) rfl rfl (by kernel_rfl) (by kernel_rfl) (by kernel_rfl) (fun _ _ _ h => h) (Or.inl ⟨by rfl, fun w hSw => by (try dsimp only at hSw); go_simp⟩) (by assumption) ?_
  simp only [Act.put, List.setIfInBounds_toArray, List.set_cons_zero, List.set_cons_succ]
  refine take_at 6 20 (.float .f64 x) rfl rfl (by kernel_rfl) (by kernel_rfl) (by kernel_rfl) (fun _ _ _ h => h) (Or.inl ⟨by rfl, fun w hSw => by (try dsimp only at hSw); go_simp⟩) (by assumption) ?_
  simp only [Act.put, List.setIfInBounds_toArray, List.set_cons_zero, List.set_cons_succ]
  refine wpAnyH_ready (rs := [1]) (by kernel_rfl) (by simp) ?_
  refine AllReadyH.cons (o := _) rfl (fun K hK => ?_) AllReadyH.nil
  go_simp
  refine (HC.out _ q0.out.1).mono ?_
  rintro e u1 ⟨rfl, hb⟩
  have q1 : Hid (Below w.heap.size w u1 ∧ u1.heap[p0]? = some (RBox xa k kx r c sa m ka)) := ⟨q0.out.1.trans (hb.mono q0.out.1.size), blkM q0.out.2 hb⟩
  clear hb
  go_wp2_with fail
  refine hK.out _ _ (HKS.out _ q1) (fun hHeld1 => ?_)
  clear hK K
  try simp only [Act.put, List.setIfInBounds_toArray, List.set_cons_zero, List.set_cons_succ]
  refine wpAnyH_ready (rs := [7]) (by kernel_rfl) (by simp) ?_
  refine AllReadyH.cons (o := _) rfl (fun K hK => ?_) AllReadyH.nil
  go_simp
  refine (HRW.out _ q1.out.1).mono ?_
  rintro e ww ⟨rfl, hw⟩
  rw [hw]
  clear hw
  go_wp2_with fail
  refine hK.out _ _ (HKS.out _ q1) (fun hHeld2 => ?_)
  clear hK K
  try simp only [Act.put, List.setIfInBounds_toArray, List.set_cons_zero, List.set_cons_succ]
  have al : Below u1.heap.size u1 (u1.alloc (I2 E1 E2)) := (Below.refl _ _).alloc (Nat.le_refl _) _
  have q2 : Hid (Below w.heap.size w (u1.alloc (I2 E1 E2)) ∧ (u1.alloc (I2 E1 E2)).heap[p0]? = some (RBox xa k kx r c sa m ka)) := ⟨q1.out.1.trans (al.mono q1.out.1.size), blkM q1.out.2 al⟩
  have HI := hid (nblkM u1 (I2 E1 E2))
  obtain ⟨V2, hV2⟩ : ∃ t, Hid (u1.alloc (I2 E1 E2) = t) := ⟨_, rfl⟩
  rw [hV2.out] at q2 HI
  have hV2' := hV2.out
  unfold I2 at hV2'
  clear al
  refine wpAnyH_ready (rs := [8]) (by kernel_rfl) (by simp) ?_
  refine AllReadyH.cons (o := _) rfl (fun K hK => ?_) AllReadyH.nil
  go_simp
  go_wp2_with fail
  refine hK.out _ _ (HKS.out _ q2) (fun hHeld3 => ?_)
  clear hK K
  try simp only [Act.put, List.setIfInBounds_toArray, List.set_cons_zero, List.set_cons_succ]
  refine wpAnyH_ready (rs := [9]) (by kernel_rfl) (by simp) ?_
  refine AllReadyH.cons (o := _) rfl (fun K hK => ?_) AllReadyH.nil
  go_simp
  refine (HFS.out _ _ HI.out).mono ?_
  rintro e ww ⟨rfl, hw⟩
  rw [hw]
  clear hw
  go_wp2_with fail
  refine hK.out _ _ (HKS.out _ q2) (fun hHeld4 => ?_)
  clear hK K
  try simp only [Act.put, List.setIfInBounds_toArray, List.set_cons_zero, List.set_cons_succ]
  refine take_at 10 9 (.int .i64 E3) rfl rfl (by kernel_rfl) (by kernel_rfl) (by kernel_rfl) (fun _ _ _ h => h) (Or.inl ⟨by rfl, fun w hSw => by (try dsimp only at hSw); go_simp⟩) (by assumption) ?_
  simp only [Act.put, List.setIfInBounds_toArray, List.set_cons_zero, List.set_cons_succ]
  refine wpAnyH_done (by kernel_rfl) ?_ _
  clear q0 q1 hHeld HC HRW HFS HKS H0
  by_cases h3 : E3 = 0
  · subst h3
    rw [if_pos rfl] at HFT
    have hz : E1 = 0 ∧ E2 = 0 := by
      have := hE3.out
      rw [first_two2] at this
      unfold first2 at this
      by_cases h : E1 = 0
      · rw [if_pos h] at this; exact ⟨h, this⟩
      · rw [if_neg h] at this; exact absurd this h
    obtain ⟨z1, z2⟩ := hz
    rw [z1] at hE1
    rw [z2] at hE2
    obtain ⟨er, ec, hc, hfz, _, _⟩ := rootE_zero hE1.out
    obtain ⟨hls, fx, _, _⟩ := rrow_zero hE2.out
    obtain ⟨p5, p6⟩ := ls_zero hls
    have p7 : q = k := by omega
    subst p7
    subst er
    subst ec
    have HG := hid (gd_own_r HAA.out hc)
    have HFX := hid fx
    obtain ⟨x0, x1, x2, x3⟩ := rcells_of q2.out.2
    have al : Below V2.heap.size V2 (V2.alloc (SBx false)) := (Below.refl _ _).alloc (Nat.le_refl _) _
    have HS0 : Hid ((V2.alloc (SBx false)).heap[V2.heap.size]? = some (SBx false)) := nblkM _ _
    have HB3 : Hid (Below w.heap.size w (V2.alloc (SBx false))) := q2.out.1.trans (al.mono q2.out.1.size)
    have HP3 := hid (blkM q2.out.2 al)
    have HSZ : Hid (w.heap.size ≤ V2.heap.size) := q2.out.1.size
    obtain ⟨V3, hV3⟩ : ∃ t, Hid (V2.alloc (SBx false) = t) := ⟨_, rfl⟩
    obtain ⟨b, hb⟩ : ∃ t, Hid (V2.heap.size = t) := ⟨_, rfl⟩
    rw [hV3.out] at HS0 HB3 HP3
    rw [hb.out] at HS0 HSZ
    have hV3' := hV3.out
    unfold SBx at hV3'
    have hb' := hb.out
    have HSE := hid (rSeen b false q m ka kx kh x xa sa ha zs hs (fun j => xs.getD j 0) V3 HS0.out (HXX.out.below HB3.out) (HG.out.below HB3.out) (HHH.out.below HB3.out) HXL.out HFX.out)
    obtain ⟨x0, x1, x2, x3⟩ := rcells_of HP3.out
    clear al z1 z2 p5 p6 hfz hc hls fx q2
    go_wp2_with fail
    refine HSE.out.mono ?_
    rintro e w4 ⟨⟨M, gv, ga, fv, fa, rfl, hM, _, _, _, _, hfa, _, hca⟩, hst4⟩
    have HBE : Hid (Below w.heap.size w w4) := HB3.out.trans (hst4.below HB3.out.size HSZ.out)
    have HSB4 := hid hst4.box
    have HM := hid hM
    have HFA := hid hfa
    have HA0 : Hid (canonOf (fa 0) = sumA (alV (fun j => xs.getD j 0) hs q) x q q) := by have := hca 0 (Nat.zero_le _); rwa [Nat.sub_zero] at this
    clear hst4 hM hfa hca
    rw [show (false || !(finF q (alV (fun j => xs.getD j 0) hs q) && finB (dotW hs zs q) && finB (sumA (alV (fun j => xs.getD j 0) hs q) x q q))) = !(finF q (alV (fun j => xs.getD j 0) hs q) && finB (dotW hs zs q) && finB (sumA (alV (fun j => xs.getD j 0) hs q) x q q)) from rfl] at HSB4
    have HFE : Hid (forE q (fun j => xs.getD j 0) hs zs x = if (finF q (alV (fun j => xs.getD j 0) hs q) && finB (dotW hs zs q) && finB (sumA (alV (fun j => xs.getD j 0) hs q) x q q)) = true then 0 else 5) := rfl
    obtain ⟨BB, hBB⟩ : ∃ t, Hid ((finF q (alV (fun j => xs.getD j 0) hs q) && finB (dotW hs zs q) && finB (sumA (alV (fun j => xs.getD j 0) hs q) x q q)) = t) := ⟨_, rfl⟩
    rw [hBB.out] at HSB4 HFE
    obtain ⟨N1, hN1⟩ : ∃ t, Hid (q + 1 = t) := ⟨_, rfl⟩
    rw [hN1.out] at HFA ⊢
    cases BB with
    | false =>
      rw [if_neg (by decide)] at HFE
      obtain ⟨c0, _⟩ := sbx_of HSB4.out
      go_wp2_with fail
      exact bodyPost_ret (v := .tuple #[.float .f64 0, .float .f64 0, .int .i64 5]) (by simp [results, Try.results9, go_sem]) rfl ⟨by rw [HFT.out, HFE.out]; exact Or.inr ⟨by decide, rfl⟩, HBE.out⟩
    | true =>
      rw [if_pos rfl] at HFE
      obtain ⟨c0, _⟩ := sbx_of HSB4.out
      have hN1p : (0 : Int) < (N1 : Int) := by have := hN1.out; omega
      have s0 := fnO_cell HFA.out (show 0 < N1 by omega)
      rw [Nat.add_zero] at s0
      obtain ⟨A0, hA0⟩ : ∃ t, Hid (fa 0 = t) := ⟨_, rfl⟩
      have HAL : Hid (A0 < 18446744073709551616) := by show _ < _; rw [← hA0.out]; exact fn_lt HFA.out 0 (by omega)
      rw [hA0.out] at s0 HA0
      go_wp2_with fail
      go_quiet (fail)
      go_wp2_with fail
      exact bodyPost_ret (v := .tuple #[.float .f64 M, .float .f64 A0, .int .i64 0]) (by simp [results, Try.results9, go_sem]) rfl ⟨by rw [HFT.out, HFE.out]; exact Or.inl ⟨rfl, M, A0, HM.out, ⟨HAL.out, HA0.out⟩, rfl⟩, bl_drewN _ HBE.out⟩
  · have hne : (E3 != 0) = true := by simpa using h3
    have H3 := hid h3
    clear h3
    go_wp2_with fail
    exact bodyPost_ret (v := .tuple #[.float .f64 0, .float .f64 0, .int .i64 E3]) (by simp [results, Try.results9, go_sem]) rfl ⟨by rw [HFT.out, if_neg H3.out]; exact Or.inr ⟨H3.out, rfl⟩, q2.out.1⟩
end Go.Proofs.Ythakhmnlpmfdgaa

namespace Go.Proofs.Ythakhmnlpmfdgaa
open Go.RowKit Go.IntWalk

set_option maxRecDepth 8000 in
set_option maxHeartbeats 4000000 in
theorem rEnded (n NN kl kx : Nat) (sx sl : Option Addr) (lo : Nat → Nat) (w : World) (hL : FnM w sl NN kl lo) (hNN : NN = n * n) (hn : n ≤ 12) (hf : finF NN lo = true) :
    Calls Try.prog 40 #[.slice sx n kx, .agg #[.int .i64 n, .int .i64 n, .slice sl NN kl]] w fun e w' => e = .returned (bif diagB n lo then .tuple #[.agg #[.slice sx n kx, .int .i64 n, .int .i64 n, .slice sl NN kl], .int .i64 0] else .tuple #[.agg #[.slice none 0 0, .int .i64 0, .int .i64 0, .slice none 0 0], .int .i64 93]) ∧ Below w.heap.size w w' := by
  have HN : Hid (NN = n * n ∧ n ≤ 12) := ⟨hNN, hn⟩
  have HAT : Hid (∀ W i, Below w.heap.size w W → i < n → Calls Try.prog 38 #[.agg #[.int .i64 n, .int .i64 n, .slice sl NN kl], .int .i64 (i : Nat), .int .i64 (i : Nat)] W fun e w' => e = .returned (.float .f64 (lo (i * n + i))) ∧ Below W.heap.size W w') := fun W i hW hi => rAt_fn n sl n NN kl i i lo W (hL.below hW) (by omega) (by omega) (by omega) (by rw [hNN]; exact place_lt hi hi)
  have HGT : Hid (∀ i, i < n → (FloatKind.f64.format.order (lo (i * n + i)) 0 == some .gt) = !leB (lo (i * n + i))) := fun i hi => by
    have h0 : i * n + i < NN := by rw [hNN]; exact place_lt hi hi
    have h1 := fn_lt hL _ h0
    have h2 := (finF_iff _ _).1 hf _ h0
    exact ord_pos h1 h2
  obtain ⟨t1, t2, t3, t4⟩ := two_b w (MBox n n sl NN kl) (RBox none 0 0 0 0 none 0 0)
  obtain ⟨V, hV⟩ : ∃ t, Hid ((w.alloc (MBox n n sl NN kl)).alloc (RBox none 0 0 0 0 none 0 0) = t) := ⟨_, rfl⟩
  rw [hV.out] at t1 t2 t3 t4
  have hV' := hV.out
  unfold MBox RBox at hV'
  obtain ⟨p0, hp0⟩ : ∃ t, Hid (w.heap.size = t) := ⟨_, rfl⟩
  obtain ⟨p1, hp1⟩ : ∃ t, Hid (p0 + 1 = t) := ⟨_, rfl⟩
  rw [hp0.out] at t1 t2
  rw [hp1.out] at t2
  have e0 := hp0.out
  have e1 := hp1.out
  have HF0 : Hid (Below w.heap.size w V ∧ V.heap[p0]? = some (MBox n n sl NN kl) ∧ V.heap[p1]? = some (RBox none 0 0 0 0 none 0 0)) := ⟨t3, t1, t2⟩
  have HP1 : Hid (w.heap.size ≤ p1) := by show _ ≤ _; omega
  obtain ⟨x0, x1, x2⟩ := mcells_of t1
  have hst := fstoreM
  clear t1 t2 t3 t4 hL hNN hn hf
  obtain ⟨D, hD⟩ : ∃ t, Hid (diagB n lo = t) := ⟨_, rfl⟩
  rw [hD.out]
  go_enter Try.func40, Try.ntmps40
  go_wp2_with fail
  go_loopw [6] (fun iv wr => ∃ i : Nat, i ≤ n ∧ iv = .int .i64 i ∧ Hid (∀ a, a < i → leB (lo (a * n + a)) = false) ∧ Hid (Below w.heap.size w wr ∧ wr.heap[p0]? = some (MBox n n sl NN kl) ∧ wr.heap[p1]? = some (RBox none 0 0 0 0 none 0 0))) (fun iv _ => n - (intOf iv).toNat)
  case atStart => exact ⟨0, Nat.zero_le _, rfl, fun a h => absurd h (Nat.not_lt_zero a), HF0⟩
  case round =>
    obtain ⟨i, hi, rfl, HP, HW⟩ := hrel
    obtain ⟨x0, x1, x2⟩ := mcells_of HW.out.2.1
    have hn12 := HN.out.2
    by_cases hlt : i < n
    · have hiI : (i : Int) < (n : Int) := by omega
      have HI := hid hlt
      clear hlt
      go_wp2_with fail
      refine (HAT.out _ i HW.out.1 HI.out).mono ?_
      rintro e w1 ⟨rfl, hb1⟩
      have HW1 : Hid (Below w.heap.size w w1 ∧ w1.heap[p0]? = some (MBox n n sl NN kl) ∧ w1.heap[p1]? = some (RBox none 0 0 0 0 none 0 0)) := ⟨HW.out.1.trans (hb1.mono HW.out.1.size), blkM HW.out.2.1 hb1, blkM HW.out.2.2 hb1⟩
      obtain ⟨x0, x1, x2⟩ := mcells_of HW1.out.2.1
      have hgt := HGT.out i HI.out
      clear hb1
      obtain ⟨LE, hLE⟩ : ∃ t, Hid (leB (lo (i * n + i)) = t) := ⟨_, rfl⟩
      obtain ⟨y0, hy0⟩ : ∃ t, Hid (lo (i * n + i) = t) := ⟨_, rfl⟩
      rw [hLE.out, hy0.out] at hgt
      rw [hy0.out]
      cases LE with
      | true =>
        have hgt : (FloatKind.f64.format.order y0 0 == some .gt) = false := hgt
        have HT : Hid (D = false) := by
          show _ = _
          rw [← hD.out]
          cases hd : diagB n lo with
          | false => rfl
          | true => have h5 := (diag_iff n lo).1 hd i HI.out; rw [hLE.out] at h5; exact absurd h5 (by decide)
        obtain ⟨r0, r1, r2, r3⟩ := rcells_of HW1.out.2.2
        have rz := rfrz HW1.out.2.2
        go_wp2_with fail
        refine bodyPost_ret (v := .tuple #[.agg #[.slice none 0 0, .int .i64 0, .int .i64 0, .slice none 0 0], .int .i64 93]) (by simp [results, Try.results40, go_sem, r0, r1, r2, r3]) rfl ⟨by rw [HT.out]; rfl, ?_⟩
        first | exact rsto_below HW1.out.1 HP1.out _ _ _ _ | (rw [← hp0.out]; exact rsto_below HW1.out.1 HP1.out _ _ _ _)
      | false =>
        have hgt : (FloatKind.f64.format.order y0 0 == some .gt) = true := hgt
        go_wp2_with fail
        have hi1 := HI.out
        refine ⟨⟨i + 1, by omega, by go_num, fun a ha => ?_, HW1⟩, ?_⟩
        · by_cases he : a = i
          · subst he; exact hLE.out
          · exact HP.out a (by omega)
        · simp [intOf]; omega
    · obtain rfl : i = n := by omega
      have HT : Hid (D = true) := by show _ = _; rw [← hD.out]; exact (diag_iff i lo).2 HP.out
      obtain ⟨r0, r1, r2, r3⟩ := rcells_of HW.out.2.2
      have rz := rfrz HW.out.2.2
      go_wp2_with fail
      refine bodyPost_ret (v := .tuple #[.agg #[.slice sx i kx, .int .i64 i, .int .i64 i, .slice sl NN kl], .int .i64 0]) (by simp [results, Try.results40, go_sem, r0, r1, r2, r3]) rfl ⟨by rw [HT.out]; rfl, ?_⟩
      first | exact rsto_below HW.out.1 HP1.out _ _ _ _ | (rw [← hp0.out]; exact rsto_below HW.out.1 HP1.out _ _ _ _)
end Go.Proofs.Ythakhmnlpmfdgaa

namespace Go.Proofs.Ythakhmnlpmfdgaa
open Go.RowKit Go.IntWalk

/-- What is known of the steps so far: where all is finite (FN) nothing went over; where nothing went over P holds. -/
def OvI (FN B : Bool) (P : Prop) (o : Bool) : Prop := (FN = true → o = false) ∧ (o = false → B = true ∧ P)
theorem OvI.step {FN B o : Bool} {P P' : Prop} {c C : Nat} (h : OvI FN B P o) (hB : FN = true → B = true) (hc : B = true → c = C) (hf : FN = true → finB C = true) (hP : P → finB C = true → P') : OvI FN B P' (o || !finB c) := by
  constructor
  · intro h1
    rw [h.1 h1, hc (hB h1), hf h1]
    rfl
  · intro h1
    have h2 : o = false ∧ finB c = true := by
      cases ho : o <;> cases hq : finB c <;> rw [ho, hq] at h1
      · cases h1
      · exact ⟨rfl, rfl⟩
      · cases h1
      · cases h1
    obtain ⟨b1, b2⟩ := h.2 h2.1
    exact ⟨b1, hP b2 (by rw [← hc b1]; exact h2.2)⟩
theorem OvI.same {FN B o : Bool} {P : Prop} {c C : Nat} (h : OvI FN B P o) (hB : FN = true → B = true) (hc : B = true → c = C) (hf : FN = true → finB C = true) : OvI FN B P (o || !finB c) := h.step hB hc hf fun p _ => p
theorem OvI.imp {FN B o : Bool} {P P' : Prop} (h : OvI FN B P o) (hP : P → P') : OvI FN B P' o := ⟨h.1, fun h1 => ⟨(h.2 h1).1, hP (h.2 h1).2⟩⟩
def forB (n : Nat) (f : Nat → Nat) (hs zs : List Nat) (x : Nat) : Bool := finF n (alV f hs n) && finB (dotW hs zs n) && finB (sumA (alV f hs n) x n n)
def updB (f : Nat → Nat) (hs zs : List Nat) (n x z : Nat) : Bool := forB n f hs zs x && (finF (n * n) (oU f hs n x) && finF n (xU f hs zs n x z) && finB (scU f hs zs n x z))
theorem updE_is (f : Nat → Nat) (hs zs : List Nat) (n x z : Nat) : updE f hs zs n x z = if updB f hs zs n x z = true then (if diagB n (oU f hs n x) = true then 0 else 93) else 5 := by
  unfold updE updB forE
  rw [show (finF n (alV f hs n) && finB (dotW hs zs n) && finB (sumA (alV f hs n) x n n)) = forB n f hs zs x from rfl]
  cases forB n f hs zs x with
  | false => rfl
  | true => rw [if_pos rfl, if_pos rfl, Bool.true_and]
theorem updB_for {f : Nat → Nat} {hs zs : List Nat} {n x z : Nat} (h : updB f hs zs n x z = true) : forB n f hs zs x = true := by
  unfold updB at h
  exact (Bool.and_eq_true _ _ ▸ h).1
theorem quoc_lt (x y : Nat) : caf .quo x y < 18446744073709551616 := by
  unfold caf
  cases h : floatBits .quo .f64 x y with
  | none => decide
  | some z =>
    have h1 : z < 2 ^ FloatKind.f64.format.width := Ieee.Format.div_lt _ h
    have h2 : (2 : Nat) ^ FloatKind.f64.format.width = 18446744073709551616 := by decide
    exact canon_lt (by omega)
theorem finF_at {n i : Nat} {f : Nat → Nat} (h : finF n f = true) (hi : i < n) : finB (f i) = true := by
  have h2 := (finF_iff _ _).1 h i hi
  rw [← fin_sgl]
  unfold finM
  simp [h2]
theorem finF_ofB {n : Nat} {f : Nat → Nat} (h : ∀ i, i < n → finB (f i) = true) : finF n f = true := by
  rw [finF_iff]
  intro k hk
  have h2 := h k hk
  rw [← fin_sgl] at h2
  unfold finM at h2
  simpa using h2
theorem oU_at {f : Nat → Nat} {hs : List Nat} {n x i j : Nat} (hi : i < n) (hj : j ≤ i) : oU f hs n x (i * n + j) = oC f (alV f hs n) (sU f hs n x) n i j := by
  have e1 : (i * n + j) % n = j := by rw [Nat.mul_comm, Nat.mul_add_mod, Nat.mod_eq_of_lt (by omega)]
  have e2 : (i * n + j) / n = i := by rw [Nat.mul_comm, Nat.mul_add_div (by omega), Nat.div_eq_of_lt (by omega), Nat.add_zero]
  unfold oU
  rw [e1, e2, if_pos hj]
section
variable {f : Nat → Nat} {hs zs : List Nat} {n x z : Nat}
theorem upd_l (h : updB f hs zs n x z = true) {i j : Nat} (hi : i < n) (hj : j ≤ i) : finB (oC f (alV f hs n) (sU f hs n x) n i j) = true := by
  unfold updB at h
  simp only [Bool.and_eq_true] at h
  have h1 := finF_at h.2.1.1 (place_lt hi (show j < n by omega))
  rw [oU_at hi hj] at h1
  exact h1
theorem wC_lt (f v0 : Nat → Nat) (n d i : Nat) : wC f v0 n d i < 18446744073709551616 := by
  induction d with
  | zero => show (0 : Nat) < _; decide
  | succ d ih =>
    show (if n - 1 - d ≤ i then _ else _) < _
    by_cases c : n - 1 - d ≤ i
    · rw [if_pos c]; exact caf_lt .add ok_a _ _
    · rw [if_neg c]; exact ih
theorem upd_cx (h : updB f hs zs n x z = true) {i j : Nat} (hi : i < n) (hj : j ≤ i) : finB (caf .mul (cC (sU f hs n x) j) (canonOf (f (i * n + j)))) = true ∧ finB (caf .mul (tC (alV f hs n) (sU f hs n x) j) (wC f (alV f hs n) n (n - 1 - j) i)) = true := nf_sub (caf_lt .mul ok_m _ _) (caf_lt .mul ok_m _ _) (upd_l h hi hj)
theorem upd_ct (h : updB f hs zs n x z = true) (hf : ∀ k, k < n * n → f k < 18446744073709551616) {j : Nat} (hj : j < n) : finB (cC (sU f hs n x) j) = true ∧ finB (tC (alV f hs n) (sU f hs n x) j) = true := by
  obtain ⟨h1, h2⟩ := upd_cx h hj (Nat.le_refl j)
  exact ⟨(nf_mul (quoc_lt _ _) (canon_lt (hf _ (place_lt hj hj))) h1).1, (nf_mul (quoc_lt _ _) (wC_lt _ _ _ _ _) h2).1⟩
theorem upd_sc (h : updB f hs zs n x z = true) : finB (scU f hs zs n x z) = true := by
  unfold updB at h
  simp only [Bool.and_eq_true] at h
  exact h.2.2
theorem upd_yy (h : updB f hs zs n x z = true) : finB (caf .mul (yU hs zs n z) (yU hs zs n z)) = true := nf_quo (caf_lt .mul ok_m _ _) (upd_sc h)
theorem upd_y (h : updB f hs zs n x z = true) : finB (yU hs zs n z) = true := (nf_mul (caf_lt .sub ok_s _ _) (caf_lt .sub ok_s _ _) (upd_yy h)).1
theorem upd_x (h : updB f hs zs n x z = true) {i : Nat} (hi : i < n) : finB (xU f hs zs n x z i) = true := by
  unfold updB at h
  simp only [Bool.and_eq_true] at h
  exact finF_at h.2.1.2 hi
theorem upd_gy (h : updB f hs zs n x z = true) (hz : ∀ i, i < n → zs.getD i 0 < 18446744073709551616) {i : Nat} (hi : i < n) : finB (caf .mul (gU f hs n x i) (yU hs zs n z)) = true := (nf_add (canon_lt (hz i hi)) (caf_lt .mul ok_m _ _) (upd_x h hi)).2
theorem upd_g (h : updB f hs zs n x z = true) (hz : ∀ i, i < n → zs.getD i 0 < 18446744073709551616) {i : Nat} (hi : i < n) : finB (gU f hs n x i) = true := (nf_mul (quoc_lt _ _) (caf_lt .sub ok_s _ _) (upd_gy h hz hi)).1
theorem upd_wn (h : updB f hs zs n x z = true) (hz : ∀ i, i < n → zs.getD i 0 < 18446744073709551616) {i : Nat} (hi : i < n) : finB (wC f (alV f hs n) n n i) = true := nf_quo (wC_lt _ _ _ _ _) (upd_g h hz hi)
theorem w_down {v : Nat → Nat} {i d : Nat} (h : finB (wC f v n (d + 1) i) = true) : finB (wC f v n d i) = true ∧ (n - 1 - d ≤ i → finB (caf .mul (canonOf (v (n - 1 - d))) (canonOf (f (i * n + (n - 1 - d))))) = true) := by
  change finB (if n - 1 - d ≤ i then _ else _) = true at h
  by_cases c : n - 1 - d ≤ i
  · rw [if_pos c] at h
    obtain ⟨h1, h2⟩ := nf_add (wC_lt _ _ _ _ _) (caf_lt .mul ok_m _ _) h
    exact ⟨h1, fun _ => h2⟩
  · rw [if_neg c] at h
    exact ⟨h, fun e => absurd e c⟩
theorem upd_w (h : updB f hs zs n x z = true) (hz : ∀ i, i < n → zs.getD i 0 < 18446744073709551616) {i : Nat} (hi : i < n) : ∀ t d, d + t = n → finB (wC f (alV f hs n) n d i) = true := by
  intro t
  induction t with
  | zero =>
    intro d hd
    obtain rfl : d = n := by omega
    exact upd_wn h hz hi
  | succ t ih =>
    intro d hd
    exact (w_down (ih (d + 1) (by omega))).1
theorem upd_vx (h : updB f hs zs n x z = true) (hz : ∀ i, i < n → zs.getD i 0 < 18446744073709551616) {i d : Nat} (hi : i < n) (hd : d < n) (hj : n - 1 - d ≤ i) : finB (caf .mul (canonOf (alV f hs n (n - 1 - d))) (canonOf (f (i * n + (n - 1 - d))))) = true := (w_down (upd_w h hz hi (n - (d + 1)) (d + 1) (by omega))).2 hj
theorem sum_down {v : Nat → Nat} (hx : x < 18446744073709551616) (h : finB (sumA v x n n) = true) : ∀ t d, d + t = n → finB (sumA v x n d) = true := by
  intro t
  induction t with
  | zero =>
    intro d hd
    obtain rfl : d = n := by omega
    exact h
  | succ t ih =>
    intro d hd
    have h1 := ih (d + 1) (by omega)
    exact (nf_add (x := sumA v x n d) (sumA_lt _ _ _ _ hx) (caf_lt .mul ok_m _ _) h1).1
theorem for_v (h : forB n f hs zs x = true) : ∀ i, i < n → alV f hs n i < 18446744073709551616 ∧ alV f hs n i % 9223372036854775808 < 9218868437227405312 := fun i hi => by
  unfold forB at h
  simp only [Bool.and_eq_true] at h
  exact ⟨dotM_lt _ _ _, fin_of (finF_at h.1.1 hi)⟩
theorem for_s (h : forB n f hs zs x = true) (hp : x ≤ 9218868437227405312) {j : Nat} (_ : j ≤ n) : ∃ r, FloatKind.f64.format.sqrt (sU f hs n x j) = some r ∧ r ≤ 6913025428013711359 := by
  have h0 := for_v h
  unfold forB at h
  simp only [Bool.and_eq_true] at h
  have h1 := sumA_nn hp h0 (n - j) (by omega)
  have h2 := fin_of (sum_down (by omega) h.2 j (n - j) (by omega))
  unfold sU
  refine sqrt_top _ ?_
  omega
theorem for_pq (h : forB n f hs zs x = true) (hp : x ≤ 9218868437227405312) {j : Nat} (hj : j < n) : finB (caf .mul (canonOf (sqrW (sU f hs n x j))) (canonOf (sqrW (sU f hs n x (j + 1))))) = true := by
  obtain ⟨r, e1, l1⟩ := for_s h hp (show j ≤ n by omega)
  obtain ⟨q, e2, l2⟩ := for_s h hp (show j + 1 ≤ n by omega)
  have a1 : sqrW (sU f hs n x j) = r := by unfold sqrW; rw [e1]; rfl
  have a2 : sqrW (sU f hs n x (j + 1)) = q := by unfold sqrW; rw [e2]; rfl
  rw [a1, a2, canon_nn (by omega), canon_nn (by omega)]
  exact mul_top l1 l2
theorem upd_of (h : forB n f hs zs x = true) (hl : ∀ i j, i < n → j ≤ i → finB (oC f (alV f hs n) (sU f hs n x) n i j) = true) (hxx : ∀ i, i < n → finB (xU f hs zs n x z i) = true) (hsc : finB (scU f hs zs n x z) = true) : updB f hs zs n x z = true := by
  unfold updB
  rw [h, hsc, finF_ofB hxx, Bool.true_and, Bool.and_true, Bool.and_true]
  refine finF_ofB fun k hk => ?_
  obtain ⟨s1, s2, s3⟩ := split_k hk
  unfold oU
  by_cases c : k % n ≤ k / n
  · rw [if_pos c]; exact hl _ _ s1 c
  · rw [if_neg c]; decide
end
end Go.Proofs.Ythakhmnlpmfdgaa

namespace Go.Proofs.Ythakhmnlpmfdgaa
open Go.RowKit Go.IntWalk

theorem sqrtN_run (x : Nat) (h : FloatKind.f64.format.sqrt x = none) (w : World) : (callFunc 63 #[.float .f64 x]).run Try.prog w = .ok (.value (.float .f64 (nanF x x w))) w.drew := by
  rw [run_callFunc_extern Try.func63 (by kernel_rfl) (by kernel_rfl) (by kernel_rfl) (e := Extern.MathSqrt.sqrt) (by kernel_rfl)]
  have e : Extern.MathSqrt.sqrt #[.float .f64 x] = (do pure (Value.float .f64 (← choose (.nanBits .f64 x x)))) := by
    show (match FloatKind.f64.format.sqrt x with
      | some r => pure (Value.float .f64 r)
      | none => do pure (Value.float .f64 (← choose (.nanBits .f64 x x)))) = _
    rw [h]
  rw [e]
  unfold nanF
  simp [Question.forced]
theorem SqrtT (x : Nat) (w : World) : Calls Try.prog 37 #[.float .f64 x] w fun e w' => (∃ r, e = .returned (.float .f64 r) ∧ ∀ s, FloatKind.f64.format.sqrt x = some s → r = s) ∧ Below w.heap.size w w' := by
  cases h : FloatKind.f64.format.sqrt x with
  | some r =>
    refine (SqrtR x r w h).mono ?_
    rintro e w' ⟨rfl, rfl⟩
    exact ⟨⟨r, rfl, fun s hs => Option.some.inj hs⟩, Below.refl _ _⟩
  | none =>
    have hq := sqrtN_run x h
    clear h
    go_enter Try.func37, Try.ntmps37
    go_wp2
    go_ret
    exact ⟨⟨_, rfl, fun s hs => by cases hs⟩, (Below.refl _ _).drew⟩
/-- What stays while the document updates a root: all of w0 but the steps b, the triangle gl, the list gw. -/
structure FrU (w0 W : World) (b gl gw NN n : Nat) (o : Bool) (lo u : Nat → Nat) : Prop where
  bel : Below 0 w0 W
  keep : ∀ x, x < w0.heap.size → x ≠ b → x ≠ gl → x ≠ gw → W.heap[x]? = w0.heap[x]?
  box : W.heap[b]? = some (SBx o)
  rl : W.rowIs gl 28 NN (fun t => .float .f64 (lo t))
  rw : W.rowIs gw 28 n (fun t => .float .f64 (u t))
  ne : b ≠ gl ∧ b ≠ gw ∧ gl ≠ gw
section
variable {w0 W W' : World} {b gl gw NN n : Nat} {o : Bool} {lo u : Nat → Nat}
theorem FrU.step (h : FrU w0 W b gl gw NN n o lo u) (hb : Below W.heap.size W W') : FrU w0 W' b gl gw NN n o lo u := ⟨h.bel.trans (hb.mono (Nat.zero_le _)), fun x hx h1 h2 h3 => (hb.block x (Nat.lt_of_lt_of_le hx h.bel.size)).trans (h.keep x hx h1 h2 h3), blkM h.box hb, h.rl.of_block (hb.block _ h.rl.lt), h.rw.of_block (hb.block _ h.rw.lt), h.ne⟩
theorem FrU.s (h : FrU w0 W b gl gw NN n o lo u) (p : Bool) : FrU w0 (W.setCell ⟨b, 0, none⟩ (.bool p)) b gl gw NN n p lo u := ⟨h.bel.setCell (p := ⟨b, 0, none⟩) (Nat.zero_le _) _, fun x hx h1 h2 h3 => (Below.heap_setCell W ⟨b, 0, none⟩ _ x h1).trans (h.keep x hx h1 h2 h3), sbx_set h.box, h.rl.setOther (a := ⟨b, 0, none⟩) (Ne.symm h.ne.1) _, h.rw.setOther (a := ⟨b, 0, none⟩) (Ne.symm h.ne.2.1) _, h.ne⟩
theorem FrU.setl (h : FrU w0 W b gl gw NN n o lo u) (k z : Nat) : FrU w0 (W.setCell ⟨gl, k, none⟩ (.float .f64 z)) b gl gw NN n o (fun t => if t = k then z else lo t) u := ⟨h.bel.setCell (p := ⟨gl, k, none⟩) (Nat.zero_le _) _, fun x hx h1 h2 h3 => (Below.heap_setCell W ⟨gl, k, none⟩ _ x h2).trans (h.keep x hx h1 h2 h3), (Below.heap_setCell W ⟨gl, k, none⟩ _ b h.ne.1).trans h.box, (h.rl.set k _).congr (fun t _ => by by_cases e : t = k <;> simp [e]), h.rw.setOther (a := ⟨gl, k, none⟩) (Ne.symm h.ne.2.2) _, h.ne⟩
theorem FrU.setw (h : FrU w0 W b gl gw NN n o lo u) (k z : Nat) : FrU w0 (W.setCell ⟨gw, k, none⟩ (.float .f64 z)) b gl gw NN n o lo (fun t => if t = k then z else u t) := ⟨h.bel.setCell (p := ⟨gw, k, none⟩) (Nat.zero_le _) _, fun x hx h1 h2 h3 => (Below.heap_setCell W ⟨gw, k, none⟩ _ x h3).trans (h.keep x hx h1 h2 h3), (Below.heap_setCell W ⟨gw, k, none⟩ _ b h.ne.2.1).trans h.box, h.rl.setOther (a := ⟨gw, k, none⟩) h.ne.2.2 _, (h.rw.set k _).congr (fun t _ => by by_cases e : t = k <;> simp [e]), h.ne⟩
theorem FrU.at {x : Nat} {ob : Obj} (h : FrU w0 W b gl gw NN n o lo u) (hx : w0.heap[x]? = some ob) (h1 : x ≠ b) (h2 : x ≠ gl) (h3 : x ≠ gw) : W.heap[x]? = some ob := (h.keep x (Array.getElem?_eq_some_iff.1 hx).1 h1 h2 h3).trans hx
theorem FrU.cell {p : Addr} {v : Value} (h : FrU w0 W b gl gw NN n o lo u) (hx : w0.cell? p = some v) (hl : p.block < w0.heap.size) (h1 : p.block ≠ b) (h2 : p.block ≠ gl) (h3 : p.block ≠ gw) : W.cell? p = some v := (World.cell?_of_block (h.keep p.block hl h1 h2 h3)).trans hx
theorem FrU.below {B : Nat} (h : FrU w0 W b gl gw NN n o lo u) (hB : B ≤ w0.heap.size) (h1 : B ≤ b) (h2 : B ≤ gl) (h3 : B ≤ gw) : Below B w0 W := ⟨h.bel.os, h.bel.tape, h.bel.output, h.bel.size, fun k hk => h.keep k (by omega) (by omega) (by omega) (by omega)⟩
end
end Go.Proofs.Ythakhmnlpmfdgaa
