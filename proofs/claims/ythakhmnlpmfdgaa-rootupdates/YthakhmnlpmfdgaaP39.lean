
/- law 16's own functions. (Written by mkrtj.py.) -/
import Derived.Test.YthakhmnlpmfdgaaP38
import Derived.Test.YthakhmnlpmfdgaaP30
namespace Go.Proofs.Ythakhmnlpmfdgaa
open Go.RowKit Go.IntWalk

def B6Box (r c : Int) (sa : Option Addr) (n cap : Nat) : Obj := .cells #[.int .i64 r, .int .i64 c, .slice sa n cap] 24
theorem b6cells_of {w : World} {b : Nat} {r c : Int} {sa : Option Addr} {n cap : Nat} (h : w.heap[b]? = some (B6Box r c sa n cap)) : w.cell? ⟨b, 0, none⟩ = some (.int .i64 r) ∧ w.cell? ⟨b, 1, none⟩ = some (.int .i64 c) ∧ w.cell? ⟨b, 2, none⟩ = some (.slice sa n cap) := by
  unfold B6Box at h
  refine ⟨?_, ?_, ?_⟩ <;> simp [World.cell?, h]
set_option maxHeartbeats 1000000 in
theorem l16_any (sa : Option Addr) (sn sc : Nat) (xs : List Nat) (w : World) (hu : U64At w sa sn xs) (hn : sn ≤ 17592186043904) :
    Calls Try.prog 7 #[.slice sa sn sc] w fun r w' => ∃ ta cap, r = .returned (.slice ta sn cap) ∧ FlM w' ta sn cap xs ∧ Below w.heap.size w w' := by
  have HL := hid (l_any sa sn sc xs w hu hn)
  clear hu hn
  go_enter Try.func7, Try.ntmps7
  go_wp2_with fail
  refine HL.out.mono ?_
  rintro e w1 ⟨ta, cap, rfl, h1, h2⟩
  have H := hid (And.intro h1 h2)
  clear h1 h2
  go_wp2_with fail
  go_ret
  exact ⟨_, _, rfl, H.out.1, H.out.2⟩
set_option maxHeartbeats 1000000 in
theorem mat16_any (r c : Int) (sa : Option Addr) (sn sc : Nat) (xs : List Nat) (w : World) (hu : U64At w sa sn xs) (hn : sn ≤ 17592186043904) :
    Calls Try.prog 21 #[.agg #[.int .i64 r, .int .i64 c, .slice sa sn sc]] w fun e w' => (∃ ta cap, e = .returned (MV r c ta sn cap) ∧ FlM w' ta sn cap xs) ∧ Below w.heap.size w w' := by
  obtain ⟨t1, t2, t3, t4⟩ := two_b w (B6Box r c sa sn sc) (MBox 0 0 none 0 0)
  obtain ⟨V, hV⟩ : ∃ V, Hid ((w.alloc (B6Box r c sa sn sc)).alloc (MBox 0 0 none 0 0) = V) := ⟨_, rfl⟩
  rw [hV.out] at t1 t2 t3 t4
  have hV' := hV.out
  have HBV := hid t3
  have HR := hid t2
  have HA0 := hid t1
  obtain ⟨x0, x1, x2⟩ := b6cells_of t1
  have HLD := hid (l16_any sa sn sc xs V.drew ((hu.below t3).below ((Below.refl _ _).drew)) hn)
  unfold MBox B6Box at hV'
  unfold MV
  clear hu hn t1 t2 t3 t4
  go_enter Try.func21, Try.ntmps21
  go_wp2_with fail
  have HQ0 : Hid (Fr3 w V.drew w.heap.size (w.heap.size + 1) (B6Box r c sa sn sc) (MBox 0 0 none 0 0)) := (show Fr3 w V w.heap.size (w.heap.size + 1) (B6Box r c sa sn sc) (MBox 0 0 none 0 0) from ⟨HBV.out, HA0.out, HR.out⟩).drew
  have HKS : Hid (∀ W, Hid (Fr3 w W w.heap.size (w.heap.size + 1) (B6Box r c sa sn sc) (MBox 0 0 none 0 0)) → (W.cell? ⟨w.heap.size, 0, none⟩ = some (.int .i64 r) ∧ W.cell? ⟨w.heap.size, 1, none⟩ = some (.int .i64 c) ∧ W.cell? ⟨w.heap.size, 2, none⟩ = some (.slice sa sn sc))) := fun W hW => b6cells_of hW.out.2.1
  have HST : Hid (∀ W, Hid (Fr3 w W w.heap.size (w.heap.size + 1) (B6Box r c sa sn sc) (MBox 0 0 none 0 0)) → ∀ r2 c2 s2 n2 k2, ((((W.setCell ⟨w.heap.size + 1, 0, none⟩ (.int .i64 r2)).setCell ⟨w.heap.size + 1, 1, none⟩ (.int .i64 c2)).setCell ⟨w.heap.size + 1, 2, none⟩ (.slice s2 n2 k2)).cell? ⟨w.heap.size, 0, none⟩ = some (.int .i64 r) ∧ (((W.setCell ⟨w.heap.size + 1, 0, none⟩ (.int .i64 r2)).setCell ⟨w.heap.size + 1, 1, none⟩ (.int .i64 c2)).setCell ⟨w.heap.size + 1, 2, none⟩ (.slice s2 n2 k2)).cell? ⟨w.heap.size, 1, none⟩ = some (.int .i64 c) ∧ (((W.setCell ⟨w.heap.size + 1, 0, none⟩ (.int .i64 r2)).setCell ⟨w.heap.size + 1, 1, none⟩ (.int .i64 c2)).setCell ⟨w.heap.size + 1, 2, none⟩ (.slice s2 n2 k2)).cell? ⟨w.heap.size, 2, none⟩ = some (.slice sa sn sc))) := fun W hW r2 c2 s2 n2 k2 => b6cells_of (w := StoM W (w.heap.size + 1) r2 c2 s2 n2 k2) ((StoM.keep (by omega)).trans hW.out.2.1)
  refine wp_region_held_drew (S := fun W => W.cell? ⟨w.heap.size, 0, none⟩ = some (.int .i64 r) ∧ W.cell? ⟨w.heap.size, 1, none⟩ = some (.int .i64 c) ∧ W.cell? ⟨w.heap.size, 2, none⟩ = some (.slice sa sn sc)) (by kernel_rfl) (HKS.out _ HQ0) (fun hHeld => ?_)
  refine take_at 0 3 (.pointer (some ⟨w.heap.size, 0, none⟩)) rfl rfl (by kernel_rfl) (by kernel_rfl) (by kernel_rfl) (fun _ _ _ h => h) (Or.inl ⟨by rfl, fun w hSw => by (try dsimp only at hSw); go_simp⟩) (by assumption) ?_
  simp only [Act.put, List.setIfInBounds_toArray, List.set_cons_zero, List.set_cons_succ]
  refine take_at 1 4 (.int .i64 r) rfl rfl (by kernel_rfl) (by kernel_rfl) (by kernel_rfl) (fun _ _ _ h => h) (Or.inl ⟨by rfl, fun w hSw => by (try dsimp only at hSw); go_simp⟩) (by assumption) ?_
  simp only [Act.put, List.setIfInBounds_toArray, List.set_cons_zero, List.set_cons_succ]
  refine take_at 2 5 (.pointer (some ⟨w.heap.size, 1, none⟩)) rfl rfl (by kernel_rfl) (by kernel_rfl) (by kernel_rfl) (fun _ _ _ h => h) (Or.inl ⟨by rfl, fun w hSw => by (try dsimp only at hSw); go_simp⟩) (by assumption) ?_
  simp only [Act.put, List.setIfInBounds_toArray, List.set_cons_zero, List.set_cons_succ]
  refine take_at 3 6 (.int .i64 c) rfl rfl (by kernel_rfl) (by kernel_rfl) (by kernel_rfl) (fun _ _ _ h => h) (Or.inl ⟨by rfl, fun w hSw => by (try dsimp only at hSw); go_simp⟩) (by assumption) ?_
  simp only [Act.put, List.setIfInBounds_toArray, List.set_cons_zero, List.set_cons_succ]
  refine take_at 4 7 (.pointer (some ⟨w.heap.size, 2, none⟩)) rfl rfl (by kernel_rfl) (by kernel_rfl) (by kernel_rfl) (fun _ _ _ h => h) (Or.inl ⟨by rfl, fun w hSw => by (try dsimp only at hSw); go_simp⟩) (by assumption) ?_
  simp only [Act.put, List.setIfInBounds_toArray, List.set_cons_zero, List.set_cons_succ]
  refine take_at 5 8 (.slice sa sn sc) rfl rfl (by kernel_rfl) (by kernel_rfl) (by kernel_rfl) (fun _ _ _ h => h) (Or.inl ⟨by rfl, fun w hSw => by (try dsimp only at hSw); go_simp⟩) (by assumption) ?_
  simp only [Act.put, List.setIfInBounds_toArray, List.set_cons_zero, List.set_cons_succ]
  refine wpAnyH_ready (rs := [6]) (by kernel_rfl) (by simp) ?_
  refine AllReadyH.cons (o := _) rfl (fun K hK => ?_) AllReadyH.nil
  go_simp
  refine HLD.out.mono ?_
  rintro e u1 ⟨ta, cap, rfl, hf1, hb1⟩
  have HG1 := hid (HQ0.out.call hb1)
  have HF1 := hid hf1
  clear hf1 hb1
  go_wp2_with fail
  refine hK.out _ _ (HKS.out _ HG1) (fun hHeld1 => ?_)
  clear hK K
  try simp only [Act.put, List.setIfInBounds_toArray, List.set_cons_zero, List.set_cons_succ]
  refine take_at 7 10 (.agg #[.int .i64 r, .int .i64 c, .slice ta sn cap]) rfl rfl (by kernel_rfl) (by kernel_rfl) (by kernel_rfl) (fun _ _ _ h => h) (Or.inl ⟨by rfl, fun w hSw => by (try dsimp only at hSw); go_simp⟩) (by assumption) ?_
  simp only [Act.put, List.setIfInBounds_toArray, List.set_cons_zero, List.set_cons_succ]
  obtain ⟨y0, y1, y2⟩ := mcells_of HG1.out.2.2
  have fz := frzM HG1.out.2.2
  refine wpAnyH_ready (rs := [8]) (by kernel_rfl) (by simp) ?_
  refine AllReadyH.cons (o := _) rfl (fun K hK => ?_) AllReadyH.nil
  go_simp
  go_wp2_with fail
  refine hK.out _ _ (HST.out _ HG1 _ _ _ _ _) (fun hHeld2 => ?_)
  clear hK K
  try simp only [Act.put, List.setIfInBounds_toArray, List.set_cons_zero, List.set_cons_succ]
  refine wpAnyH_done (by kernel_rfl) ?_ _
  go_wp2_with fail
  exact bodyPost_ret (v := MV r c ta sn cap) (by simp [results, Try.results21, go_sem, y0, y1, y2, MV]) rfl ⟨⟨ta, cap, rfl, sto_fl HF1.out HG1.out.2.2⟩, StoM.below HG1.out.1 (by omega)⟩
set_option maxHeartbeats 400000 in
theorem same16_any (x y : Nat) (w : World) (hy : y < 18446744073709551616) : Calls Try.prog 10 #[.float .f64 x, .float .f64 y] w fun e w' => e = .returned (.bool (x == canonOf y)) ∧ w' = w := by
  have h1 := f64bits
  have HB := hid (fun W => bitsM_any y W hy)
  clear hy
  go_enter Try.func10, Try.ntmps10
  go_wp2_with fail
  refine (HB.out _).mono ?_
  rintro e w1 ⟨rfl, rfl⟩
  go_wp2_with fail
  go_ret
  exact ⟨ret_bool (nat_beq _ _), rfl⟩
set_option maxHeartbeats 400000 in
theorem f16_any (x : Nat) (w : World) : Calls Try.prog 8 #[.int .u64 x] w fun e w' => e = .returned (.float .f64 x) ∧ w' = w := by
  have h1 := f64from
  go_enter Try.func8, Try.ntmps8
  go_wp2
  go_ret
  exact ⟨rfl, rfl⟩
/-- What a root's variable holds are no two numbers side by side: a list of numbers stays as it was when the variable is written. -/
theorem fl_rsto {W : World} {q k kx n ka : Nat} {xa sa ta : Option Addr} {r c : Int} {m cap : Nat} {xs : List Nat} (h : FlM W ta m cap xs) (hq : W.heap[q]? = some (RBox xa k kx r c sa n ka)) {x y z u : Value} : FlM ((((W.setCell ⟨q, 0, none⟩ x).setCell ⟨q, 1, none⟩ y).setCell ⟨q, 2, none⟩ z).setCell ⟨q, 3, none⟩ u) ta m cap xs := by
  obtain ⟨h1, h2, h3 | ⟨b, off, rfl, h4, h5, h6, h7⟩⟩ := h
  · exact ⟨h1, h2, Or.inl h3⟩
  · refine ⟨h1, h2, Or.inr ⟨b, off, rfl, by simpa [World.setCell] using h4, h5, h6, fun j hj => ?_⟩⟩
    have hb : b ≠ q := fun e => by
      subst e
      have h8 := h7 j hj
      obtain ⟨e0, e1, e2, e3⟩ := rcells_of hq
      obtain ⟨i, hi⟩ : ∃ i, off + j = i := ⟨_, rfl⟩
      rw [hi] at h8
      rcases i with _ | _ | _ | _ | i
      · exact absurd (h8.symm.trans e0) (by simp)
      · exact absurd (h8.symm.trans e1) (by simp)
      · exact absurd (h8.symm.trans e2) (by simp)
      · exact absurd (h8.symm.trans e3) (by simp)
      · unfold RBox at hq
        simp [World.cell?, hq] at h8
    refine (World.cell?_of_block ?_).trans (h7 j hj)
    show _ = W.heap[b]?
    rw [set_keepM hb, set_keepM hb, set_keepM hb, set_keepM hb]
set_option maxRecDepth 8000 in
set_option maxHeartbeats 4000000 in
theorem of16_any (sa : Option Addr) (n ka : Nat) (xs : List Nat) (r c : Int) (sb : Option Addr) (m kb : Nat) (ys : List Nat) (w : World) (hu : U64At w sa n xs) (hn : n ≤ 17592186043904) (hv : U64At w sb m ys) (hm : m ≤ 17592186043904) :
    Calls Try.prog 6 #[.slice sa n ka, .agg #[.int .i64 r, .int .i64 c, .slice sb m kb]] w fun e w' => (∃ ta ca tb cb, e = .returned (.agg #[.slice ta n ca, .int .i64 r, .int .i64 c, .slice tb m cb]) ∧ FlM w' ta n ca xs ∧ FlM w' tb m cb ys) ∧ Below w.heap.size w w' := by
  have HL := hid (fun W (hW : Below w.heap.size w W) => l16_any sa n ka xs W (hu.below hW) hn)
  have HM := hid (fun W (hW : Below w.heap.size w W) => mat16_any r c sb m kb ys W (hv.below hW) hm)
  obtain ⟨t1, t2, t3, t4⟩ := two_b w (B6Box r c sb m kb) (RBox none 0 0 0 0 none 0 0)
  obtain ⟨V, hV⟩ : ∃ t, Hid ((w.alloc (B6Box r c sb m kb)).alloc (RBox none 0 0 0 0 none 0 0) = t) := ⟨_, rfl⟩
  obtain ⟨p, hp⟩ : ∃ t, Hid (w.heap.size = t) := ⟨_, rfl⟩
  obtain ⟨q, hq⟩ : ∃ t, Hid (p + 1 = t) := ⟨_, rfl⟩
  rw [hV.out] at t1 t2 t3
  rw [hp.out] at t1 t2
  rw [hq.out] at t2
  have hV' := hV.out
  unfold B6Box RBox at hV'
  have hp' := hp.out
  have hq' := hq.out
  have HPQ : Hid (p ≠ q ∧ w.heap.size ≤ q) := by have := hp.out; have := hq.out; exact ⟨by omega, by omega⟩
  have HF0 : Hid (FrO w V p q (B6Box r c sb m kb) (RBox none 0 0 0 0 none 0 0)) := ⟨t3, t1, t2⟩
  have HQ0 : Hid (FrO w V.drew p q (B6Box r c sb m kb) (RBox none 0 0 0 0 none 0 0)) := ⟨t3.drew, t1, t2⟩
  obtain ⟨x0, x1, x2⟩ := b6cells_of t1
  have HKS : Hid (∀ W, Hid (FrO w W p q (B6Box r c sb m kb) (RBox none 0 0 0 0 none 0 0)) → (W.cell? ⟨p, 0, none⟩ = some (.int .i64 r) ∧ W.cell? ⟨p, 1, none⟩ = some (.int .i64 c) ∧ W.cell? ⟨p, 2, none⟩ = some (.slice sb m kb)) ∧ Hid (FrO w W p q (B6Box r c sb m kb) (RBox none 0 0 0 0 none 0 0))) := fun W hW => by
    obtain ⟨a0, a1, a2⟩ := b6cells_of hW.out.2.1
    exact ⟨⟨a0, a1, a2⟩, hW⟩
  clear hu hv hn hm t1 t2 t3 t4
  go_enter Try.func6, Try.ntmps6
  go_wp2_with fail
  refine wp_region_held_drew (S := fun W => (W.cell? ⟨p, 0, none⟩ = some (.int .i64 r) ∧ W.cell? ⟨p, 1, none⟩ = some (.int .i64 c) ∧ W.cell? ⟨p, 2, none⟩ = some (.slice sb m kb))) (by kernel_rfl) (HKS.out _ HQ0).1 (fun hHeld => ?_)
  refine take_at 0 5 (.slice sa n ka) rfl rfl (by kernel_rfl) (by kernel_rfl) (by kernel_rfl) (fun _ _ _ h => h) (Or.inl ⟨by rfl, fun w hSw => by (try dsimp only at hSw); go_simp⟩) (by assumption) ?_
  simp only [Act.put, List.setIfInBounds_toArray, List.set_cons_zero, List.set_cons_succ]
  refine take_at 2 7 (.agg #[.int .i64 r, .int .i64 c, .slice sb m kb]) rfl rfl (by kernel_rfl) (by kernel_rfl) (by kernel_rfl) (fun _ _ _ h => h) (Or.inl ⟨by rfl, fun w hSw => by (try dsimp only at hSw); go_simp⟩) (by assumption) ?_
  simp only [Act.put, List.setIfInBounds_toArray, List.set_cons_zero, List.set_cons_succ]
  refine wpAnyH_ready (rs := [1]) (by kernel_rfl) (by simp) ?_
  refine AllReadyH.cons (o := _) rfl (fun K hK => ?_) AllReadyH.nil
  go_simp
  refine (HL.out _ HQ0.out.1).mono ?_
  rintro e u1 ⟨ta, ca, rfl, hf, hb⟩
  have HQ1 : Hid (FrO w u1 p q (B6Box r c sb m kb) (RBox none 0 0 0 0 none 0 0)) := HQ0.out.call hb
  have HFA := hid hf
  clear hf hb
  go_wp2_with fail
  refine hK.out _ _ (HKS.out _ HQ1).1 (fun hHeld1 => ?_)
  clear hK K
  try simp only [Act.put, List.setIfInBounds_toArray, List.set_cons_zero, List.set_cons_succ]
  refine wpAnyH_ready (rs := [3]) (by kernel_rfl) (by simp) ?_
  refine AllReadyH.cons (o := _) rfl (fun K hK => ?_) AllReadyH.nil
  go_simp
  refine (HM.out _ HQ1.out.1).mono ?_
  rintro e u2 ⟨⟨tb, cb, rfl, hf⟩, hb⟩
  have HQ2 : Hid (FrO w u2 p q (B6Box r c sb m kb) (RBox none 0 0 0 0 none 0 0)) := HQ1.out.call hb
  have HFA2 := hid (HFA.out.below hb)
  have HFB := hid hf
  clear hf hb
  unfold MV
  go_wp2_with fail
  refine hK.out _ _ (HKS.out _ HQ2).1 (fun hHeld2 => ?_)
  clear hK K
  try simp only [Act.put, List.setIfInBounds_toArray, List.set_cons_zero, List.set_cons_succ]
  refine take_at 4 9 (.agg #[.slice ta n ca, .int .i64 r, .int .i64 c, .slice tb m cb]) rfl rfl (by kernel_rfl) (by kernel_rfl) (by kernel_rfl) (fun _ _ _ h => h) (Or.inl ⟨by rfl, fun w hSw => by (try dsimp only at hSw); go_simp⟩) (by assumption) ?_
  simp only [Act.put, List.setIfInBounds_toArray, List.set_cons_zero, List.set_cons_succ]
  obtain ⟨c0, c1, c2, c3⟩ := rcells_of HQ2.out.2.2
  have fz := rfrz HQ2.out.2.2
  obtain ⟨U, hU⟩ : ∃ t, Hid (((((u2.setCell ⟨q, 0, none⟩ (.slice ta n ca)).setCell ⟨q, 1, none⟩ (.int .i64 r)).setCell ⟨q, 2, none⟩ (.int .i64 c)).setCell ⟨q, 3, none⟩ (.slice tb m cb)) = t) := ⟨_, rfl⟩
  have hbU : Below w.heap.size w U := by rw [← hU.out]; exact rsto_below HQ2.out.1 HPQ.out.2 _ _ _ _
  have hpU : U.heap[p]? = some (B6Box r c sb m kb) := by rw [← hU.out, set_keepM HPQ.out.1, set_keepM HPQ.out.1, set_keepM HPQ.out.1, set_keepM HPQ.out.1]; exact HQ2.out.2.1
  have hqU : U.heap[q]? = some (RBox ta n ca r c tb m cb) := by rw [← hU.out]; exact set4 HQ2.out.2.2
  have HSU : Hid ((U.cell? ⟨p, 0, none⟩ = some (.int .i64 r) ∧ U.cell? ⟨p, 1, none⟩ = some (.int .i64 c) ∧ U.cell? ⟨p, 2, none⟩ = some (.slice sb m kb))) := b6cells_of hpU
  have HFA3 : Hid (FlM U ta n ca xs) := by rw [← hU.out]; exact fl_rsto HFA2.out HQ2.out.2.2
  have HFB3 : Hid (FlM U tb m cb ys) := by rw [← hU.out]; exact fl_rsto HFB.out HQ2.out.2.2
  have hU' := hU.out
  have HBU := hid hbU
  obtain ⟨g0, g1, g2, g3⟩ := rcells_of hqU
  clear hbU hpU hqU
  refine wpAnyH_ready (rs := [5]) (by kernel_rfl) (by simp) ?_
  refine AllReadyH.cons (o := _) rfl (fun K hK => ?_) AllReadyH.nil
  go_simp
  go_wp2_with fail
  refine hK.out _ _ HSU.out (fun hHeld3 => ?_)
  clear hK K
  try simp only [Act.put, List.setIfInBounds_toArray, List.set_cons_zero, List.set_cons_succ]
  refine wpAnyH_done (by kernel_rfl) ?_ _
  go_wp2_with fail
  refine bodyPost_ret (v := .agg #[.slice ta n ca, .int .i64 r, .int .i64 c, .slice tb m cb]) (by simp [results, Try.results6, go_sem, g0, g1, g2, g3]) rfl ⟨⟨ta, ca, tb, cb, rfl, HFA3.out, HFB3.out⟩, ?_⟩
  first | exact HBU.out | (rw [← hp.out]; exact HBU.out)
end Go.Proofs.Ythakhmnlpmfdgaa
