
/- The document's Stack, of two that are good. (Written by mkndl.py.) -/
import Derived.Test.YtjaljdodlfmebaaP46
import Derived.Test.YtjaljdodlfmebaaP45
import Derived.Test.YtjaljdodlfmebaaP38
namespace Go.Proofs.Ytjaljdodlfmebaa
open Go.RowKit Go.IntWalk

theorem kept_k (p : Prop) : Kept (fun _ => p) := ⟨fun _ _ _ h => h, fun _ _ _ _ _ _ _ _ _ _ _ _ _ h => h⟩
theorem bsd_finF {c r r2 : Nat} {o1 o2 o3 : Nat → Nat} (h1 : finF (c * r) o1 = true) (h2 : finF (c * r2) o2 = true) (h3 : ∀ u v, u < c → v < r + r2 → o3 (u * (r + r2) + v) = if v < r then o1 (u * r + v) else o2 (u * r2 + (v - r))) : finF (c * (r + r2)) o3 = true := by
  rw [finF_iff] at h1 h2 ⊢
  intro k hk
  obtain ⟨q1, q2, q3⟩ := split_k hk
  rw [← q3, h3 _ _ q1 q2]
  by_cases h : k % (r + r2) < r
  · rw [if_pos h]; exact h1 _ (place_lt q1 h)
  · rw [if_neg h]; exact h2 _ (place_lt q1 (by omega))
theorem stk_bsd {c r r2 : Nat} {f f2 o1 o2 o3 : Nat → Nat} (h1 : ∀ i j, i < c → j < r → o1 (i * r + j) = f (j * c + i)) (h2 : ∀ i j, i < c → j < r2 → o2 (i * r2 + j) = f2 (j * c + i)) (h3 : ∀ u v, u < c → v < r + r2 → o3 (u * (r + r2) + v) = if v < r then o1 (u * r + v) else o2 (u * r2 + (v - r))) : ∀ u v, u < c → v < r + r2 → o3 (u * (r + r2) + v) = if v < r then f (v * c + u) else f2 ((v - r) * c + u) := by
  intro u v hu hv
  rw [h3 u v hu hv]
  by_cases h : v < r
  · rw [if_pos h, if_pos h, h1 u v hu h]
  · rw [if_neg h, if_neg h, h2 u (v - r) hu (by omega)]
theorem stk_fin {c r r2 : Nat} {f f2 o3 : Nat → Nat} (h1 : finF (r * c) f = true) (h2 : finF (r2 * c) f2 = true) (h3 : ∀ u v, u < c → v < r + r2 → o3 (u * (r + r2) + v) = if v < r then f (v * c + u) else f2 ((v - r) * c + u)) : finF (c * (r + r2)) o3 = true := by
  rw [finF_iff] at h1 h2 ⊢
  intro k hk
  obtain ⟨q1, q2, q3⟩ := split_k hk
  rw [← q3, h3 _ _ q1 q2]
  by_cases h : k % (r + r2) < r
  · rw [if_pos h]; exact h1 _ (place_lt h q1)
  · rw [if_neg h]; exact h2 _ (place_lt (by omega) q1)
set_option maxRecDepth 4000 in
set_option maxHeartbeats 4000000 in
theorem rStack_ok (r c r2 n n2 : Nat) (sa sb : Option Addr) (ka kb : Nat) (f f2 : Nat → Nat) (w : World) (ha : Gd w r c sa n ka f) (hb : Gd w r2 c sb n2 kb f2) (hs : r + r2 ≤ 12) :
    Calls Try.prog 18 #[.agg #[.int .i64 r, .int .i64 c, .slice sa n ka], .agg #[.int .i64 r2, .int .i64 c, .slice sb n2 kb]] w fun e w' => (∃ (g : Nat) (o : Nat → Nat), e = .returned (.tuple #[.agg #[.int .i64 ((r + r2 : Nat) : Int), .int .i64 c, .slice (some ⟨g, 0, none⟩) ((r + r2) * c) ((r + r2) * c)], .int .i64 0]) ∧ FnM w' (some ⟨g, 0, none⟩) ((r + r2) * c) ((r + r2) * c) o ∧ ∀ u v, u < r + r2 → v < c → o (u * c + v) = if u < r then f (u * c + v) else f2 ((u - r) * c + v)) ∧ Below w.heap.size w w' := by
  obtain ⟨N1, hN1⟩ : ∃ t, c * r = t := ⟨_, rfl⟩
  obtain ⟨N2, hN2⟩ : ∃ t, c * r2 = t := ⟨_, rfl⟩
  have HTA : Hid (∀ W, FnM W sa n ka f → Calls Try.prog 8 #[.agg #[.int .i64 r, .int .i64 c, .slice sa n ka]] W fun e w' => (∃ (g : Nat) (o : Nat → Nat), e = .returned (.agg #[.int .i64 c, .int .i64 r, .slice (some ⟨g, 0, none⟩) N1 N1]) ∧ FnM w' (some ⟨g, 0, none⟩) N1 N1 o ∧ ∀ i j, i < c → j < r → o (i * r + j) = f (j * c + i)) ∧ Below W.heap.size W w') := fun W h => by
    rw [← hN1]
    exact rTrans_ok r c n sa ka f W ⟨ha.1, ha.2.1, ha.2.2.1, h, ha.2.2.2.2⟩
  have HTB : Hid (∀ W, FnM W sb n2 kb f2 → Calls Try.prog 8 #[.agg #[.int .i64 r2, .int .i64 c, .slice sb n2 kb]] W fun e w' => (∃ (g : Nat) (o : Nat → Nat), e = .returned (.agg #[.int .i64 c, .int .i64 r2, .slice (some ⟨g, 0, none⟩) N2 N2]) ∧ FnM w' (some ⟨g, 0, none⟩) N2 N2 o ∧ ∀ i j, i < c → j < r2 → o (i * r2 + j) = f2 (j * c + i)) ∧ Below W.heap.size W w') := fun W h => by
    rw [← hN2]
    exact rTrans_ok r2 c n2 sb kb f2 W ⟨hb.1, hb.2.1, hb.2.2.1, h, hb.2.2.2.2⟩
  have HBS : Hid (∀ W g1 (o1 : Nat → Nat) g2 (o2 : Nat → Nat), FnM W (some ⟨g1, 0, none⟩) N1 N1 o1 → (∀ i j, i < c → j < r → o1 (i * r + j) = f (j * c + i)) → FnM W (some ⟨g2, 0, none⟩) N2 N2 o2 → (∀ i j, i < c → j < r2 → o2 (i * r2 + j) = f2 (j * c + i)) → Calls Try.prog 16 #[.agg #[.int .i64 c, .int .i64 r, .slice (some ⟨g1, 0, none⟩) N1 N1], .agg #[.int .i64 c, .int .i64 r2, .slice (some ⟨g2, 0, none⟩) N2 N2]] W fun e w' => (∃ (g : Nat) (o : Nat → Nat), e = .returned (.tuple #[.agg #[.int .i64 c, .int .i64 ((r + r2 : Nat) : Int), .slice (some ⟨g, 0, none⟩) (c * (r + r2)) (c * (r + r2))], .int .i64 0]) ∧ FnM w' (some ⟨g, 0, none⟩) (c * (r + r2)) (c * (r + r2)) o ∧ ∀ u v, u < c → v < r + r2 → o (u * (r + r2) + v) = if v < r then f (v * c + u) else f2 ((v - r) * c + u)) ∧ Below W.heap.size W w') := fun W g1 o1 g2 o2 h1 v1 h2 v2 => by
    rw [← hN1] at h1 ⊢
    rw [← hN2] at h2 ⊢
    refine (rBeside_ok c r r2 _ _ (some ⟨g1, 0, none⟩) (some ⟨g2, 0, none⟩) _ _ o1 o2 W ⟨ha.2.1, ha.1, rfl, h1, fin_turn ha.2.2.1 ha.2.2.2.2 v1⟩ ⟨hb.2.1, hb.1, rfl, h2, fin_turn hb.2.2.1 hb.2.2.2.2 v2⟩ hs).mono ?_
    rintro e w' ⟨⟨g, o, rfl, hf, hv⟩, hbb⟩
    exact ⟨⟨g, o, rfl, hf, stk_bsd v1 v2 hv⟩, hbb⟩
  have HT3 : Hid (∀ W g (o : Nat → Nat), FnM W (some ⟨g, 0, none⟩) (c * (r + r2)) (c * (r + r2)) o → (∀ u v, u < c → v < r + r2 → o (u * (r + r2) + v) = if v < r then f (v * c + u) else f2 ((v - r) * c + u)) → Calls Try.prog 8 #[.agg #[.int .i64 c, .int .i64 ((r + r2 : Nat) : Int), .slice (some ⟨g, 0, none⟩) (c * (r + r2)) (c * (r + r2))]] W fun e w' => (∃ (g : Nat) (o : Nat → Nat), e = .returned (.agg #[.int .i64 ((r + r2 : Nat) : Int), .int .i64 c, .slice (some ⟨g, 0, none⟩) ((r + r2) * c) ((r + r2) * c)]) ∧ FnM w' (some ⟨g, 0, none⟩) ((r + r2) * c) ((r + r2) * c) o ∧ ∀ u v, u < r + r2 → v < c → o (u * c + v) = if u < r then f (u * c + v) else f2 ((u - r) * c + v)) ∧ Below W.heap.size W w') := fun W g o h hv => by
    have hfa := ha.2.2.2.2
    have hfb := hb.2.2.2.2
    rw [ha.2.2.1] at hfa
    rw [hb.2.2.1] at hfb
    refine (rTrans_ok c (r + r2) _ _ _ o W ⟨ha.2.1, hs, rfl, h, stk_fin hfa hfb hv⟩).mono ?_
    rintro e w' ⟨⟨g2, o2, rfl, hf, hv2⟩, hbb⟩
    exact ⟨⟨g2, o2, rfl, hf, fun u v hu hv3 => by rw [hv2 u v hu hv3, hv v u hv3 hu]⟩, hbb⟩
  obtain ⟨R, hR⟩ : ∃ t, Hid (r + r2 = t) := ⟨_, rfl⟩
  rw [hR.out] at HBS HT3
  rw [hR.out]
  rw [Nat.mul_comm R c]
  rw [Nat.mul_comm R c] at HT3
  obtain ⟨N, hN⟩ : ∃ t, Hid (c * R = t) := ⟨_, rfl⟩
  rw [hN.out] at HBS HT3
  rw [hN.out]
  have HF : Hid (FrQ w (((w.alloc (MBox r c sa n ka)).alloc (MBox r2 c sb n2 kb)).alloc (MBox 0 0 none 0 0)) [(w.heap.size + 1 + 1, MBox 0 0 none 0 0), (w.heap.size + 1, MBox r2 c sb n2 kb), (w.heap.size, MBox r c sa n ka)] [fun W => FnM W sa n ka f, fun W => FnM W sb n2 kb f2]) := by
    have := (((((FrQ.start w).add (g := fun W => FnM W sb n2 kb f2) (kept_fn _ _ _ _) hb.2.2.2.1).add (g := fun W => FnM W sa n ka f) (kept_fn _ _ _ _) ha.2.2.2.1).alloc (MBox r c sa n ka)).alloc (MBox r2 c sb n2 kb)).alloc (MBox 0 0 none 0 0)
    rw [show (w.alloc (MBox r c sa n ka)).heap.size = w.heap.size + 1 from by simp, show ((w.alloc (MBox r c sa n ka)).alloc (MBox r2 c sb n2 kb)).heap.size = w.heap.size + 1 + 1 from by simp] at this
    exact this
  obtain ⟨V, hV⟩ : ∃ V, Hid (((w.alloc (MBox r c sa n ka)).alloc (MBox r2 c sb n2 kb)).alloc (MBox 0 0 none 0 0) = V) := ⟨_, rfl⟩
  obtain ⟨p0, hp0⟩ : ∃ t, Hid (w.heap.size = t) := ⟨_, rfl⟩
  obtain ⟨p1, hp1⟩ : ∃ t, Hid (p0 + 1 = t) := ⟨_, rfl⟩
  obtain ⟨rb, hrb⟩ : ∃ t, Hid (p1 + 1 = t) := ⟨_, rfl⟩
  rw [hV.out, hp0.out, hp1.out, hrb.out] at HF
  have hV' := hV.out
  unfold MBox at hV'
  have hp0' := hp0.out
  have hp1' := hp1.out
  have hrb' := hrb.out
  clear ha hb hs hN1 hN2
  go_enter Try.func18, Try.ntmps18
  have HKT : Hid (∀ W, Hid (FrQ w W [(rb, MBox 0 0 none 0 0), (p1, MBox r2 c sb n2 kb), (p0, MBox r c sa n ka)] [fun W => FnM W sa n ka f, fun W => FnM W sb n2 kb f2]) → (W.cell? ⟨p0, 0, none⟩ = some (.int .i64 r) ∧ W.cell? ⟨p0, 1, none⟩ = some (.int .i64 c) ∧ W.cell? ⟨p0, 2, none⟩ = some (.slice sa n ka) ∧ W.cell? ⟨p1, 0, none⟩ = some (.int .i64 r2) ∧ W.cell? ⟨p1, 1, none⟩ = some (.int .i64 c) ∧ W.cell? ⟨p1, 2, none⟩ = some (.slice sb n2 kb)) ∧ Hid (FrQ w W [(rb, MBox 0 0 none 0 0), (p1, MBox r2 c sb n2 kb), (p0, MBox r c sa n ka)] [fun W => FnM W sa n ka f, fun W => FnM W sb n2 kb f2])) := fun W hW => by
    obtain ⟨a00, a01, a02⟩ := mcells_of (hW.out.at 2 rfl : W.heap[p0]? = some (MBox r c sa n ka))
    obtain ⟨a10, a11, a12⟩ := mcells_of (hW.out.at 1 rfl : W.heap[p1]? = some (MBox r2 c sb n2 kb))
    exact ⟨⟨a00, a01, a02, a10, a11, a12⟩, hW⟩
  have HQ0 : Hid (FrQ w V.drew [(rb, MBox 0 0 none 0 0), (p1, MBox r2 c sb n2 kb), (p0, MBox r c sa n ka)] [fun W => FnM W sa n ka f, fun W => FnM W sb n2 kb f2]) := HF.out.drew
  have HQS0 : Hid (FrQ w V.drew [(rb, MBox 0 0 none 0 0), (p1, MBox r2 c sb n2 kb), (p0, MBox r c sa n ka)] [fun W => FnM W sa n ka f, fun W => FnM W sb n2 kb f2]) := HQ0.out.sub (.cons_cons _ (.cons_cons _ (.cons_cons _ .slnil))) (.cons_cons _ (.cons_cons _ .slnil))
  go_wp2_with fail
  refine region_merge2 (fun a0 a' w' => ∃ (g1 : Nat) (o1 : Nat → Nat) (g2 : Nat) (o2 : Nat → Nat) (g3 : Nat) (o3 : Nat → Nat) (mb : Nat), a' = Act.put (Act.put (Act.put (Act.put (Act.put (Act.put (Act.put (Act.put (Act.put (Act.put (a0) (some 9) (.agg #[.int .i64 r, .int .i64 c, .slice sa n ka])) (some 11) (.agg #[.int .i64 r2, .int .i64 c, .slice sb n2 kb])) (some 10) (.agg #[.int .i64 c, .int .i64 r, .slice (some ⟨g1, 0, none⟩) N1 N1])) (some 12) (.agg #[.int .i64 c, .int .i64 r2, .slice (some ⟨g2, 0, none⟩) N2 N2])) (some 13) (.tuple #[.agg #[.int .i64 c, .int .i64 R, .slice (some ⟨g3, 0, none⟩) N N], .int .i64 0])) (some 8) (.tuple #[.agg #[.int .i64 c, .int .i64 R, .slice (some ⟨g3, 0, none⟩) N N], .int .i64 0])) (some 14) (.agg #[.int .i64 c, .int .i64 R, .slice (some ⟨g3, 0, none⟩) N N])) (some 15) (.int .i64 0)) (some 6) (.pointer (some ⟨mb, 0, none⟩))) (some 7) (.int .i64 0) ∧ FrQ w w' [(mb, MBox c R (some ⟨g3, 0, none⟩) N N), (rb, MBox 0 0 none 0 0), (p1, MBox r2 c sb n2 kb), (p0, MBox r c sa n ka)] [fun _ => (∀ u v, u < c → v < R → o3 (u * R + v) = if v < r then f (v * c + u) else f2 ((v - r) * c + u)), fun W => FnM W (some ⟨g3, 0, none⟩) N N o3, fun W => FnM W (some ⟨g2, 0, none⟩) N2 N2 o2, fun W => FnM W (some ⟨g1, 0, none⟩) N1 N1 o1, fun W => FnM W sa n ka f, fun W => FnM W sb n2 kb f2]) (fun HR => ?_) ?_
  · simp only [Act.put, List.setIfInBounds_toArray, List.set_cons_zero, List.set_cons_succ] at HR
    refine wp_region_held_drew (S := fun W => (W.cell? ⟨p0, 0, none⟩ = some (.int .i64 r) ∧ W.cell? ⟨p0, 1, none⟩ = some (.int .i64 c) ∧ W.cell? ⟨p0, 2, none⟩ = some (.slice sa n ka) ∧ W.cell? ⟨p1, 0, none⟩ = some (.int .i64 r2) ∧ W.cell? ⟨p1, 1, none⟩ = some (.int .i64 c) ∧ W.cell? ⟨p1, 2, none⟩ = some (.slice sb n2 kb)) ∧ Hid (FrQ w W [(rb, MBox 0 0 none 0 0), (p1, MBox r2 c sb n2 kb), (p0, MBox r c sa n ka)] [fun W => FnM W sa n ka f, fun W => FnM W sb n2 kb f2])) (by kernel_rfl) (HKT.out _ HQS0) (fun hHeld => ?_)
    refine take_at 0 9 (.agg #[.int .i64 r, .int .i64 c, .slice sa n ka]) rfl rfl (by kernel_rfl) (by kernel_rfl) (by kernel_rfl) (fun _ _ _ h => h) (Or.inl ⟨by rfl, fun w hSw => by (try dsimp only at hSw); go_simp⟩) (by assumption) ?_
    simp only [Act.put, List.setIfInBounds_toArray, List.set_cons_zero, List.set_cons_succ]
    refine take_at 2 11 (.agg #[.int .i64 r2, .int .i64 c, .slice sb n2 kb]) rfl rfl (by kernel_rfl) (by kernel_rfl) (by kernel_rfl) (fun _ _ _ h => h) (Or.inl ⟨by rfl, fun w hSw => by (try dsimp only at hSw); go_simp⟩) (by assumption) ?_
    simp only [Act.put, List.setIfInBounds_toArray, List.set_cons_zero, List.set_cons_succ]
    refine wpAnyH_ready (rs := [1, 8]) (by kernel_rfl) (by simp) ?_
    refine AllReadyH.cons (o := _) rfl (fun K hK => ?_) (AllReadyH.cons (o := _) rfl (fun K hK => ?_) AllReadyH.nil)
    · go_simp
      refine (HTA.out _ (HQ0.out.get (g := fun W => FnM W sa n ka f) 0 rfl)).mono ?_
      rintro e t1 ⟨⟨g1, o1, rfl, hf, hv⟩, hbq⟩
      have HQ1 := hid (HQ0.out.call hbq)
      have HQ1 := hid (HQ1.out.add (g := fun W => FnM W (some ⟨g1, 0, none⟩) N1 N1 o1) (kept_fn _ _ _ _) hf)
      clear hbq
      have HV1 := hid hv
      clear hv hf
      go_wp2_with fail
      have HQS := hid (HQ1.out.sub (.cons_cons _ (.cons_cons _ (.cons_cons _ .slnil))) (.cons _ (.cons_cons _ (.cons_cons _ .slnil))))
      refine hK.out _ _ (HKT.out _ HQS) (fun hHeld1 => ?_)
      clear hK K HQS
      try simp only [Act.put, List.setIfInBounds_toArray, List.set_cons_zero, List.set_cons_succ]
      refine wpAnyH_ready (rs := [3, 8]) (by kernel_rfl) (by simp) ?_
      refine AllReadyH.cons (o := _) rfl (fun K hK => ?_) (AllReadyH.cons (o := _) rfl (fun K hK => ?_) AllReadyH.nil)
      · go_simp
        refine (HTB.out _ (HQ1.out.get (g := fun W => FnM W sb n2 kb f2) 2 rfl)).mono ?_
        rintro e t2 ⟨⟨g2, o2, rfl, hf, hv⟩, hbq⟩
        have HQ2 := hid (HQ1.out.call hbq)
        have HQ2 := hid (HQ2.out.add (g := fun W => FnM W (some ⟨g2, 0, none⟩) N2 N2 o2) (kept_fn _ _ _ _) hf)
        clear hbq
        have HV2 := hid hv
        clear hv hf
        go_wp2_with fail
        have HQS := hid (HQ2.out.sub (.cons_cons _ (.cons_cons _ (.cons_cons _ .slnil))) (.cons _ (.cons _ (.cons_cons _ (.cons_cons _ .slnil)))))
        refine hK.out _ _ (HKT.out _ HQS) (fun hHeld2 => ?_)
        clear hK K HQS
        try simp only [Act.put, List.setIfInBounds_toArray, List.set_cons_zero, List.set_cons_succ]
        refine wpAnyH_ready (rs := [4, 8]) (by kernel_rfl) (by simp) ?_
        refine AllReadyH.cons (o := _) rfl (fun K hK => ?_) (AllReadyH.cons (o := _) rfl (fun K hK => ?_) AllReadyH.nil)
        · go_simp
          refine (HBS.out _ g1 o1 g2 o2 (HQ2.out.get (g := fun W => FnM W (some ⟨g1, 0, none⟩) N1 N1 o1) 1 rfl) HV1.out (HQ2.out.get (g := fun W => FnM W (some ⟨g2, 0, none⟩) N2 N2 o2) 0 rfl) HV2.out).mono ?_
          rintro e t3 ⟨⟨g3, o3, rfl, hf, hv⟩, hbq⟩
          have HQ3 := hid (HQ2.out.call hbq)
          have HQ3 := hid (HQ3.out.add (g := fun W => FnM W (some ⟨g3, 0, none⟩) N N o3) (kept_fn _ _ _ _) hf)
          have HQ3 := hid (HQ3.out.add (g := fun _ => (∀ u v, u < c → v < R → o3 (u * R + v) = if v < r then f (v * c + u) else f2 ((v - r) * c + u))) (kept_k _) hv)
          clear hbq
          clear hf hv
          go_wp2_with fail
          have HQS := hid (HQ3.out.sub (.cons_cons _ (.cons_cons _ (.cons_cons _ .slnil))) (.cons _ (.cons _ (.cons _ (.cons _ (.cons_cons _ (.cons_cons _ .slnil)))))))
          refine hK.out _ _ (HKT.out _ HQS) (fun hHeld3 => ?_)
          clear hK K HQS
          try simp only [Act.put, List.setIfInBounds_toArray, List.set_cons_zero, List.set_cons_succ]
          refine take_at 5 8 (.tuple #[.agg #[.int .i64 c, .int .i64 R, .slice (some ⟨g3, 0, none⟩) N N], .int .i64 0]) rfl rfl (by kernel_rfl) (by kernel_rfl) (by kernel_rfl) (fun _ _ _ h => h) (Or.inl ⟨by rfl, fun w hSw => by (try dsimp only at hSw); go_simp⟩) (by assumption) ?_
          simp only [Act.put, List.setIfInBounds_toArray, List.set_cons_zero, List.set_cons_succ]
          refine take_at 6 14 (.agg #[.int .i64 c, .int .i64 R, .slice (some ⟨g3, 0, none⟩) N N]) rfl rfl (by kernel_rfl) (by kernel_rfl) (by kernel_rfl) (fun _ _ _ h => h) (Or.inl ⟨by rfl, fun w hSw => by (try dsimp only at hSw); go_simp⟩) (by assumption) ?_
          simp only [Act.put, List.setIfInBounds_toArray, List.set_cons_zero, List.set_cons_succ]
          refine take_at 7 15 (.int .i64 0) rfl rfl (by kernel_rfl) (by kernel_rfl) (by kernel_rfl) (fun _ _ _ h => h) (Or.inl ⟨by rfl, fun w hSw => by (try dsimp only at hSw); go_simp⟩) (by assumption) ?_
          simp only [Act.put, List.setIfInBounds_toArray, List.set_cons_zero, List.set_cons_succ]
          refine wpAnyH_ready (rs := [8]) (by kernel_rfl) (by simp) ?_
          refine AllReadyH.cons (o := _) rfl (fun K hK => ?_) AllReadyH.nil
          have HQ4 := hid (HQ3.out.alloc (MBox 0 0 none 0 0))
          go_simp
          go_wp2_with fail
          have HQS := hid (HQ4.out.sub (.cons _ (.cons_cons _ (.cons_cons _ (.cons_cons _ .slnil)))) (.cons _ (.cons _ (.cons _ (.cons _ (.cons_cons _ (.cons_cons _ .slnil)))))))
          refine hK.out _ _ (HKT.out _ HQS) (fun hHeld4 => ?_)
          clear hK K HQS
          try simp only [Act.put, List.setIfInBounds_toArray, List.set_cons_zero, List.set_cons_succ]
          obtain ⟨t4, ht4⟩ : ∃ X, Hid (t3.alloc (MBox 0 0 none 0 0) = X) := ⟨_, rfl⟩
          obtain ⟨mb, hmb⟩ : ∃ X, Hid (t3.heap.size = X) := ⟨_, rfl⟩
          rw [ht4.out, hmb.out] at HQ4
          have hy1 : t3.alloc (.cells #[.int .i64 0, .int .i64 0, .slice none 0 0] 28) = t4 := ht4.out
          have hy2 := hmb.out
          rw [hy1]
          rw [hy2]
          clear hy1 hy2
          refine wpAnyH_ready (rs := [9]) (by kernel_rfl) (by simp) ?_
          refine AllReadyH.cons (o := _) rfl (fun K hK => ?_) AllReadyH.nil
          obtain ⟨z0, z1, z2⟩ := mcells_of (HQ4.out.at 0 rfl : t4.heap[mb]? = some (MBox 0 0 none 0 0))
          have fz := frzM (HQ4.out.at 0 rfl : t4.heap[mb]? = some (MBox 0 0 none 0 0))
          have HQ5 : Hid (FrQ w (StoM t4 mb c R (some ⟨g3, 0, none⟩) N N) [(mb, MBox c R (some ⟨g3, 0, none⟩) N N), (rb, MBox 0 0 none 0 0), (p1, MBox r2 c sb n2 kb), (p0, MBox r c sa n ka)] [fun _ => (∀ u v, u < c → v < R → o3 (u * R + v) = if v < r then f (v * c + u) else f2 ((v - r) * c + u)), fun W => FnM W (some ⟨g3, 0, none⟩) N N o3, fun W => FnM W (some ⟨g2, 0, none⟩) N2 N2 o2, fun W => FnM W (some ⟨g1, 0, none⟩) N1 N1 o1, fun W => FnM W sa n ka f, fun W => FnM W sb n2 kb f2]) := HQ4.out.sto 0 rfl
          obtain ⟨U5, hU5⟩ : ∃ X, Hid ((StoM t4 mb c R (some ⟨g3, 0, none⟩) N N) = X) := ⟨_, rfl⟩
          rw [hU5.out] at HQ5
          have hU5' := hU5.out
          unfold StoM at hU5'
          go_simp
          go_wp2_with fail
          have HQS := hid (HQ5.out.sub (.cons _ (.cons_cons _ (.cons_cons _ (.cons_cons _ .slnil)))) (.cons _ (.cons _ (.cons _ (.cons _ (.cons_cons _ (.cons_cons _ .slnil)))))))
          refine hK.out _ _ (HKT.out _ HQS) (fun hHeld5 => ?_)
          clear hK K HQS
          try simp only [Act.put, List.setIfInBounds_toArray, List.set_cons_zero, List.set_cons_succ]
          clear z0 z1 z2 fz
          refine take_at 10 7 (.int .i64 0) rfl rfl (by kernel_rfl) (by kernel_rfl) (by kernel_rfl) (fun _ _ _ h => h) (Or.inl ⟨by rfl, fun w hSw => by (try dsimp only at hSw); go_simp⟩) (by assumption) ?_
          simp only [Act.put, List.setIfInBounds_toArray, List.set_cons_zero, List.set_cons_succ]
          refine wpAnyH_done (by kernel_rfl) ?_ _
          exact HR.out _ _ ⟨g1, o1, g2, o2, g3, o3, mb, rfl, HQ5.out⟩
        · have HQ3 := hid (HQ2.out.alloc (MBox 0 0 none 0 0))
          go_simp
          go_wp2_with fail
          have HQS := hid (HQ3.out.sub (.cons _ (.cons_cons _ (.cons_cons _ (.cons_cons _ .slnil)))) (.cons _ (.cons _ (.cons_cons _ (.cons_cons _ .slnil)))))
          refine hK.out _ _ (HKT.out _ HQS) (fun hHeld3 => ?_)
          clear hK K HQS
          try simp only [Act.put, List.setIfInBounds_toArray, List.set_cons_zero, List.set_cons_succ]
          obtain ⟨t3, ht3⟩ : ∃ X, Hid (t2.alloc (MBox 0 0 none 0 0) = X) := ⟨_, rfl⟩
          obtain ⟨mb, hmb⟩ : ∃ X, Hid (t2.heap.size = X) := ⟨_, rfl⟩
          rw [ht3.out, hmb.out] at HQ3
          have hy1 : t2.alloc (.cells #[.int .i64 0, .int .i64 0, .slice none 0 0] 28) = t3 := ht3.out
          have hy2 := hmb.out
          rw [hy1]
          rw [hy2]
          clear hy1 hy2
          refine wpAnyH_ready (rs := [4]) (by kernel_rfl) (by simp) ?_
          refine AllReadyH.cons (o := _) rfl (fun K hK => ?_) AllReadyH.nil
          go_simp
          refine (HBS.out _ g1 o1 g2 o2 (HQ3.out.get (g := fun W => FnM W (some ⟨g1, 0, none⟩) N1 N1 o1) 1 rfl) HV1.out (HQ3.out.get (g := fun W => FnM W (some ⟨g2, 0, none⟩) N2 N2 o2) 0 rfl) HV2.out).mono ?_
          rintro e t4 ⟨⟨g3, o3, rfl, hf, hv⟩, hbq⟩
          have HQ4 := hid (HQ3.out.call hbq)
          have HQ4 := hid (HQ4.out.add (g := fun W => FnM W (some ⟨g3, 0, none⟩) N N o3) (kept_fn _ _ _ _) hf)
          have HQ4 := hid (HQ4.out.add (g := fun _ => (∀ u v, u < c → v < R → o3 (u * R + v) = if v < r then f (v * c + u) else f2 ((v - r) * c + u))) (kept_k _) hv)
          clear hbq
          clear hf hv
          go_wp2_with fail
          have HQS := hid (HQ4.out.sub (.cons _ (.cons_cons _ (.cons_cons _ (.cons_cons _ .slnil)))) (.cons _ (.cons _ (.cons _ (.cons _ (.cons_cons _ (.cons_cons _ .slnil)))))))
          refine hK.out _ _ (HKT.out _ HQS) (fun hHeld4 => ?_)
          clear hK K HQS
          try simp only [Act.put, List.setIfInBounds_toArray, List.set_cons_zero, List.set_cons_succ]
          refine take_at 5 8 (.tuple #[.agg #[.int .i64 c, .int .i64 R, .slice (some ⟨g3, 0, none⟩) N N], .int .i64 0]) rfl rfl (by kernel_rfl) (by kernel_rfl) (by kernel_rfl) (fun _ _ _ h => h) (Or.inl ⟨by rfl, fun w hSw => by (try dsimp only at hSw); go_simp⟩) (by assumption) ?_
          simp only [Act.put, List.setIfInBounds_toArray, List.set_cons_zero, List.set_cons_succ]
          refine take_at 6 14 (.agg #[.int .i64 c, .int .i64 R, .slice (some ⟨g3, 0, none⟩) N N]) rfl rfl (by kernel_rfl) (by kernel_rfl) (by kernel_rfl) (fun _ _ _ h => h) (Or.inl ⟨by rfl, fun w hSw => by (try dsimp only at hSw); go_simp⟩) (by assumption) ?_
          simp only [Act.put, List.setIfInBounds_toArray, List.set_cons_zero, List.set_cons_succ]
          refine take_at 7 15 (.int .i64 0) rfl rfl (by kernel_rfl) (by kernel_rfl) (by kernel_rfl) (fun _ _ _ h => h) (Or.inl ⟨by rfl, fun w hSw => by (try dsimp only at hSw); go_simp⟩) (by assumption) ?_
          simp only [Act.put, List.setIfInBounds_toArray, List.set_cons_zero, List.set_cons_succ]
          refine wpAnyH_ready (rs := [9]) (by kernel_rfl) (by simp) ?_
          refine AllReadyH.cons (o := _) rfl (fun K hK => ?_) AllReadyH.nil
          obtain ⟨z0, z1, z2⟩ := mcells_of (HQ4.out.at 0 rfl : t4.heap[mb]? = some (MBox 0 0 none 0 0))
          have fz := frzM (HQ4.out.at 0 rfl : t4.heap[mb]? = some (MBox 0 0 none 0 0))
          have HQ5 : Hid (FrQ w (StoM t4 mb c R (some ⟨g3, 0, none⟩) N N) [(mb, MBox c R (some ⟨g3, 0, none⟩) N N), (rb, MBox 0 0 none 0 0), (p1, MBox r2 c sb n2 kb), (p0, MBox r c sa n ka)] [fun _ => (∀ u v, u < c → v < R → o3 (u * R + v) = if v < r then f (v * c + u) else f2 ((v - r) * c + u)), fun W => FnM W (some ⟨g3, 0, none⟩) N N o3, fun W => FnM W (some ⟨g2, 0, none⟩) N2 N2 o2, fun W => FnM W (some ⟨g1, 0, none⟩) N1 N1 o1, fun W => FnM W sa n ka f, fun W => FnM W sb n2 kb f2]) := HQ4.out.sto 0 rfl
          obtain ⟨U5, hU5⟩ : ∃ X, Hid ((StoM t4 mb c R (some ⟨g3, 0, none⟩) N N) = X) := ⟨_, rfl⟩
          rw [hU5.out] at HQ5
          have hU5' := hU5.out
          unfold StoM at hU5'
          go_simp
          go_wp2_with fail
          have HQS := hid (HQ5.out.sub (.cons _ (.cons_cons _ (.cons_cons _ (.cons_cons _ .slnil)))) (.cons _ (.cons _ (.cons _ (.cons _ (.cons_cons _ (.cons_cons _ .slnil)))))))
          refine hK.out _ _ (HKT.out _ HQS) (fun hHeld5 => ?_)
          clear hK K HQS
          try simp only [Act.put, List.setIfInBounds_toArray, List.set_cons_zero, List.set_cons_succ]
          clear z0 z1 z2 fz
          refine take_at 10 7 (.int .i64 0) rfl rfl (by kernel_rfl) (by kernel_rfl) (by kernel_rfl) (fun _ _ _ h => h) (Or.inl ⟨by rfl, fun w hSw => by (try dsimp only at hSw); go_simp⟩) (by assumption) ?_
          simp only [Act.put, List.setIfInBounds_toArray, List.set_cons_zero, List.set_cons_succ]
          refine wpAnyH_done (by kernel_rfl) ?_ _
          exact HR.out _ _ ⟨g1, o1, g2, o2, g3, o3, mb, rfl, HQ5.out⟩
      · have HQ2 := hid (HQ1.out.alloc (MBox 0 0 none 0 0))
        go_simp
        go_wp2_with fail
        have HQS := hid (HQ2.out.sub (.cons _ (.cons_cons _ (.cons_cons _ (.cons_cons _ .slnil)))) (.cons _ (.cons_cons _ (.cons_cons _ .slnil))))
        refine hK.out _ _ (HKT.out _ HQS) (fun hHeld2 => ?_)
        clear hK K HQS
        try simp only [Act.put, List.setIfInBounds_toArray, List.set_cons_zero, List.set_cons_succ]
        obtain ⟨t2, ht2⟩ : ∃ X, Hid (t1.alloc (MBox 0 0 none 0 0) = X) := ⟨_, rfl⟩
        obtain ⟨mb, hmb⟩ : ∃ X, Hid (t1.heap.size = X) := ⟨_, rfl⟩
        rw [ht2.out, hmb.out] at HQ2
        have hy1 : t1.alloc (.cells #[.int .i64 0, .int .i64 0, .slice none 0 0] 28) = t2 := ht2.out
        have hy2 := hmb.out
        rw [hy1]
        rw [hy2]
        clear hy1 hy2
        refine wpAnyH_ready (rs := [3]) (by kernel_rfl) (by simp) ?_
        refine AllReadyH.cons (o := _) rfl (fun K hK => ?_) AllReadyH.nil
        go_simp
        refine (HTB.out _ (HQ2.out.get (g := fun W => FnM W sb n2 kb f2) 2 rfl)).mono ?_
        rintro e t3 ⟨⟨g2, o2, rfl, hf, hv⟩, hbq⟩
        have HQ3 := hid (HQ2.out.call hbq)
        have HQ3 := hid (HQ3.out.add (g := fun W => FnM W (some ⟨g2, 0, none⟩) N2 N2 o2) (kept_fn _ _ _ _) hf)
        clear hbq
        have HV2 := hid hv
        clear hv hf
        go_wp2_with fail
        have HQS := hid (HQ3.out.sub (.cons _ (.cons_cons _ (.cons_cons _ (.cons_cons _ .slnil)))) (.cons _ (.cons _ (.cons_cons _ (.cons_cons _ .slnil)))))
        refine hK.out _ _ (HKT.out _ HQS) (fun hHeld3 => ?_)
        clear hK K HQS
        try simp only [Act.put, List.setIfInBounds_toArray, List.set_cons_zero, List.set_cons_succ]
        refine wpAnyH_ready (rs := [4]) (by kernel_rfl) (by simp) ?_
        refine AllReadyH.cons (o := _) rfl (fun K hK => ?_) AllReadyH.nil
        go_simp
        refine (HBS.out _ g1 o1 g2 o2 (HQ3.out.get (g := fun W => FnM W (some ⟨g1, 0, none⟩) N1 N1 o1) 1 rfl) HV1.out (HQ3.out.get (g := fun W => FnM W (some ⟨g2, 0, none⟩) N2 N2 o2) 0 rfl) HV2.out).mono ?_
        rintro e t4 ⟨⟨g3, o3, rfl, hf, hv⟩, hbq⟩
        have HQ4 := hid (HQ3.out.call hbq)
        have HQ4 := hid (HQ4.out.add (g := fun W => FnM W (some ⟨g3, 0, none⟩) N N o3) (kept_fn _ _ _ _) hf)
        have HQ4 := hid (HQ4.out.add (g := fun _ => (∀ u v, u < c → v < R → o3 (u * R + v) = if v < r then f (v * c + u) else f2 ((v - r) * c + u))) (kept_k _) hv)
        clear hbq
        clear hf hv
        go_wp2_with fail
        have HQS := hid (HQ4.out.sub (.cons _ (.cons_cons _ (.cons_cons _ (.cons_cons _ .slnil)))) (.cons _ (.cons _ (.cons _ (.cons _ (.cons_cons _ (.cons_cons _ .slnil)))))))
        refine hK.out _ _ (HKT.out _ HQS) (fun hHeld4 => ?_)
        clear hK K HQS
        try simp only [Act.put, List.setIfInBounds_toArray, List.set_cons_zero, List.set_cons_succ]
        refine take_at 5 8 (.tuple #[.agg #[.int .i64 c, .int .i64 R, .slice (some ⟨g3, 0, none⟩) N N], .int .i64 0]) rfl rfl (by kernel_rfl) (by kernel_rfl) (by kernel_rfl) (fun _ _ _ h => h) (Or.inl ⟨by rfl, fun w hSw => by (try dsimp only at hSw); go_simp⟩) (by assumption) ?_
        simp only [Act.put, List.setIfInBounds_toArray, List.set_cons_zero, List.set_cons_succ]
        refine take_at 6 14 (.agg #[.int .i64 c, .int .i64 R, .slice (some ⟨g3, 0, none⟩) N N]) rfl rfl (by kernel_rfl) (by kernel_rfl) (by kernel_rfl) (fun _ _ _ h => h) (Or.inl ⟨by rfl, fun w hSw => by (try dsimp only at hSw); go_simp⟩) (by assumption) ?_
        simp only [Act.put, List.setIfInBounds_toArray, List.set_cons_zero, List.set_cons_succ]
        refine take_at 7 15 (.int .i64 0) rfl rfl (by kernel_rfl) (by kernel_rfl) (by kernel_rfl) (fun _ _ _ h => h) (Or.inl ⟨by rfl, fun w hSw => by (try dsimp only at hSw); go_simp⟩) (by assumption) ?_
        simp only [Act.put, List.setIfInBounds_toArray, List.set_cons_zero, List.set_cons_succ]
        refine wpAnyH_ready (rs := [9]) (by kernel_rfl) (by simp) ?_
        refine AllReadyH.cons (o := _) rfl (fun K hK => ?_) AllReadyH.nil
        obtain ⟨z0, z1, z2⟩ := mcells_of (HQ4.out.at 0 rfl : t4.heap[mb]? = some (MBox 0 0 none 0 0))
        have fz := frzM (HQ4.out.at 0 rfl : t4.heap[mb]? = some (MBox 0 0 none 0 0))
        have HQ5 : Hid (FrQ w (StoM t4 mb c R (some ⟨g3, 0, none⟩) N N) [(mb, MBox c R (some ⟨g3, 0, none⟩) N N), (rb, MBox 0 0 none 0 0), (p1, MBox r2 c sb n2 kb), (p0, MBox r c sa n ka)] [fun _ => (∀ u v, u < c → v < R → o3 (u * R + v) = if v < r then f (v * c + u) else f2 ((v - r) * c + u)), fun W => FnM W (some ⟨g3, 0, none⟩) N N o3, fun W => FnM W (some ⟨g2, 0, none⟩) N2 N2 o2, fun W => FnM W (some ⟨g1, 0, none⟩) N1 N1 o1, fun W => FnM W sa n ka f, fun W => FnM W sb n2 kb f2]) := HQ4.out.sto 0 rfl
        obtain ⟨U5, hU5⟩ : ∃ X, Hid ((StoM t4 mb c R (some ⟨g3, 0, none⟩) N N) = X) := ⟨_, rfl⟩
        rw [hU5.out] at HQ5
        have hU5' := hU5.out
        unfold StoM at hU5'
        go_simp
        go_wp2_with fail
        have HQS := hid (HQ5.out.sub (.cons _ (.cons_cons _ (.cons_cons _ (.cons_cons _ .slnil)))) (.cons _ (.cons _ (.cons _ (.cons _ (.cons_cons _ (.cons_cons _ .slnil)))))))
        refine hK.out _ _ (HKT.out _ HQS) (fun hHeld5 => ?_)
        clear hK K HQS
        try simp only [Act.put, List.setIfInBounds_toArray, List.set_cons_zero, List.set_cons_succ]
        clear z0 z1 z2 fz
        refine take_at 10 7 (.int .i64 0) rfl rfl (by kernel_rfl) (by kernel_rfl) (by kernel_rfl) (fun _ _ _ h => h) (Or.inl ⟨by rfl, fun w hSw => by (try dsimp only at hSw); go_simp⟩) (by assumption) ?_
        simp only [Act.put, List.setIfInBounds_toArray, List.set_cons_zero, List.set_cons_succ]
        refine wpAnyH_done (by kernel_rfl) ?_ _
        exact HR.out _ _ ⟨g1, o1, g2, o2, g3, o3, mb, rfl, HQ5.out⟩
    · have HQ1 := hid (HQ0.out.alloc (MBox 0 0 none 0 0))
      go_simp
      go_wp2_with fail
      have HQS := hid (HQ1.out.sub (.cons _ (.cons_cons _ (.cons_cons _ (.cons_cons _ .slnil)))) (.cons_cons _ (.cons_cons _ .slnil)))
      refine hK.out _ _ (HKT.out _ HQS) (fun hHeld1 => ?_)
      clear hK K HQS
      try simp only [Act.put, List.setIfInBounds_toArray, List.set_cons_zero, List.set_cons_succ]
      obtain ⟨t1, ht1⟩ : ∃ X, Hid (V.drew.alloc (MBox 0 0 none 0 0) = X) := ⟨_, rfl⟩
      obtain ⟨mb, hmb⟩ : ∃ X, Hid (V.drew.heap.size = X) := ⟨_, rfl⟩
      rw [ht1.out, hmb.out] at HQ1
      have hy1 : (V.alloc (.cells #[.int .i64 0, .int .i64 0, .slice none 0 0] 28)).drew = t1 := ht1.out
      have hy2 : V.heap.size = mb := hmb.out
      rw [hy1]
      rw [hy2]
      clear hy1 hy2
      refine wpAnyH_ready (rs := [1]) (by kernel_rfl) (by simp) ?_
      refine AllReadyH.cons (o := _) rfl (fun K hK => ?_) AllReadyH.nil
      go_simp
      refine (HTA.out _ (HQ1.out.get (g := fun W => FnM W sa n ka f) 0 rfl)).mono ?_
      rintro e t2 ⟨⟨g1, o1, rfl, hf, hv⟩, hbq⟩
      have HQ2 := hid (HQ1.out.call hbq)
      have HQ2 := hid (HQ2.out.add (g := fun W => FnM W (some ⟨g1, 0, none⟩) N1 N1 o1) (kept_fn _ _ _ _) hf)
      clear hbq
      have HV1 := hid hv
      clear hv hf
      go_wp2_with fail
      have HQS := hid (HQ2.out.sub (.cons _ (.cons_cons _ (.cons_cons _ (.cons_cons _ .slnil)))) (.cons _ (.cons_cons _ (.cons_cons _ .slnil))))
      refine hK.out _ _ (HKT.out _ HQS) (fun hHeld2 => ?_)
      clear hK K HQS
      try simp only [Act.put, List.setIfInBounds_toArray, List.set_cons_zero, List.set_cons_succ]
      refine wpAnyH_ready (rs := [3]) (by kernel_rfl) (by simp) ?_
      refine AllReadyH.cons (o := _) rfl (fun K hK => ?_) AllReadyH.nil
      go_simp
      refine (HTB.out _ (HQ2.out.get (g := fun W => FnM W sb n2 kb f2) 2 rfl)).mono ?_
      rintro e t3 ⟨⟨g2, o2, rfl, hf, hv⟩, hbq⟩
      have HQ3 := hid (HQ2.out.call hbq)
      have HQ3 := hid (HQ3.out.add (g := fun W => FnM W (some ⟨g2, 0, none⟩) N2 N2 o2) (kept_fn _ _ _ _) hf)
      clear hbq
      have HV2 := hid hv
      clear hv hf
      go_wp2_with fail
      have HQS := hid (HQ3.out.sub (.cons _ (.cons_cons _ (.cons_cons _ (.cons_cons _ .slnil)))) (.cons _ (.cons _ (.cons_cons _ (.cons_cons _ .slnil)))))
      refine hK.out _ _ (HKT.out _ HQS) (fun hHeld3 => ?_)
      clear hK K HQS
      try simp only [Act.put, List.setIfInBounds_toArray, List.set_cons_zero, List.set_cons_succ]
      refine wpAnyH_ready (rs := [4]) (by kernel_rfl) (by simp) ?_
      refine AllReadyH.cons (o := _) rfl (fun K hK => ?_) AllReadyH.nil
      go_simp
      refine (HBS.out _ g1 o1 g2 o2 (HQ3.out.get (g := fun W => FnM W (some ⟨g1, 0, none⟩) N1 N1 o1) 1 rfl) HV1.out (HQ3.out.get (g := fun W => FnM W (some ⟨g2, 0, none⟩) N2 N2 o2) 0 rfl) HV2.out).mono ?_
      rintro e t4 ⟨⟨g3, o3, rfl, hf, hv⟩, hbq⟩
      have HQ4 := hid (HQ3.out.call hbq)
      have HQ4 := hid (HQ4.out.add (g := fun W => FnM W (some ⟨g3, 0, none⟩) N N o3) (kept_fn _ _ _ _) hf)
      have HQ4 := hid (HQ4.out.add (g := fun _ => (∀ u v, u < c → v < R → o3 (u * R + v) = if v < r then f (v * c + u) else f2 ((v - r) * c + u))) (kept_k _) hv)
      clear hbq
      clear hf hv
      go_wp2_with fail
      have HQS := hid (HQ4.out.sub (.cons _ (.cons_cons _ (.cons_cons _ (.cons_cons _ .slnil)))) (.cons _ (.cons _ (.cons _ (.cons _ (.cons_cons _ (.cons_cons _ .slnil)))))))
      refine hK.out _ _ (HKT.out _ HQS) (fun hHeld4 => ?_)
      clear hK K HQS
      try simp only [Act.put, List.setIfInBounds_toArray, List.set_cons_zero, List.set_cons_succ]
      refine take_at 5 8 (.tuple #[.agg #[.int .i64 c, .int .i64 R, .slice (some ⟨g3, 0, none⟩) N N], .int .i64 0]) rfl rfl (by kernel_rfl) (by kernel_rfl) (by kernel_rfl) (fun _ _ _ h => h) (Or.inl ⟨by rfl, fun w hSw => by (try dsimp only at hSw); go_simp⟩) (by assumption) ?_
      simp only [Act.put, List.setIfInBounds_toArray, List.set_cons_zero, List.set_cons_succ]
      refine take_at 6 14 (.agg #[.int .i64 c, .int .i64 R, .slice (some ⟨g3, 0, none⟩) N N]) rfl rfl (by kernel_rfl) (by kernel_rfl) (by kernel_rfl) (fun _ _ _ h => h) (Or.inl ⟨by rfl, fun w hSw => by (try dsimp only at hSw); go_simp⟩) (by assumption) ?_
      simp only [Act.put, List.setIfInBounds_toArray, List.set_cons_zero, List.set_cons_succ]
      refine take_at 7 15 (.int .i64 0) rfl rfl (by kernel_rfl) (by kernel_rfl) (by kernel_rfl) (fun _ _ _ h => h) (Or.inl ⟨by rfl, fun w hSw => by (try dsimp only at hSw); go_simp⟩) (by assumption) ?_
      simp only [Act.put, List.setIfInBounds_toArray, List.set_cons_zero, List.set_cons_succ]
      refine wpAnyH_ready (rs := [9]) (by kernel_rfl) (by simp) ?_
      refine AllReadyH.cons (o := _) rfl (fun K hK => ?_) AllReadyH.nil
      obtain ⟨z0, z1, z2⟩ := mcells_of (HQ4.out.at 0 rfl : t4.heap[mb]? = some (MBox 0 0 none 0 0))
      have fz := frzM (HQ4.out.at 0 rfl : t4.heap[mb]? = some (MBox 0 0 none 0 0))
      have HQ5 : Hid (FrQ w (StoM t4 mb c R (some ⟨g3, 0, none⟩) N N) [(mb, MBox c R (some ⟨g3, 0, none⟩) N N), (rb, MBox 0 0 none 0 0), (p1, MBox r2 c sb n2 kb), (p0, MBox r c sa n ka)] [fun _ => (∀ u v, u < c → v < R → o3 (u * R + v) = if v < r then f (v * c + u) else f2 ((v - r) * c + u)), fun W => FnM W (some ⟨g3, 0, none⟩) N N o3, fun W => FnM W (some ⟨g2, 0, none⟩) N2 N2 o2, fun W => FnM W (some ⟨g1, 0, none⟩) N1 N1 o1, fun W => FnM W sa n ka f, fun W => FnM W sb n2 kb f2]) := HQ4.out.sto 0 rfl
      obtain ⟨U5, hU5⟩ : ∃ X, Hid ((StoM t4 mb c R (some ⟨g3, 0, none⟩) N N) = X) := ⟨_, rfl⟩
      rw [hU5.out] at HQ5
      have hU5' := hU5.out
      unfold StoM at hU5'
      go_simp
      go_wp2_with fail
      have HQS := hid (HQ5.out.sub (.cons _ (.cons_cons _ (.cons_cons _ (.cons_cons _ .slnil)))) (.cons _ (.cons _ (.cons _ (.cons _ (.cons_cons _ (.cons_cons _ .slnil)))))))
      refine hK.out _ _ (HKT.out _ HQS) (fun hHeld5 => ?_)
      clear hK K HQS
      try simp only [Act.put, List.setIfInBounds_toArray, List.set_cons_zero, List.set_cons_succ]
      clear z0 z1 z2 fz
      refine take_at 10 7 (.int .i64 0) rfl rfl (by kernel_rfl) (by kernel_rfl) (by kernel_rfl) (fun _ _ _ h => h) (Or.inl ⟨by rfl, fun w hSw => by (try dsimp only at hSw); go_simp⟩) (by assumption) ?_
      simp only [Act.put, List.setIfInBounds_toArray, List.set_cons_zero, List.set_cons_succ]
      refine wpAnyH_done (by kernel_rfl) ?_ _
      exact HR.out _ _ ⟨g1, o1, g2, o2, g3, o3, mb, rfl, HQ5.out⟩
  · rintro a' w1 ⟨g1, o1, g2, o2, g3, o3, mb, rfl, hF⟩
    simp only [Act.put, List.setIfInBounds_toArray, List.set_cons_zero, List.set_cons_succ]
    have HF : Hid (FrQ w w1 [(mb, MBox c R (some ⟨g3, 0, none⟩) N N), (rb, MBox 0 0 none 0 0), (p1, MBox r2 c sb n2 kb), (p0, MBox r c sa n ka)] [fun _ => (∀ u v, u < c → v < R → o3 (u * R + v) = if v < r then f (v * c + u) else f2 ((v - r) * c + u)), fun W => FnM W (some ⟨g3, 0, none⟩) N N o3, fun W => FnM W (some ⟨g2, 0, none⟩) N2 N2 o2, fun W => FnM W (some ⟨g1, 0, none⟩) N1 N1 o1, fun W => FnM W sa n ka f, fun W => FnM W sb n2 kb f2]) := hF
    clear hF HKT HQ0 HQS0
    obtain ⟨c00, c01, c02⟩ := mcells_of (HF.out.at 0 rfl : w1.heap[mb]? = some (MBox c R (some ⟨g3, 0, none⟩) N N))
    have HV3 := hid (HF.out.get (g := fun _ => (∀ u v, u < c → v < R → o3 (u * R + v) = if v < r then f (v * c + u) else f2 ((v - r) * c + u))) 0 rfl)
    go_wp2_with fail
    refine (HT3.out _ g3 o3 (HF.out.get (g := fun W => FnM W (some ⟨g3, 0, none⟩) N N o3) 1 rfl) HV3.out).mono ?_
    rintro e u2 ⟨⟨g4, o4, rfl, hf, hv⟩, hb⟩
    have HF : Hid (FrQ w u2 [(mb, MBox c R (some ⟨g3, 0, none⟩) N N), (rb, MBox 0 0 none 0 0), (p1, MBox r2 c sb n2 kb), (p0, MBox r c sa n ka)] [fun _ => (∀ u v, u < c → v < R → o3 (u * R + v) = if v < r then f (v * c + u) else f2 ((v - r) * c + u)), fun W => FnM W (some ⟨g3, 0, none⟩) N N o3, fun W => FnM W (some ⟨g2, 0, none⟩) N2 N2 o2, fun W => FnM W (some ⟨g1, 0, none⟩) N1 N1 o1, fun W => FnM W sa n ka f, fun W => FnM W sb n2 kb f2]) := HF.out.call hb
    have HF : Hid (FrQ w u2 [(mb, MBox c R (some ⟨g3, 0, none⟩) N N), (rb, MBox 0 0 none 0 0), (p1, MBox r2 c sb n2 kb), (p0, MBox r c sa n ka)] [fun W => FnM W (some ⟨g4, 0, none⟩) N N o4, fun _ => (∀ u v, u < c → v < R → o3 (u * R + v) = if v < r then f (v * c + u) else f2 ((v - r) * c + u)), fun W => FnM W (some ⟨g3, 0, none⟩) N N o3, fun W => FnM W (some ⟨g2, 0, none⟩) N2 N2 o2, fun W => FnM W (some ⟨g1, 0, none⟩) N1 N1 o1, fun W => FnM W sa n ka f, fun W => FnM W sb n2 kb f2]) := HF.out.add (kept_fn _ _ _ _) hf
    clear hb
    have HV4 := hid hv
    clear hf hv
    obtain ⟨b0, b1, b2⟩ := mcells_of (HF.out.at 1 rfl : u2.heap[rb]? = some (MBox 0 0 none 0 0))
    have fz := frzM (HF.out.at 1 rfl : u2.heap[rb]? = some (MBox 0 0 none 0 0))
    have HRB : Hid (w.heap.size ≤ rb) := (HF.out.box _ (List.mem_of_getElem? (i := 1) rfl)).2
    go_wp2_with fail
    exact bodyPost_ret (v := .tuple #[.agg #[.int .i64 R, .int .i64 c, .slice (some ⟨g4, 0, none⟩) N N], .int .i64 0]) (by simp [results, Try.results18, go_sem, b0, b1, b2]) rfl ⟨⟨g4, o4, rfl, StoM.fn (HF.out.get (g := fun W => FnM W (some ⟨g4, 0, none⟩) N N o4) 0 rfl) (HF.out.at 1 rfl : u2.heap[rb]? = some (MBox 0 0 none 0 0)), HV4.out⟩, StoM.below HF.out.bel HRB.out⟩
set_option maxRecDepth 4000 in
set_option maxHeartbeats 4000000 in
theorem rStack_non (E : Int) (hE : E ≠ 0) (r c r2 c2 n n2 : Nat) (sa sb : Option Addr) (ka kb : Nat) (f f2 : Nat → Nat) (w : World) (ha : Gd w r c sa n ka f) (hb : Gd w r2 c2 sb n2 kb f2) (hs : bsdE c r c2 r2 = E) :
    Calls Try.prog 18 #[.agg #[.int .i64 r, .int .i64 c, .slice sa n ka], .agg #[.int .i64 r2, .int .i64 c2, .slice sb n2 kb]] w fun e w' => e = .returned (NonM E) ∧ Below w.heap.size w w' := by
  obtain ⟨N1, hN1⟩ : ∃ t, c * r = t := ⟨_, rfl⟩
  obtain ⟨N2, hN2⟩ : ∃ t, c2 * r2 = t := ⟨_, rfl⟩
  have HTA : Hid (∀ W, FnM W sa n ka f → Calls Try.prog 8 #[.agg #[.int .i64 r, .int .i64 c, .slice sa n ka]] W fun e w' => (∃ (g : Nat) (o : Nat → Nat), e = .returned (.agg #[.int .i64 c, .int .i64 r, .slice (some ⟨g, 0, none⟩) N1 N1]) ∧ FnM w' (some ⟨g, 0, none⟩) N1 N1 o ∧ ∀ i j, i < c → j < r → o (i * r + j) = f (j * c + i)) ∧ Below W.heap.size W w') := fun W h => by
    rw [← hN1]
    exact rTrans_ok r c n sa ka f W ⟨ha.1, ha.2.1, ha.2.2.1, h, ha.2.2.2.2⟩
  have HTB : Hid (∀ W, FnM W sb n2 kb f2 → Calls Try.prog 8 #[.agg #[.int .i64 r2, .int .i64 c2, .slice sb n2 kb]] W fun e w' => (∃ (g : Nat) (o : Nat → Nat), e = .returned (.agg #[.int .i64 c2, .int .i64 r2, .slice (some ⟨g, 0, none⟩) N2 N2]) ∧ FnM w' (some ⟨g, 0, none⟩) N2 N2 o ∧ ∀ i j, i < c2 → j < r2 → o (i * r2 + j) = f2 (j * c2 + i)) ∧ Below W.heap.size W w') := fun W h => by
    rw [← hN2]
    exact rTrans_ok r2 c2 n2 sb kb f2 W ⟨hb.1, hb.2.1, hb.2.2.1, h, hb.2.2.2.2⟩
  have HBS : Hid (∀ W g1 (o1 : Nat → Nat) g2 (o2 : Nat → Nat), FnM W (some ⟨g1, 0, none⟩) N1 N1 o1 → (∀ i j, i < c → j < r → o1 (i * r + j) = f (j * c + i)) → FnM W (some ⟨g2, 0, none⟩) N2 N2 o2 → (∀ i j, i < c2 → j < r2 → o2 (i * r2 + j) = f2 (j * c2 + i)) → Calls Try.prog 16 #[.agg #[.int .i64 c, .int .i64 r, .slice (some ⟨g1, 0, none⟩) N1 N1], .agg #[.int .i64 c2, .int .i64 r2, .slice (some ⟨g2, 0, none⟩) N2 N2]] W fun e w' => e = .returned (.tuple #[.agg #[.int .i64 0, .int .i64 0, .slice none 0 0], .int .i64 E]) ∧ Below W.heap.size W w') := fun W g1 o1 g2 o2 _ _ _ _ => by
    by_cases h : (c : Int) = c2
    · unfold bsdE at hs
      rw [if_neg (fun q => q h)] at hs
      by_cases h2 : 12 < (r : Int) + r2
      · rw [if_pos h2] at hs
        subst hs
        exact rBeside_range c r c2 r2 _ _ _ _ _ _ W ⟨h, h2, by have := ha.1; have := hb.1; omega⟩
      · rw [if_neg h2] at hs
        exact absurd hs.symm hE
    · unfold bsdE at hs
      rw [if_pos h] at hs
      subst hs
      exact rBeside_shape c r c2 r2 _ _ _ _ _ _ W h
  have hne : (E != 0) = true := by simpa using hE
  unfold NonM
  unfold MV
  have HF : Hid (FrQ w (((w.alloc (MBox r c sa n ka)).alloc (MBox r2 c2 sb n2 kb)).alloc (MBox 0 0 none 0 0)) [(w.heap.size + 1 + 1, MBox 0 0 none 0 0), (w.heap.size + 1, MBox r2 c2 sb n2 kb), (w.heap.size, MBox r c sa n ka)] [fun W => FnM W sa n ka f, fun W => FnM W sb n2 kb f2]) := by
    have := (((((FrQ.start w).add (g := fun W => FnM W sb n2 kb f2) (kept_fn _ _ _ _) hb.2.2.2.1).add (g := fun W => FnM W sa n ka f) (kept_fn _ _ _ _) ha.2.2.2.1).alloc (MBox r c sa n ka)).alloc (MBox r2 c2 sb n2 kb)).alloc (MBox 0 0 none 0 0)
    rw [show (w.alloc (MBox r c sa n ka)).heap.size = w.heap.size + 1 from by simp, show ((w.alloc (MBox r c sa n ka)).alloc (MBox r2 c2 sb n2 kb)).heap.size = w.heap.size + 1 + 1 from by simp] at this
    exact this
  obtain ⟨V, hV⟩ : ∃ V, Hid (((w.alloc (MBox r c sa n ka)).alloc (MBox r2 c2 sb n2 kb)).alloc (MBox 0 0 none 0 0) = V) := ⟨_, rfl⟩
  obtain ⟨p0, hp0⟩ : ∃ t, Hid (w.heap.size = t) := ⟨_, rfl⟩
  obtain ⟨p1, hp1⟩ : ∃ t, Hid (p0 + 1 = t) := ⟨_, rfl⟩
  obtain ⟨rb, hrb⟩ : ∃ t, Hid (p1 + 1 = t) := ⟨_, rfl⟩
  rw [hV.out, hp0.out, hp1.out, hrb.out] at HF
  have hV' := hV.out
  unfold MBox at hV'
  have hp0' := hp0.out
  have hp1' := hp1.out
  have hrb' := hrb.out
  clear ha hb hs hE hN1 hN2
  go_enter Try.func18, Try.ntmps18
  have HKT : Hid (∀ W, Hid (FrQ w W [(rb, MBox 0 0 none 0 0), (p1, MBox r2 c2 sb n2 kb), (p0, MBox r c sa n ka)] [fun W => FnM W sa n ka f, fun W => FnM W sb n2 kb f2]) → (W.cell? ⟨p0, 0, none⟩ = some (.int .i64 r) ∧ W.cell? ⟨p0, 1, none⟩ = some (.int .i64 c) ∧ W.cell? ⟨p0, 2, none⟩ = some (.slice sa n ka) ∧ W.cell? ⟨p1, 0, none⟩ = some (.int .i64 r2) ∧ W.cell? ⟨p1, 1, none⟩ = some (.int .i64 c2) ∧ W.cell? ⟨p1, 2, none⟩ = some (.slice sb n2 kb)) ∧ Hid (FrQ w W [(rb, MBox 0 0 none 0 0), (p1, MBox r2 c2 sb n2 kb), (p0, MBox r c sa n ka)] [fun W => FnM W sa n ka f, fun W => FnM W sb n2 kb f2])) := fun W hW => by
    obtain ⟨a00, a01, a02⟩ := mcells_of (hW.out.at 2 rfl : W.heap[p0]? = some (MBox r c sa n ka))
    obtain ⟨a10, a11, a12⟩ := mcells_of (hW.out.at 1 rfl : W.heap[p1]? = some (MBox r2 c2 sb n2 kb))
    exact ⟨⟨a00, a01, a02, a10, a11, a12⟩, hW⟩
  have HQ0 : Hid (FrQ w V.drew [(rb, MBox 0 0 none 0 0), (p1, MBox r2 c2 sb n2 kb), (p0, MBox r c sa n ka)] [fun W => FnM W sa n ka f, fun W => FnM W sb n2 kb f2]) := HF.out.drew
  have HQS0 : Hid (FrQ w V.drew [(rb, MBox 0 0 none 0 0), (p1, MBox r2 c2 sb n2 kb), (p0, MBox r c sa n ka)] [fun W => FnM W sa n ka f, fun W => FnM W sb n2 kb f2]) := HQ0.out.sub (.cons_cons _ (.cons_cons _ (.cons_cons _ .slnil))) (.cons_cons _ (.cons_cons _ .slnil))
  go_wp2_with fail
  refine region_merge2 (fun a0 a' w' => ∃ (g1 : Nat) (o1 : Nat → Nat) (g2 : Nat) (o2 : Nat → Nat) (mb : Nat), a' = Act.put (Act.put (Act.put (Act.put (Act.put (Act.put (Act.put (Act.put (Act.put (Act.put (a0) (some 9) (.agg #[.int .i64 r, .int .i64 c, .slice sa n ka])) (some 11) (.agg #[.int .i64 r2, .int .i64 c2, .slice sb n2 kb])) (some 10) (.agg #[.int .i64 c, .int .i64 r, .slice (some ⟨g1, 0, none⟩) N1 N1])) (some 12) (.agg #[.int .i64 c2, .int .i64 r2, .slice (some ⟨g2, 0, none⟩) N2 N2])) (some 13) (.tuple #[.agg #[.int .i64 0, .int .i64 0, .slice none 0 0], .int .i64 E])) (some 8) (.tuple #[.agg #[.int .i64 0, .int .i64 0, .slice none 0 0], .int .i64 E])) (some 14) (.agg #[.int .i64 0, .int .i64 0, .slice none 0 0])) (some 15) (.int .i64 E)) (some 6) (.pointer (some ⟨mb, 0, none⟩))) (some 7) (.int .i64 E) ∧ FrQ w w' [(mb, MBox 0 0 none 0 0), (rb, MBox 0 0 none 0 0), (p1, MBox r2 c2 sb n2 kb), (p0, MBox r c sa n ka)] [fun W => FnM W (some ⟨g2, 0, none⟩) N2 N2 o2, fun W => FnM W (some ⟨g1, 0, none⟩) N1 N1 o1, fun W => FnM W sa n ka f, fun W => FnM W sb n2 kb f2]) (fun HR => ?_) ?_
  · simp only [Act.put, List.setIfInBounds_toArray, List.set_cons_zero, List.set_cons_succ] at HR
    refine wp_region_held_drew (S := fun W => (W.cell? ⟨p0, 0, none⟩ = some (.int .i64 r) ∧ W.cell? ⟨p0, 1, none⟩ = some (.int .i64 c) ∧ W.cell? ⟨p0, 2, none⟩ = some (.slice sa n ka) ∧ W.cell? ⟨p1, 0, none⟩ = some (.int .i64 r2) ∧ W.cell? ⟨p1, 1, none⟩ = some (.int .i64 c2) ∧ W.cell? ⟨p1, 2, none⟩ = some (.slice sb n2 kb)) ∧ Hid (FrQ w W [(rb, MBox 0 0 none 0 0), (p1, MBox r2 c2 sb n2 kb), (p0, MBox r c sa n ka)] [fun W => FnM W sa n ka f, fun W => FnM W sb n2 kb f2])) (by kernel_rfl) (HKT.out _ HQS0) (fun hHeld => ?_)
    refine take_at 0 9 (.agg #[.int .i64 r, .int .i64 c, .slice sa n ka]) rfl rfl (by kernel_rfl) (by kernel_rfl) (by kernel_rfl) (fun _ _ _ h => h) (Or.inl ⟨by rfl, fun w hSw => by (try dsimp only at hSw); go_simp⟩) (by assumption) ?_
    simp only [Act.put, List.setIfInBounds_toArray, List.set_cons_zero, List.set_cons_succ]
    refine take_at 2 11 (.agg #[.int .i64 r2, .int .i64 c2, .slice sb n2 kb]) rfl rfl (by kernel_rfl) (by kernel_rfl) (by kernel_rfl) (fun _ _ _ h => h) (Or.inl ⟨by rfl, fun w hSw => by (try dsimp only at hSw); go_simp⟩) (by assumption) ?_
    simp only [Act.put, List.setIfInBounds_toArray, List.set_cons_zero, List.set_cons_succ]
    refine wpAnyH_ready (rs := [1, 8]) (by kernel_rfl) (by simp) ?_
    refine AllReadyH.cons (o := _) rfl (fun K hK => ?_) (AllReadyH.cons (o := _) rfl (fun K hK => ?_) AllReadyH.nil)
    · go_simp
      refine (HTA.out _ (HQ0.out.get (g := fun W => FnM W sa n ka f) 0 rfl)).mono ?_
      rintro e t1 ⟨⟨g1, o1, rfl, hf, hv⟩, hbq⟩
      have HQ1 := hid (HQ0.out.call hbq)
      have HQ1 := hid (HQ1.out.add (g := fun W => FnM W (some ⟨g1, 0, none⟩) N1 N1 o1) (kept_fn _ _ _ _) hf)
      clear hbq
      have HV1 := hid hv
      clear hv hf
      go_wp2_with fail
      have HQS := hid (HQ1.out.sub (.cons_cons _ (.cons_cons _ (.cons_cons _ .slnil))) (.cons _ (.cons_cons _ (.cons_cons _ .slnil))))
      refine hK.out _ _ (HKT.out _ HQS) (fun hHeld1 => ?_)
      clear hK K HQS
      try simp only [Act.put, List.setIfInBounds_toArray, List.set_cons_zero, List.set_cons_succ]
      refine wpAnyH_ready (rs := [3, 8]) (by kernel_rfl) (by simp) ?_
      refine AllReadyH.cons (o := _) rfl (fun K hK => ?_) (AllReadyH.cons (o := _) rfl (fun K hK => ?_) AllReadyH.nil)
      · go_simp
        refine (HTB.out _ (HQ1.out.get (g := fun W => FnM W sb n2 kb f2) 2 rfl)).mono ?_
        rintro e t2 ⟨⟨g2, o2, rfl, hf, hv⟩, hbq⟩
        have HQ2 := hid (HQ1.out.call hbq)
        have HQ2 := hid (HQ2.out.add (g := fun W => FnM W (some ⟨g2, 0, none⟩) N2 N2 o2) (kept_fn _ _ _ _) hf)
        clear hbq
        have HV2 := hid hv
        clear hv hf
        go_wp2_with fail
        have HQS := hid (HQ2.out.sub (.cons_cons _ (.cons_cons _ (.cons_cons _ .slnil))) (.cons _ (.cons _ (.cons_cons _ (.cons_cons _ .slnil)))))
        refine hK.out _ _ (HKT.out _ HQS) (fun hHeld2 => ?_)
        clear hK K HQS
        try simp only [Act.put, List.setIfInBounds_toArray, List.set_cons_zero, List.set_cons_succ]
        refine wpAnyH_ready (rs := [4, 8]) (by kernel_rfl) (by simp) ?_
        refine AllReadyH.cons (o := _) rfl (fun K hK => ?_) (AllReadyH.cons (o := _) rfl (fun K hK => ?_) AllReadyH.nil)
        · go_simp
          refine (HBS.out _ g1 o1 g2 o2 (HQ2.out.get (g := fun W => FnM W (some ⟨g1, 0, none⟩) N1 N1 o1) 1 rfl) HV1.out (HQ2.out.get (g := fun W => FnM W (some ⟨g2, 0, none⟩) N2 N2 o2) 0 rfl) HV2.out).mono ?_
          rintro e t3 ⟨rfl, hbq⟩
          have HQ3 := hid (HQ2.out.call hbq)
          clear hbq
          go_wp2_with fail
          have HQS := hid (HQ3.out.sub (.cons_cons _ (.cons_cons _ (.cons_cons _ .slnil))) (.cons _ (.cons _ (.cons_cons _ (.cons_cons _ .slnil)))))
          refine hK.out _ _ (HKT.out _ HQS) (fun hHeld3 => ?_)
          clear hK K HQS
          try simp only [Act.put, List.setIfInBounds_toArray, List.set_cons_zero, List.set_cons_succ]
          refine take_at 5 8 (.tuple #[.agg #[.int .i64 0, .int .i64 0, .slice none 0 0], .int .i64 E]) rfl rfl (by kernel_rfl) (by kernel_rfl) (by kernel_rfl) (fun _ _ _ h => h) (Or.inl ⟨by rfl, fun w hSw => by (try dsimp only at hSw); go_simp⟩) (by assumption) ?_
          simp only [Act.put, List.setIfInBounds_toArray, List.set_cons_zero, List.set_cons_succ]
          refine take_at 6 14 (.agg #[.int .i64 0, .int .i64 0, .slice none 0 0]) rfl rfl (by kernel_rfl) (by kernel_rfl) (by kernel_rfl) (fun _ _ _ h => h) (Or.inl ⟨by rfl, fun w hSw => by (try dsimp only at hSw); go_simp⟩) (by assumption) ?_
          simp only [Act.put, List.setIfInBounds_toArray, List.set_cons_zero, List.set_cons_succ]
          refine take_at 7 15 (.int .i64 E) rfl rfl (by kernel_rfl) (by kernel_rfl) (by kernel_rfl) (fun _ _ _ h => h) (Or.inl ⟨by rfl, fun w hSw => by (try dsimp only at hSw); go_simp⟩) (by assumption) ?_
          simp only [Act.put, List.setIfInBounds_toArray, List.set_cons_zero, List.set_cons_succ]
          refine wpAnyH_ready (rs := [8]) (by kernel_rfl) (by simp) ?_
          refine AllReadyH.cons (o := _) rfl (fun K hK => ?_) AllReadyH.nil
          have HQ4 := hid (HQ3.out.alloc (MBox 0 0 none 0 0))
          go_simp
          go_wp2_with fail
          have HQS := hid (HQ4.out.sub (.cons _ (.cons_cons _ (.cons_cons _ (.cons_cons _ .slnil)))) (.cons _ (.cons _ (.cons_cons _ (.cons_cons _ .slnil)))))
          refine hK.out _ _ (HKT.out _ HQS) (fun hHeld4 => ?_)
          clear hK K HQS
          try simp only [Act.put, List.setIfInBounds_toArray, List.set_cons_zero, List.set_cons_succ]
          obtain ⟨t4, ht4⟩ : ∃ X, Hid (t3.alloc (MBox 0 0 none 0 0) = X) := ⟨_, rfl⟩
          obtain ⟨mb, hmb⟩ : ∃ X, Hid (t3.heap.size = X) := ⟨_, rfl⟩
          rw [ht4.out, hmb.out] at HQ4
          have hy1 : t3.alloc (.cells #[.int .i64 0, .int .i64 0, .slice none 0 0] 28) = t4 := ht4.out
          have hy2 := hmb.out
          rw [hy1]
          rw [hy2]
          clear hy1 hy2
          refine wpAnyH_ready (rs := [9]) (by kernel_rfl) (by simp) ?_
          refine AllReadyH.cons (o := _) rfl (fun K hK => ?_) AllReadyH.nil
          obtain ⟨z0, z1, z2⟩ := mcells_of (HQ4.out.at 0 rfl : t4.heap[mb]? = some (MBox 0 0 none 0 0))
          have fz := frzM (HQ4.out.at 0 rfl : t4.heap[mb]? = some (MBox 0 0 none 0 0))
          have HQ5 : Hid (FrQ w (StoM t4 mb 0 0 none 0 0) [(mb, MBox 0 0 none 0 0), (rb, MBox 0 0 none 0 0), (p1, MBox r2 c2 sb n2 kb), (p0, MBox r c sa n ka)] [fun W => FnM W (some ⟨g2, 0, none⟩) N2 N2 o2, fun W => FnM W (some ⟨g1, 0, none⟩) N1 N1 o1, fun W => FnM W sa n ka f, fun W => FnM W sb n2 kb f2]) := HQ4.out.sto 0 rfl
          obtain ⟨U5, hU5⟩ : ∃ X, Hid ((StoM t4 mb 0 0 none 0 0) = X) := ⟨_, rfl⟩
          rw [hU5.out] at HQ5
          have hU5' := hU5.out
          unfold StoM at hU5'
          go_simp
          go_wp2_with fail
          have HQS := hid (HQ5.out.sub (.cons _ (.cons_cons _ (.cons_cons _ (.cons_cons _ .slnil)))) (.cons _ (.cons _ (.cons_cons _ (.cons_cons _ .slnil)))))
          refine hK.out _ _ (HKT.out _ HQS) (fun hHeld5 => ?_)
          clear hK K HQS
          try simp only [Act.put, List.setIfInBounds_toArray, List.set_cons_zero, List.set_cons_succ]
          clear z0 z1 z2 fz
          refine take_at 10 7 (.int .i64 E) rfl rfl (by kernel_rfl) (by kernel_rfl) (by kernel_rfl) (fun _ _ _ h => h) (Or.inl ⟨by rfl, fun w hSw => by (try dsimp only at hSw); go_simp⟩) (by assumption) ?_
          simp only [Act.put, List.setIfInBounds_toArray, List.set_cons_zero, List.set_cons_succ]
          refine wpAnyH_done (by kernel_rfl) ?_ _
          exact HR.out _ _ ⟨g1, o1, g2, o2, mb, rfl, HQ5.out⟩
        · have HQ3 := hid (HQ2.out.alloc (MBox 0 0 none 0 0))
          go_simp
          go_wp2_with fail
          have HQS := hid (HQ3.out.sub (.cons _ (.cons_cons _ (.cons_cons _ (.cons_cons _ .slnil)))) (.cons _ (.cons _ (.cons_cons _ (.cons_cons _ .slnil)))))
          refine hK.out _ _ (HKT.out _ HQS) (fun hHeld3 => ?_)
          clear hK K HQS
          try simp only [Act.put, List.setIfInBounds_toArray, List.set_cons_zero, List.set_cons_succ]
          obtain ⟨t3, ht3⟩ : ∃ X, Hid (t2.alloc (MBox 0 0 none 0 0) = X) := ⟨_, rfl⟩
          obtain ⟨mb, hmb⟩ : ∃ X, Hid (t2.heap.size = X) := ⟨_, rfl⟩
          rw [ht3.out, hmb.out] at HQ3
          have hy1 : t2.alloc (.cells #[.int .i64 0, .int .i64 0, .slice none 0 0] 28) = t3 := ht3.out
          have hy2 := hmb.out
          rw [hy1]
          rw [hy2]
          clear hy1 hy2
          refine wpAnyH_ready (rs := [4]) (by kernel_rfl) (by simp) ?_
          refine AllReadyH.cons (o := _) rfl (fun K hK => ?_) AllReadyH.nil
          go_simp
          refine (HBS.out _ g1 o1 g2 o2 (HQ3.out.get (g := fun W => FnM W (some ⟨g1, 0, none⟩) N1 N1 o1) 1 rfl) HV1.out (HQ3.out.get (g := fun W => FnM W (some ⟨g2, 0, none⟩) N2 N2 o2) 0 rfl) HV2.out).mono ?_
          rintro e t4 ⟨rfl, hbq⟩
          have HQ4 := hid (HQ3.out.call hbq)
          clear hbq
          go_wp2_with fail
          have HQS := hid (HQ4.out.sub (.cons _ (.cons_cons _ (.cons_cons _ (.cons_cons _ .slnil)))) (.cons _ (.cons _ (.cons_cons _ (.cons_cons _ .slnil)))))
          refine hK.out _ _ (HKT.out _ HQS) (fun hHeld4 => ?_)
          clear hK K HQS
          try simp only [Act.put, List.setIfInBounds_toArray, List.set_cons_zero, List.set_cons_succ]
          refine take_at 5 8 (.tuple #[.agg #[.int .i64 0, .int .i64 0, .slice none 0 0], .int .i64 E]) rfl rfl (by kernel_rfl) (by kernel_rfl) (by kernel_rfl) (fun _ _ _ h => h) (Or.inl ⟨by rfl, fun w hSw => by (try dsimp only at hSw); go_simp⟩) (by assumption) ?_
          simp only [Act.put, List.setIfInBounds_toArray, List.set_cons_zero, List.set_cons_succ]
          refine take_at 6 14 (.agg #[.int .i64 0, .int .i64 0, .slice none 0 0]) rfl rfl (by kernel_rfl) (by kernel_rfl) (by kernel_rfl) (fun _ _ _ h => h) (Or.inl ⟨by rfl, fun w hSw => by (try dsimp only at hSw); go_simp⟩) (by assumption) ?_
          simp only [Act.put, List.setIfInBounds_toArray, List.set_cons_zero, List.set_cons_succ]
          refine take_at 7 15 (.int .i64 E) rfl rfl (by kernel_rfl) (by kernel_rfl) (by kernel_rfl) (fun _ _ _ h => h) (Or.inl ⟨by rfl, fun w hSw => by (try dsimp only at hSw); go_simp⟩) (by assumption) ?_
          simp only [Act.put, List.setIfInBounds_toArray, List.set_cons_zero, List.set_cons_succ]
          refine wpAnyH_ready (rs := [9]) (by kernel_rfl) (by simp) ?_
          refine AllReadyH.cons (o := _) rfl (fun K hK => ?_) AllReadyH.nil
          obtain ⟨z0, z1, z2⟩ := mcells_of (HQ4.out.at 0 rfl : t4.heap[mb]? = some (MBox 0 0 none 0 0))
          have fz := frzM (HQ4.out.at 0 rfl : t4.heap[mb]? = some (MBox 0 0 none 0 0))
          have HQ5 : Hid (FrQ w (StoM t4 mb 0 0 none 0 0) [(mb, MBox 0 0 none 0 0), (rb, MBox 0 0 none 0 0), (p1, MBox r2 c2 sb n2 kb), (p0, MBox r c sa n ka)] [fun W => FnM W (some ⟨g2, 0, none⟩) N2 N2 o2, fun W => FnM W (some ⟨g1, 0, none⟩) N1 N1 o1, fun W => FnM W sa n ka f, fun W => FnM W sb n2 kb f2]) := HQ4.out.sto 0 rfl
          obtain ⟨U5, hU5⟩ : ∃ X, Hid ((StoM t4 mb 0 0 none 0 0) = X) := ⟨_, rfl⟩
          rw [hU5.out] at HQ5
          have hU5' := hU5.out
          unfold StoM at hU5'
          go_simp
          go_wp2_with fail
          have HQS := hid (HQ5.out.sub (.cons _ (.cons_cons _ (.cons_cons _ (.cons_cons _ .slnil)))) (.cons _ (.cons _ (.cons_cons _ (.cons_cons _ .slnil)))))
          refine hK.out _ _ (HKT.out _ HQS) (fun hHeld5 => ?_)
          clear hK K HQS
          try simp only [Act.put, List.setIfInBounds_toArray, List.set_cons_zero, List.set_cons_succ]
          clear z0 z1 z2 fz
          refine take_at 10 7 (.int .i64 E) rfl rfl (by kernel_rfl) (by kernel_rfl) (by kernel_rfl) (fun _ _ _ h => h) (Or.inl ⟨by rfl, fun w hSw => by (try dsimp only at hSw); go_simp⟩) (by assumption) ?_
          simp only [Act.put, List.setIfInBounds_toArray, List.set_cons_zero, List.set_cons_succ]
          refine wpAnyH_done (by kernel_rfl) ?_ _
          exact HR.out _ _ ⟨g1, o1, g2, o2, mb, rfl, HQ5.out⟩
      · have HQ2 := hid (HQ1.out.alloc (MBox 0 0 none 0 0))
        go_simp
        go_wp2_with fail
        have HQS := hid (HQ2.out.sub (.cons _ (.cons_cons _ (.cons_cons _ (.cons_cons _ .slnil)))) (.cons _ (.cons_cons _ (.cons_cons _ .slnil))))
        refine hK.out _ _ (HKT.out _ HQS) (fun hHeld2 => ?_)
        clear hK K HQS
        try simp only [Act.put, List.setIfInBounds_toArray, List.set_cons_zero, List.set_cons_succ]
        obtain ⟨t2, ht2⟩ : ∃ X, Hid (t1.alloc (MBox 0 0 none 0 0) = X) := ⟨_, rfl⟩
        obtain ⟨mb, hmb⟩ : ∃ X, Hid (t1.heap.size = X) := ⟨_, rfl⟩
        rw [ht2.out, hmb.out] at HQ2
        have hy1 : t1.alloc (.cells #[.int .i64 0, .int .i64 0, .slice none 0 0] 28) = t2 := ht2.out
        have hy2 := hmb.out
        rw [hy1]
        rw [hy2]
        clear hy1 hy2
        refine wpAnyH_ready (rs := [3]) (by kernel_rfl) (by simp) ?_
        refine AllReadyH.cons (o := _) rfl (fun K hK => ?_) AllReadyH.nil
        go_simp
        refine (HTB.out _ (HQ2.out.get (g := fun W => FnM W sb n2 kb f2) 2 rfl)).mono ?_
        rintro e t3 ⟨⟨g2, o2, rfl, hf, hv⟩, hbq⟩
        have HQ3 := hid (HQ2.out.call hbq)
        have HQ3 := hid (HQ3.out.add (g := fun W => FnM W (some ⟨g2, 0, none⟩) N2 N2 o2) (kept_fn _ _ _ _) hf)
        clear hbq
        have HV2 := hid hv
        clear hv hf
        go_wp2_with fail
        have HQS := hid (HQ3.out.sub (.cons _ (.cons_cons _ (.cons_cons _ (.cons_cons _ .slnil)))) (.cons _ (.cons _ (.cons_cons _ (.cons_cons _ .slnil)))))
        refine hK.out _ _ (HKT.out _ HQS) (fun hHeld3 => ?_)
        clear hK K HQS
        try simp only [Act.put, List.setIfInBounds_toArray, List.set_cons_zero, List.set_cons_succ]
        refine wpAnyH_ready (rs := [4]) (by kernel_rfl) (by simp) ?_
        refine AllReadyH.cons (o := _) rfl (fun K hK => ?_) AllReadyH.nil
        go_simp
        refine (HBS.out _ g1 o1 g2 o2 (HQ3.out.get (g := fun W => FnM W (some ⟨g1, 0, none⟩) N1 N1 o1) 1 rfl) HV1.out (HQ3.out.get (g := fun W => FnM W (some ⟨g2, 0, none⟩) N2 N2 o2) 0 rfl) HV2.out).mono ?_
        rintro e t4 ⟨rfl, hbq⟩
        have HQ4 := hid (HQ3.out.call hbq)
        clear hbq
        go_wp2_with fail
        have HQS := hid (HQ4.out.sub (.cons _ (.cons_cons _ (.cons_cons _ (.cons_cons _ .slnil)))) (.cons _ (.cons _ (.cons_cons _ (.cons_cons _ .slnil)))))
        refine hK.out _ _ (HKT.out _ HQS) (fun hHeld4 => ?_)
        clear hK K HQS
        try simp only [Act.put, List.setIfInBounds_toArray, List.set_cons_zero, List.set_cons_succ]
        refine take_at 5 8 (.tuple #[.agg #[.int .i64 0, .int .i64 0, .slice none 0 0], .int .i64 E]) rfl rfl (by kernel_rfl) (by kernel_rfl) (by kernel_rfl) (fun _ _ _ h => h) (Or.inl ⟨by rfl, fun w hSw => by (try dsimp only at hSw); go_simp⟩) (by assumption) ?_
        simp only [Act.put, List.setIfInBounds_toArray, List.set_cons_zero, List.set_cons_succ]
        refine take_at 6 14 (.agg #[.int .i64 0, .int .i64 0, .slice none 0 0]) rfl rfl (by kernel_rfl) (by kernel_rfl) (by kernel_rfl) (fun _ _ _ h => h) (Or.inl ⟨by rfl, fun w hSw => by (try dsimp only at hSw); go_simp⟩) (by assumption) ?_
        simp only [Act.put, List.setIfInBounds_toArray, List.set_cons_zero, List.set_cons_succ]
        refine take_at 7 15 (.int .i64 E) rfl rfl (by kernel_rfl) (by kernel_rfl) (by kernel_rfl) (fun _ _ _ h => h) (Or.inl ⟨by rfl, fun w hSw => by (try dsimp only at hSw); go_simp⟩) (by assumption) ?_
        simp only [Act.put, List.setIfInBounds_toArray, List.set_cons_zero, List.set_cons_succ]
        refine wpAnyH_ready (rs := [9]) (by kernel_rfl) (by simp) ?_
        refine AllReadyH.cons (o := _) rfl (fun K hK => ?_) AllReadyH.nil
        obtain ⟨z0, z1, z2⟩ := mcells_of (HQ4.out.at 0 rfl : t4.heap[mb]? = some (MBox 0 0 none 0 0))
        have fz := frzM (HQ4.out.at 0 rfl : t4.heap[mb]? = some (MBox 0 0 none 0 0))
        have HQ5 : Hid (FrQ w (StoM t4 mb 0 0 none 0 0) [(mb, MBox 0 0 none 0 0), (rb, MBox 0 0 none 0 0), (p1, MBox r2 c2 sb n2 kb), (p0, MBox r c sa n ka)] [fun W => FnM W (some ⟨g2, 0, none⟩) N2 N2 o2, fun W => FnM W (some ⟨g1, 0, none⟩) N1 N1 o1, fun W => FnM W sa n ka f, fun W => FnM W sb n2 kb f2]) := HQ4.out.sto 0 rfl
        obtain ⟨U5, hU5⟩ : ∃ X, Hid ((StoM t4 mb 0 0 none 0 0) = X) := ⟨_, rfl⟩
        rw [hU5.out] at HQ5
        have hU5' := hU5.out
        unfold StoM at hU5'
        go_simp
        go_wp2_with fail
        have HQS := hid (HQ5.out.sub (.cons _ (.cons_cons _ (.cons_cons _ (.cons_cons _ .slnil)))) (.cons _ (.cons _ (.cons_cons _ (.cons_cons _ .slnil)))))
        refine hK.out _ _ (HKT.out _ HQS) (fun hHeld5 => ?_)
        clear hK K HQS
        try simp only [Act.put, List.setIfInBounds_toArray, List.set_cons_zero, List.set_cons_succ]
        clear z0 z1 z2 fz
        refine take_at 10 7 (.int .i64 E) rfl rfl (by kernel_rfl) (by kernel_rfl) (by kernel_rfl) (fun _ _ _ h => h) (Or.inl ⟨by rfl, fun w hSw => by (try dsimp only at hSw); go_simp⟩) (by assumption) ?_
        simp only [Act.put, List.setIfInBounds_toArray, List.set_cons_zero, List.set_cons_succ]
        refine wpAnyH_done (by kernel_rfl) ?_ _
        exact HR.out _ _ ⟨g1, o1, g2, o2, mb, rfl, HQ5.out⟩
    · have HQ1 := hid (HQ0.out.alloc (MBox 0 0 none 0 0))
      go_simp
      go_wp2_with fail
      have HQS := hid (HQ1.out.sub (.cons _ (.cons_cons _ (.cons_cons _ (.cons_cons _ .slnil)))) (.cons_cons _ (.cons_cons _ .slnil)))
      refine hK.out _ _ (HKT.out _ HQS) (fun hHeld1 => ?_)
      clear hK K HQS
      try simp only [Act.put, List.setIfInBounds_toArray, List.set_cons_zero, List.set_cons_succ]
      obtain ⟨t1, ht1⟩ : ∃ X, Hid (V.drew.alloc (MBox 0 0 none 0 0) = X) := ⟨_, rfl⟩
      obtain ⟨mb, hmb⟩ : ∃ X, Hid (V.drew.heap.size = X) := ⟨_, rfl⟩
      rw [ht1.out, hmb.out] at HQ1
      have hy1 : (V.alloc (.cells #[.int .i64 0, .int .i64 0, .slice none 0 0] 28)).drew = t1 := ht1.out
      have hy2 : V.heap.size = mb := hmb.out
      rw [hy1]
      rw [hy2]
      clear hy1 hy2
      refine wpAnyH_ready (rs := [1]) (by kernel_rfl) (by simp) ?_
      refine AllReadyH.cons (o := _) rfl (fun K hK => ?_) AllReadyH.nil
      go_simp
      refine (HTA.out _ (HQ1.out.get (g := fun W => FnM W sa n ka f) 0 rfl)).mono ?_
      rintro e t2 ⟨⟨g1, o1, rfl, hf, hv⟩, hbq⟩
      have HQ2 := hid (HQ1.out.call hbq)
      have HQ2 := hid (HQ2.out.add (g := fun W => FnM W (some ⟨g1, 0, none⟩) N1 N1 o1) (kept_fn _ _ _ _) hf)
      clear hbq
      have HV1 := hid hv
      clear hv hf
      go_wp2_with fail
      have HQS := hid (HQ2.out.sub (.cons _ (.cons_cons _ (.cons_cons _ (.cons_cons _ .slnil)))) (.cons _ (.cons_cons _ (.cons_cons _ .slnil))))
      refine hK.out _ _ (HKT.out _ HQS) (fun hHeld2 => ?_)
      clear hK K HQS
      try simp only [Act.put, List.setIfInBounds_toArray, List.set_cons_zero, List.set_cons_succ]
      refine wpAnyH_ready (rs := [3]) (by kernel_rfl) (by simp) ?_
      refine AllReadyH.cons (o := _) rfl (fun K hK => ?_) AllReadyH.nil
      go_simp
      refine (HTB.out _ (HQ2.out.get (g := fun W => FnM W sb n2 kb f2) 2 rfl)).mono ?_
      rintro e t3 ⟨⟨g2, o2, rfl, hf, hv⟩, hbq⟩
      have HQ3 := hid (HQ2.out.call hbq)
      have HQ3 := hid (HQ3.out.add (g := fun W => FnM W (some ⟨g2, 0, none⟩) N2 N2 o2) (kept_fn _ _ _ _) hf)
      clear hbq
      have HV2 := hid hv
      clear hv hf
      go_wp2_with fail
      have HQS := hid (HQ3.out.sub (.cons _ (.cons_cons _ (.cons_cons _ (.cons_cons _ .slnil)))) (.cons _ (.cons _ (.cons_cons _ (.cons_cons _ .slnil)))))
      refine hK.out _ _ (HKT.out _ HQS) (fun hHeld3 => ?_)
      clear hK K HQS
      try simp only [Act.put, List.setIfInBounds_toArray, List.set_cons_zero, List.set_cons_succ]
      refine wpAnyH_ready (rs := [4]) (by kernel_rfl) (by simp) ?_
      refine AllReadyH.cons (o := _) rfl (fun K hK => ?_) AllReadyH.nil
      go_simp
      refine (HBS.out _ g1 o1 g2 o2 (HQ3.out.get (g := fun W => FnM W (some ⟨g1, 0, none⟩) N1 N1 o1) 1 rfl) HV1.out (HQ3.out.get (g := fun W => FnM W (some ⟨g2, 0, none⟩) N2 N2 o2) 0 rfl) HV2.out).mono ?_
      rintro e t4 ⟨rfl, hbq⟩
      have HQ4 := hid (HQ3.out.call hbq)
      clear hbq
      go_wp2_with fail
      have HQS := hid (HQ4.out.sub (.cons _ (.cons_cons _ (.cons_cons _ (.cons_cons _ .slnil)))) (.cons _ (.cons _ (.cons_cons _ (.cons_cons _ .slnil)))))
      refine hK.out _ _ (HKT.out _ HQS) (fun hHeld4 => ?_)
      clear hK K HQS
      try simp only [Act.put, List.setIfInBounds_toArray, List.set_cons_zero, List.set_cons_succ]
      refine take_at 5 8 (.tuple #[.agg #[.int .i64 0, .int .i64 0, .slice none 0 0], .int .i64 E]) rfl rfl (by kernel_rfl) (by kernel_rfl) (by kernel_rfl) (fun _ _ _ h => h) (Or.inl ⟨by rfl, fun w hSw => by (try dsimp only at hSw); go_simp⟩) (by assumption) ?_
      simp only [Act.put, List.setIfInBounds_toArray, List.set_cons_zero, List.set_cons_succ]
      refine take_at 6 14 (.agg #[.int .i64 0, .int .i64 0, .slice none 0 0]) rfl rfl (by kernel_rfl) (by kernel_rfl) (by kernel_rfl) (fun _ _ _ h => h) (Or.inl ⟨by rfl, fun w hSw => by (try dsimp only at hSw); go_simp⟩) (by assumption) ?_
      simp only [Act.put, List.setIfInBounds_toArray, List.set_cons_zero, List.set_cons_succ]
      refine take_at 7 15 (.int .i64 E) rfl rfl (by kernel_rfl) (by kernel_rfl) (by kernel_rfl) (fun _ _ _ h => h) (Or.inl ⟨by rfl, fun w hSw => by (try dsimp only at hSw); go_simp⟩) (by assumption) ?_
      simp only [Act.put, List.setIfInBounds_toArray, List.set_cons_zero, List.set_cons_succ]
      refine wpAnyH_ready (rs := [9]) (by kernel_rfl) (by simp) ?_
      refine AllReadyH.cons (o := _) rfl (fun K hK => ?_) AllReadyH.nil
      obtain ⟨z0, z1, z2⟩ := mcells_of (HQ4.out.at 0 rfl : t4.heap[mb]? = some (MBox 0 0 none 0 0))
      have fz := frzM (HQ4.out.at 0 rfl : t4.heap[mb]? = some (MBox 0 0 none 0 0))
      have HQ5 : Hid (FrQ w (StoM t4 mb 0 0 none 0 0) [(mb, MBox 0 0 none 0 0), (rb, MBox 0 0 none 0 0), (p1, MBox r2 c2 sb n2 kb), (p0, MBox r c sa n ka)] [fun W => FnM W (some ⟨g2, 0, none⟩) N2 N2 o2, fun W => FnM W (some ⟨g1, 0, none⟩) N1 N1 o1, fun W => FnM W sa n ka f, fun W => FnM W sb n2 kb f2]) := HQ4.out.sto 0 rfl
      obtain ⟨U5, hU5⟩ : ∃ X, Hid ((StoM t4 mb 0 0 none 0 0) = X) := ⟨_, rfl⟩
      rw [hU5.out] at HQ5
      have hU5' := hU5.out
      unfold StoM at hU5'
      go_simp
      go_wp2_with fail
      have HQS := hid (HQ5.out.sub (.cons _ (.cons_cons _ (.cons_cons _ (.cons_cons _ .slnil)))) (.cons _ (.cons _ (.cons_cons _ (.cons_cons _ .slnil)))))
      refine hK.out _ _ (HKT.out _ HQS) (fun hHeld5 => ?_)
      clear hK K HQS
      try simp only [Act.put, List.setIfInBounds_toArray, List.set_cons_zero, List.set_cons_succ]
      clear z0 z1 z2 fz
      refine take_at 10 7 (.int .i64 E) rfl rfl (by kernel_rfl) (by kernel_rfl) (by kernel_rfl) (fun _ _ _ h => h) (Or.inl ⟨by rfl, fun w hSw => by (try dsimp only at hSw); go_simp⟩) (by assumption) ?_
      simp only [Act.put, List.setIfInBounds_toArray, List.set_cons_zero, List.set_cons_succ]
      refine wpAnyH_done (by kernel_rfl) ?_ _
      exact HR.out _ _ ⟨g1, o1, g2, o2, mb, rfl, HQ5.out⟩
  · rintro a' w1 ⟨g1, o1, g2, o2, mb, rfl, hF⟩
    simp only [Act.put, List.setIfInBounds_toArray, List.set_cons_zero, List.set_cons_succ]
    have HF : Hid (FrQ w w1 [(mb, MBox 0 0 none 0 0), (rb, MBox 0 0 none 0 0), (p1, MBox r2 c2 sb n2 kb), (p0, MBox r c sa n ka)] [fun W => FnM W (some ⟨g2, 0, none⟩) N2 N2 o2, fun W => FnM W (some ⟨g1, 0, none⟩) N1 N1 o1, fun W => FnM W sa n ka f, fun W => FnM W sb n2 kb f2]) := hF
    clear hF HKT HQ0 HQS0
    obtain ⟨c00, c01, c02⟩ := mcells_of (HF.out.at 0 rfl : w1.heap[mb]? = some (MBox 0 0 none 0 0))
    obtain ⟨b0, b1, b2⟩ := mcells_of (HF.out.at 1 rfl : w1.heap[rb]? = some (MBox 0 0 none 0 0))
    have fz := frzM (HF.out.at 1 rfl : w1.heap[rb]? = some (MBox 0 0 none 0 0))
    have HRB : Hid (w.heap.size ≤ rb) := (HF.out.box _ (List.mem_of_getElem? (i := 1) rfl)).2
    go_wp2_with fail
    exact bodyPost_ret (v := .tuple #[MV 0 0 none 0 0, .int .i64 E]) (by simp [results, Try.results18, go_sem, b0, b1, b2, MV]) rfl ⟨rfl, StoM.below HF.out.bel HRB.out⟩
end Go.Proofs.Ytjaljdodlfmebaa
