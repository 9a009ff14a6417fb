
/- The law MatrixSums. (Written by mknbf.py.) -/
import Derived.Test.YtilhmjjbanmfcaaP48
import Derived.Test.YtilhmjjbanmfcaaP46
namespace Go.Proofs.Ytilhmjjbanmfcaa
open Go.RowKit Go.IntWalk

theorem if_eqE (q p : Nat) : (if ((q : Int) != (p : Int)) = true then (3 : Int) else 0) = eqE q p := by
  unfold eqE
  by_cases h : q = p
  · subst h; simp
  · rw [if_pos (by simp; omega), if_neg h]
theorem dot_no (q : Nat) (us : List Nat) (p : Nat) (vs : List Nat) (h : dotE q us p vs ≠ 0) : dotT q us p vs = dotE q us p vs ∧ dotD q us p vs = 0 := by
  have h1 : dotT q us p vs = dotE q us p vs := by unfold dotT; rw [if_neg h]
  exact ⟨h1, by unfold dotD; rw [h1, if_neg h]⟩
theorem dot_yes (q : Nat) (us : List Nat) (p : Nat) (vs : List Nat) (h : dotE q us p vs = 0) : q = p ∧ (finB (dotW us vs q) = true → dotT q us p vs = 0 ∧ dotD q us p vs = dotW us vs q) ∧ (finB (dotW us vs q) = false → dotT q us p vs = 5 ∧ dotD q us p vs = 0) := by
  have h1 := (first2_zero (show first2 (first2 (lstE q us) (lstE p vs)) (eqE q p) = 0 from h)).2
  refine ⟨?_, fun hf => ?_, fun hf => ?_⟩
  · unfold eqE at h1
    by_cases hq : q = p
    · exact hq
    · rw [if_neg hq] at h1; cases h1
  · have h2 : dotT q us p vs = 0 := by unfold dotT; rw [if_pos h, if_pos hf]
    exact ⟨h2, by unfold dotD; rw [if_pos h2]⟩
  · have h2 : dotT q us p vs = 5 := by unfold dotT; rw [if_pos h, hf]; rfl
    exact ⟨h2, by unfold dotD; rw [h2, if_neg (by decide)]⟩
theorem lq_any (sa : Option Addr) (sn sc : Nat) (xs : List Nat) (w : World) (hu : U64At w sa sn xs) (hn : sn ≤ 17592186043904) :
    Calls Try.prog 6 #[.slice sa sn sc] w fun e w' => (∃ ta cap, e = .returned (.slice ta sn cap) ∧ FlM w' ta sn cap xs) ∧ Below w.heap.size w w' := by
  have HO := hid (l_any sa sn sc xs w hu hn)
  clear hu hn
  go_enter Try.func6, Try.ntmps6
  go_wp2_with fail
  refine HO.out.mono ?_
  rintro e w1 ⟨ta, cap, rfl, h1, h2⟩
  have HH := hid (And.intro h1 h2)
  clear h1 h2
  go_wp2_with fail
  go_ret
  exact ⟨⟨ta, cap, rfl, HH.out.1⟩, HH.out.2⟩
set_option maxRecDepth 20000 in
set_option maxHeartbeats 16000000 in
theorem msum_walk (rx cx : Int) (sa : Option Addr) (n ka : Nat) (xs : List Nat) (ry cy : Int) (sb : Option Addr) (m kb : Nat) (ys : List Nat) (sn : Nat) (su : Option Addr) (q ku : Nat) (us : List Nat) (sz : Option Addr) (p kz : Nat) (vs : List Nat) (w : World) (hu : U64At w sa n xs) (hn : n ≤ 17592186043904) (hv : U64At w sb m ys) (hm : m ≤ 17592186043904) (hs : sn < 18446744073709551616) (hl : U64At w su q us) (hq : q ≤ 17592186043904) (hl2 : U64At w sz p vs) (hp : p ≤ 17592186043904) :
    Calls Try.prog 3 #[.agg #[.int .i64 rx, .int .i64 cx, .slice sa n ka], .agg #[.int .i64 ry, .int .i64 cy, .slice sb m kb], .int .u64 sn, .slice su q ku, .slice sz p kz] w fun e w' => e = .returned (.bool true) ∧ Below w.heap.size w w' := by
  have HOX := hid (fun W (hW : Below w.heap.size w W) => of_any rx cx sa n ka xs W (hu.below hW) hn)
  have HOY := hid (fun W (hW : Below w.heap.size w W) => of_any ry cy sb m kb ys W (hv.below hW) hm)
  have HLU := hid (fun W (hW : Below w.heap.size w W) => lq_any su q ku us W (hl.below hW) hq)
  have HLV := hid (fun W (hW : Below w.heap.size w W) => lq_any sz p kz vs W (hl2.below hW) hp)
  have HNM := hid (And.intro hn (And.intro hm (And.intro hq hp)))
  have HSL := hid hs
  have HFINS := hid (fun W => rfinite_any sn W hs)
  rw [finB_exp sn hs] at HFINS
  have HF : Hid (FrQ w ((w.alloc (BBox rx cx sa n ka)).alloc (BBox ry cy sb m kb)) [(w.heap.size + 1, BBox ry cy sb m kb), (w.heap.size, BBox rx cx sa n ka)] []) := by
    have := ((FrQ.start w).alloc (BBox rx cx sa n ka)).alloc (BBox ry cy sb m kb)
    rw [show (w.alloc (BBox rx cx sa n ka)).heap.size = w.heap.size + 1 from by simp] at this
    exact this
  obtain ⟨V, hV⟩ : ∃ V, Hid ((w.alloc (BBox rx cx sa n ka)).alloc (BBox ry cy sb m kb) = V) := ⟨_, rfl⟩
  obtain ⟨p0, hp0⟩ : ∃ t, Hid (w.heap.size = t) := ⟨_, rfl⟩
  obtain ⟨p1, hp1⟩ : ∃ t, Hid (p0 + 1 = t) := ⟨_, rfl⟩
  rw [hV.out, hp0.out, hp1.out] at HF
  have hV' := hV.out
  unfold BBox at hV'
  have hp0' := hp0.out
  have hp1' := hp1.out
  clear hu hv hn hm hs hl hq hl2 hp
  go_enter Try.func3, Try.ntmps3
  have HKT : Hid (∀ W, Hid (FrQ w W [(p1, BBox ry cy sb m kb), (p0, BBox rx cx sa n ka)] []) → (W.cell? ⟨p0, 0, none⟩ = some (.int .i64 rx) ∧ W.cell? ⟨p0, 1, none⟩ = some (.int .i64 cx) ∧ W.cell? ⟨p0, 2, none⟩ = some (.slice sa n ka) ∧ W.cell? ⟨p1, 0, none⟩ = some (.int .i64 ry) ∧ W.cell? ⟨p1, 1, none⟩ = some (.int .i64 cy) ∧ W.cell? ⟨p1, 2, none⟩ = some (.slice sb m kb)) ∧ Hid (FrQ w W [(p1, BBox ry cy sb m kb), (p0, BBox rx cx sa n ka)] [])) := fun W hW => by
    obtain ⟨a00, a01, a02⟩ := bcells_of (hW.out.at 1 rfl : W.heap[p0]? = some (BBox rx cx sa n ka))
    obtain ⟨a10, a11, a12⟩ := bcells_of (hW.out.at 0 rfl : W.heap[p1]? = some (BBox ry cy sb m kb))
    exact ⟨⟨a00, a01, a02, a10, a11, a12⟩, hW⟩
  have HQ0 : Hid (FrQ w V.drew [(p1, BBox ry cy sb m kb), (p0, BBox rx cx sa n ka)] []) := HF.out.drew
  have HQS0 : Hid (FrQ w V.drew [(p1, BBox ry cy sb m kb), (p0, BBox rx cx sa n ka)] []) := HQ0.out.sub (.cons_cons _ (.cons_cons _ .slnil)) .slnil
  go_wp2_with fail
  refine region_merge2 (fun a0 a' w' => ∃ (ta : Option Addr) (ca : Nat) (tb : Option Addr) (cb : Nat) (tu : Option Addr) (cu : Nat) (tv : Option Addr) (cv ia ib : Nat), a' = Act.put (Act.put (Act.put (Act.put (Act.put (Act.put (Act.put (Act.put (Act.put (Act.put (Act.put (Act.put (a0) (some 29) (.agg #[.int .i64 rx, .int .i64 cx, .slice sa n ka])) (some 31) (.agg #[.int .i64 ry, .int .i64 cy, .slice sb m kb])) (some 33) (.slice su q ku)) (some 35) (.slice sz p kz)) (some 30) (.agg #[.int .i64 rx, .int .i64 cx, .slice ta n ca])) (some 32) (.agg #[.int .i64 ry, .int .i64 cy, .slice tb m cb])) (some 34) (.slice tu q cu)) (some 36) (.slice tv p cv)) (some 11) (.pointer (some ⟨ia, 0, none⟩))) (some 12) (.pointer (some ⟨ib, 0, none⟩))) (some 13) (.slice tu q cu)) (some 14) (.slice tv p cv) ∧ FrQ w w' [(ib, MBox ry cy tb m cb), (ia, MBox rx cx ta n ca), (p1, BBox ry cy sb m kb), (p0, BBox rx cx sa n ka)] [fun W => FlM W tv p cv vs, fun W => FlM W tu q cu us, fun W => FlM W tb m cb ys, fun W => FlM W ta n ca xs]) (fun HR => ?_) ?_
  · simp only [Act.put, List.setIfInBounds_toArray, List.set_cons_zero, List.set_cons_succ] at HR
    refine wp_region_held_drew (S := fun W => (W.cell? ⟨p0, 0, none⟩ = some (.int .i64 rx) ∧ W.cell? ⟨p0, 1, none⟩ = some (.int .i64 cx) ∧ W.cell? ⟨p0, 2, none⟩ = some (.slice sa n ka) ∧ W.cell? ⟨p1, 0, none⟩ = some (.int .i64 ry) ∧ W.cell? ⟨p1, 1, none⟩ = some (.int .i64 cy) ∧ W.cell? ⟨p1, 2, none⟩ = some (.slice sb m kb)) ∧ Hid (FrQ w W [(p1, BBox ry cy sb m kb), (p0, BBox rx cx sa n ka)] [])) (by kernel_rfl) (HKT.out _ HQS0) (fun hHeld => ?_)
    refine take_at 0 29 (.agg #[.int .i64 rx, .int .i64 cx, .slice sa n ka]) rfl rfl (by kernel_rfl) (by kernel_rfl) (by kernel_rfl) (fun _ _ _ h => h) (Or.inl ⟨by rfl, fun w hSw => by (try dsimp only at hSw); go_simp⟩) (by assumption) ?_
    simp only [Act.put, List.setIfInBounds_toArray, List.set_cons_zero, List.set_cons_succ]
    refine take_at 2 31 (.agg #[.int .i64 ry, .int .i64 cy, .slice sb m kb]) rfl rfl (by kernel_rfl) (by kernel_rfl) (by kernel_rfl) (fun _ _ _ h => h) (Or.inl ⟨by rfl, fun w hSw => by (try dsimp only at hSw); go_simp⟩) (by assumption) ?_
    simp only [Act.put, List.setIfInBounds_toArray, List.set_cons_zero, List.set_cons_succ]
    refine take_at 4 33 (.slice su q ku) rfl rfl (by kernel_rfl) (by kernel_rfl) (by kernel_rfl) (fun _ _ _ h => h) (Or.inl ⟨by rfl, fun w hSw => by (try dsimp only at hSw); go_simp⟩) (by assumption) ?_
    simp only [Act.put, List.setIfInBounds_toArray, List.set_cons_zero, List.set_cons_succ]
    refine take_at 6 35 (.slice sz p kz) rfl rfl (by kernel_rfl) (by kernel_rfl) (by kernel_rfl) (fun _ _ _ h => h) (Or.inl ⟨by rfl, fun w hSw => by (try dsimp only at hSw); go_simp⟩) (by assumption) ?_
    simp only [Act.put, List.setIfInBounds_toArray, List.set_cons_zero, List.set_cons_succ]
    refine wpAnyH_ready (rs := [1, 8, 9]) (by kernel_rfl) (by simp) ?_
    refine AllReadyH.cons (o := _) rfl (fun K hK => ?_) (AllReadyH.cons (o := _) rfl (fun K hK => ?_) (AllReadyH.cons (o := _) rfl (fun K hK => ?_) AllReadyH.nil))
    · go_simp
      refine (HOX.out _ HQ0.out.bel).mono ?_
      rintro e t1 ⟨⟨ta, ca, rfl, hf⟩, hbq⟩
      have HQ1 := hid (HQ0.out.call hbq)
      have HQ1 := hid (HQ1.out.add (g := fun W => FlM W ta n ca xs) (kept_fl _ _ _ _) hf)
      clear hbq
      unfold MV
      go_wp2_with fail
      have HQS := hid (HQ1.out.sub (.cons_cons _ (.cons_cons _ .slnil)) (.cons _ .slnil))
      refine hK.out _ _ (HKT.out _ HQS) (fun hHeld1 => ?_)
      clear hK K HQS
      try simp only [Act.put, List.setIfInBounds_toArray, List.set_cons_zero, List.set_cons_succ]
      refine wpAnyH_ready (rs := [3, 8, 9]) (by kernel_rfl) (by simp) ?_
      refine AllReadyH.cons (o := _) rfl (fun K hK => ?_) (AllReadyH.cons (o := _) rfl (fun K hK => ?_) (AllReadyH.cons (o := _) rfl (fun K hK => ?_) AllReadyH.nil))
      · go_simp
        refine (HOY.out _ HQ1.out.bel).mono ?_
        rintro e t2 ⟨⟨tb, cb, rfl, hf⟩, hbq⟩
        have HQ2 := hid (HQ1.out.call hbq)
        have HQ2 := hid (HQ2.out.add (g := fun W => FlM W tb m cb ys) (kept_fl _ _ _ _) hf)
        clear hbq
        unfold MV
        go_wp2_with fail
        have HQS := hid (HQ2.out.sub (.cons_cons _ (.cons_cons _ .slnil)) (.cons _ (.cons _ .slnil)))
        refine hK.out _ _ (HKT.out _ HQS) (fun hHeld2 => ?_)
        clear hK K HQS
        try simp only [Act.put, List.setIfInBounds_toArray, List.set_cons_zero, List.set_cons_succ]
        refine wpAnyH_ready (rs := [5, 8, 9]) (by kernel_rfl) (by simp) ?_
        refine AllReadyH.cons (o := _) rfl (fun K hK => ?_) (AllReadyH.cons (o := _) rfl (fun K hK => ?_) (AllReadyH.cons (o := _) rfl (fun K hK => ?_) AllReadyH.nil))
        · go_simp
          refine (HLU.out _ HQ2.out.bel).mono ?_
          rintro e t3 ⟨⟨tu, cu, rfl, hf⟩, hbq⟩
          have HQ3 := hid (HQ2.out.call hbq)
          have HQ3 := hid (HQ3.out.add (g := fun W => FlM W tu q cu us) (kept_fl _ _ _ _) hf)
          clear hbq
          go_wp2_with fail
          have HQS := hid (HQ3.out.sub (.cons_cons _ (.cons_cons _ .slnil)) (.cons _ (.cons _ (.cons _ .slnil))))
          refine hK.out _ _ (HKT.out _ HQS) (fun hHeld3 => ?_)
          clear hK K HQS
          try simp only [Act.put, List.setIfInBounds_toArray, List.set_cons_zero, List.set_cons_succ]
          refine wpAnyH_ready (rs := [7, 8, 9]) (by kernel_rfl) (by simp) ?_
          refine AllReadyH.cons (o := _) rfl (fun K hK => ?_) (AllReadyH.cons (o := _) rfl (fun K hK => ?_) (AllReadyH.cons (o := _) rfl (fun K hK => ?_) AllReadyH.nil))
          · go_simp
            refine (HLV.out _ HQ3.out.bel).mono ?_
            rintro e t4 ⟨⟨tv, cv, rfl, hf⟩, hbq⟩
            have HQ4 := hid (HQ3.out.call hbq)
            have HQ4 := hid (HQ4.out.add (g := fun W => FlM W tv p cv vs) (kept_fl _ _ _ _) hf)
            clear hbq
            go_wp2_with fail
            have HQS := hid (HQ4.out.sub (.cons_cons _ (.cons_cons _ .slnil)) (.cons _ (.cons _ (.cons _ (.cons _ .slnil)))))
            refine hK.out _ _ (HKT.out _ HQS) (fun hHeld4 => ?_)
            clear hK K HQS
            try simp only [Act.put, List.setIfInBounds_toArray, List.set_cons_zero, List.set_cons_succ]
            refine wpAnyH_ready (rs := [8, 9]) (by kernel_rfl) (by simp) ?_
            refine AllReadyH.cons (o := _) rfl (fun K hK => ?_) (AllReadyH.cons (o := _) rfl (fun K hK => ?_) AllReadyH.nil)
            · have HQ5 := hid (HQ4.out.alloc (MBox 0 0 none 0 0))
              go_simp
              go_wp2_with fail
              have HQS := hid (HQ5.out.sub (.cons _ (.cons_cons _ (.cons_cons _ .slnil))) (.cons _ (.cons _ (.cons _ (.cons _ .slnil)))))
              refine hK.out _ _ (HKT.out _ HQS) (fun hHeld5 => ?_)
              clear hK K HQS
              try simp only [Act.put, List.setIfInBounds_toArray, List.set_cons_zero, List.set_cons_succ]
              obtain ⟨t5, ht5⟩ : ∃ X, Hid (t4.alloc (MBox 0 0 none 0 0) = X) := ⟨_, rfl⟩
              obtain ⟨ia, hia⟩ : ∃ X, Hid (t4.heap.size = X) := ⟨_, rfl⟩
              rw [ht5.out, hia.out] at HQ5
              have hy1 : t4.alloc (.cells #[.int .i64 0, .int .i64 0, .slice none 0 0] 28) = t5 := ht5.out
              have hy2 := hia.out
              rw [hy1]
              rw [hy2]
              clear hy1 hy2
              refine wpAnyH_ready (rs := [9]) (by kernel_rfl) (by simp) ?_
              refine AllReadyH.cons (o := _) rfl (fun K hK => ?_) AllReadyH.nil
              have HQ6 := hid (HQ5.out.alloc (MBox 0 0 none 0 0))
              go_simp
              go_wp2_with fail
              have HQS := hid (HQ6.out.sub (.cons _ (.cons _ (.cons_cons _ (.cons_cons _ .slnil)))) (.cons _ (.cons _ (.cons _ (.cons _ .slnil)))))
              refine hK.out _ _ (HKT.out _ HQS) (fun hHeld6 => ?_)
              clear hK K HQS
              try simp only [Act.put, List.setIfInBounds_toArray, List.set_cons_zero, List.set_cons_succ]
              obtain ⟨t6, ht6⟩ : ∃ X, Hid (t5.alloc (MBox 0 0 none 0 0) = X) := ⟨_, rfl⟩
              obtain ⟨ib, hib⟩ : ∃ X, Hid (t5.heap.size = X) := ⟨_, rfl⟩
              rw [ht6.out, hib.out] at HQ6
              have hy1 : t5.alloc (.cells #[.int .i64 0, .int .i64 0, .slice none 0 0] 28) = t6 := ht6.out
              have hy2 := hib.out
              rw [hy1]
              rw [hy2]
              clear hy1 hy2
              refine wpAnyH_ready (rs := [10]) (by kernel_rfl) (by simp) ?_
              refine AllReadyH.cons (o := _) rfl (fun K hK => ?_) AllReadyH.nil
              obtain ⟨z0, z1, z2⟩ := mcells_of (HQ6.out.at 1 rfl : t6.heap[ia]? = some (MBox 0 0 none 0 0))
              have fz := frzM (HQ6.out.at 1 rfl : t6.heap[ia]? = some (MBox 0 0 none 0 0))
              have HQ7 : Hid (FrQ w (StoM t6 ia rx cx ta n ca) [(ib, MBox 0 0 none 0 0), (ia, MBox rx cx ta n ca), (p1, BBox ry cy sb m kb), (p0, BBox rx cx sa n ka)] [fun W => FlM W tv p cv vs, fun W => FlM W tu q cu us, fun W => FlM W tb m cb ys, fun W => FlM W ta n ca xs]) := HQ6.out.sto 1 rfl
              obtain ⟨U7, hU7⟩ : ∃ X, Hid ((StoM t6 ia rx cx ta n ca) = X) := ⟨_, rfl⟩
              rw [hU7.out] at HQ7
              have hU7' := hU7.out
              unfold StoM at hU7'
              go_simp
              go_wp2_with fail
              have HQS := hid (HQ7.out.sub (.cons _ (.cons _ (.cons_cons _ (.cons_cons _ .slnil)))) (.cons _ (.cons _ (.cons _ (.cons _ .slnil)))))
              refine hK.out _ _ (HKT.out _ HQS) (fun hHeld7 => ?_)
              clear hK K HQS
              try simp only [Act.put, List.setIfInBounds_toArray, List.set_cons_zero, List.set_cons_succ]
              clear z0 z1 z2 fz
              refine wpAnyH_ready (rs := [11]) (by kernel_rfl) (by simp) ?_
              refine AllReadyH.cons (o := _) rfl (fun K hK => ?_) AllReadyH.nil
              obtain ⟨z0, z1, z2⟩ := mcells_of (HQ7.out.at 0 rfl : U7.heap[ib]? = some (MBox 0 0 none 0 0))
              have fz := frzM (HQ7.out.at 0 rfl : U7.heap[ib]? = some (MBox 0 0 none 0 0))
              have HQ8 : Hid (FrQ w (StoM U7 ib ry cy tb m cb) [(ib, MBox ry cy tb m cb), (ia, MBox rx cx ta n ca), (p1, BBox ry cy sb m kb), (p0, BBox rx cx sa n ka)] [fun W => FlM W tv p cv vs, fun W => FlM W tu q cu us, fun W => FlM W tb m cb ys, fun W => FlM W ta n ca xs]) := HQ7.out.sto 0 rfl
              obtain ⟨U8, hU8⟩ : ∃ X, Hid ((StoM U7 ib ry cy tb m cb) = X) := ⟨_, rfl⟩
              rw [hU8.out] at HQ8
              have hU8' := hU8.out
              unfold StoM at hU8'
              go_simp
              go_wp2_with fail
              have HQS := hid (HQ8.out.sub (.cons _ (.cons _ (.cons_cons _ (.cons_cons _ .slnil)))) (.cons _ (.cons _ (.cons _ (.cons _ .slnil)))))
              refine hK.out _ _ (HKT.out _ HQS) (fun hHeld8 => ?_)
              clear hK K HQS
              try simp only [Act.put, List.setIfInBounds_toArray, List.set_cons_zero, List.set_cons_succ]
              clear z0 z1 z2 fz
              refine take_at 12 13 (.slice tu q cu) rfl rfl (by kernel_rfl) (by kernel_rfl) (by kernel_rfl) (fun _ _ _ h => h) (Or.inl ⟨by rfl, fun w hSw => by (try dsimp only at hSw); go_simp⟩) (by assumption) ?_
              simp only [Act.put, List.setIfInBounds_toArray, List.set_cons_zero, List.set_cons_succ]
              refine take_at 13 14 (.slice tv p cv) rfl rfl (by kernel_rfl) (by kernel_rfl) (by kernel_rfl) (fun _ _ _ h => h) (Or.inl ⟨by rfl, fun w hSw => by (try dsimp only at hSw); go_simp⟩) (by assumption) ?_
              simp only [Act.put, List.setIfInBounds_toArray, List.set_cons_zero, List.set_cons_succ]
              refine wpAnyH_done (by kernel_rfl) ?_ _
              exact HR.out _ _ ⟨ta, ca, tb, cb, tu, cu, tv, cv, ia, ib, rfl, HQ8.out⟩
            · have HQ5 := hid (HQ4.out.alloc (MBox 0 0 none 0 0))
              go_simp
              go_wp2_with fail
              have HQS := hid (HQ5.out.sub (.cons _ (.cons_cons _ (.cons_cons _ .slnil))) (.cons _ (.cons _ (.cons _ (.cons _ .slnil)))))
              refine hK.out _ _ (HKT.out _ HQS) (fun hHeld5 => ?_)
              clear hK K HQS
              try simp only [Act.put, List.setIfInBounds_toArray, List.set_cons_zero, List.set_cons_succ]
              obtain ⟨t5, ht5⟩ : ∃ X, Hid (t4.alloc (MBox 0 0 none 0 0) = X) := ⟨_, rfl⟩
              obtain ⟨ib, hib⟩ : ∃ X, Hid (t4.heap.size = X) := ⟨_, rfl⟩
              rw [ht5.out, hib.out] at HQ5
              have hy1 : t4.alloc (.cells #[.int .i64 0, .int .i64 0, .slice none 0 0] 28) = t5 := ht5.out
              have hy2 := hib.out
              rw [hy1]
              rw [hy2]
              clear hy1 hy2
              refine wpAnyH_ready (rs := [8]) (by kernel_rfl) (by simp) ?_
              refine AllReadyH.cons (o := _) rfl (fun K hK => ?_) AllReadyH.nil
              have HQ6 := hid (HQ5.out.alloc (MBox 0 0 none 0 0))
              go_simp
              go_wp2_with fail
              have HQS := hid (HQ6.out.sub (.cons _ (.cons _ (.cons_cons _ (.cons_cons _ .slnil)))) (.cons _ (.cons _ (.cons _ (.cons _ .slnil)))))
              refine hK.out _ _ (HKT.out _ HQS) (fun hHeld6 => ?_)
              clear hK K HQS
              try simp only [Act.put, List.setIfInBounds_toArray, List.set_cons_zero, List.set_cons_succ]
              obtain ⟨t6, ht6⟩ : ∃ X, Hid (t5.alloc (MBox 0 0 none 0 0) = X) := ⟨_, rfl⟩
              obtain ⟨ia, hia⟩ : ∃ X, Hid (t5.heap.size = X) := ⟨_, rfl⟩
              rw [ht6.out, hia.out] at HQ6
              have hy1 : t5.alloc (.cells #[.int .i64 0, .int .i64 0, .slice none 0 0] 28) = t6 := ht6.out
              have hy2 := hia.out
              rw [hy1]
              rw [hy2]
              clear hy1 hy2
              refine wpAnyH_ready (rs := [10]) (by kernel_rfl) (by simp) ?_
              refine AllReadyH.cons (o := _) rfl (fun K hK => ?_) AllReadyH.nil
              obtain ⟨z0, z1, z2⟩ := mcells_of (HQ6.out.at 0 rfl : t6.heap[ia]? = some (MBox 0 0 none 0 0))
              have fz := frzM (HQ6.out.at 0 rfl : t6.heap[ia]? = some (MBox 0 0 none 0 0))
              have HQ7 : Hid (FrQ w (StoM t6 ia rx cx ta n ca) [(ia, MBox rx cx ta n ca), (ib, MBox 0 0 none 0 0), (p1, BBox ry cy sb m kb), (p0, BBox rx cx sa n ka)] [fun W => FlM W tv p cv vs, fun W => FlM W tu q cu us, fun W => FlM W tb m cb ys, fun W => FlM W ta n ca xs]) := HQ6.out.sto 0 rfl
              obtain ⟨U7, hU7⟩ : ∃ X, Hid ((StoM t6 ia rx cx ta n ca) = X) := ⟨_, rfl⟩
              rw [hU7.out] at HQ7
              have hU7' := hU7.out
              unfold StoM at hU7'
              go_simp
              go_wp2_with fail
              have HQS := hid (HQ7.out.sub (.cons _ (.cons _ (.cons_cons _ (.cons_cons _ .slnil)))) (.cons _ (.cons _ (.cons _ (.cons _ .slnil)))))
              refine hK.out _ _ (HKT.out _ HQS) (fun hHeld7 => ?_)
              clear hK K HQS
              try simp only [Act.put, List.setIfInBounds_toArray, List.set_cons_zero, List.set_cons_succ]
              clear z0 z1 z2 fz
              refine wpAnyH_ready (rs := [11]) (by kernel_rfl) (by simp) ?_
              refine AllReadyH.cons (o := _) rfl (fun K hK => ?_) AllReadyH.nil
              obtain ⟨z0, z1, z2⟩ := mcells_of (HQ7.out.at 1 rfl : U7.heap[ib]? = some (MBox 0 0 none 0 0))
              have fz := frzM (HQ7.out.at 1 rfl : U7.heap[ib]? = some (MBox 0 0 none 0 0))
              have HQ8 : Hid (FrQ w (StoM U7 ib ry cy tb m cb) [(ia, MBox rx cx ta n ca), (ib, MBox ry cy tb m cb), (p1, BBox ry cy sb m kb), (p0, BBox rx cx sa n ka)] [fun W => FlM W tv p cv vs, fun W => FlM W tu q cu us, fun W => FlM W tb m cb ys, fun W => FlM W ta n ca xs]) := HQ7.out.sto 1 rfl
              obtain ⟨U8, hU8⟩ : ∃ X, Hid ((StoM U7 ib ry cy tb m cb) = X) := ⟨_, rfl⟩
              rw [hU8.out] at HQ8
              have hU8' := hU8.out
              unfold StoM at hU8'
              go_simp
              go_wp2_with fail
              have HQS := hid (HQ8.out.sub (.cons _ (.cons _ (.cons_cons _ (.cons_cons _ .slnil)))) (.cons _ (.cons _ (.cons _ (.cons _ .slnil)))))
              refine hK.out _ _ (HKT.out _ HQS) (fun hHeld8 => ?_)
              clear hK K HQS
              try simp only [Act.put, List.setIfInBounds_toArray, List.set_cons_zero, List.set_cons_succ]
              clear z0 z1 z2 fz
              refine take_at 12 13 (.slice tu q cu) rfl rfl (by kernel_rfl) (by kernel_rfl) (by kernel_rfl) (fun _ _ _ h => h) (Or.inl ⟨by rfl, fun w hSw => by (try dsimp only at hSw); go_simp⟩) (by assumption) ?_
              simp only [Act.put, List.setIfInBounds_toArray, List.set_cons_zero, List.set_cons_succ]
              refine take_at 13 14 (.slice tv p cv) rfl rfl (by kernel_rfl) (by kernel_rfl) (by kernel_rfl) (fun _ _ _ h => h) (Or.inl ⟨by rfl, fun w hSw => by (try dsimp only at hSw); go_simp⟩) (by assumption) ?_
              simp only [Act.put, List.setIfInBounds_toArray, List.set_cons_zero, List.set_cons_succ]
              refine wpAnyH_done (by kernel_rfl) ?_ _
              have HQ8 : Hid (FrQ w U8 [(ib, MBox ry cy tb m cb), (ia, MBox rx cx ta n ca), (p1, BBox ry cy sb m kb), (p0, BBox rx cx sa n ka)] [fun W => FlM W tv p cv vs, fun W => FlM W tu q cu us, fun W => FlM W tb m cb ys, fun W => FlM W ta n ca xs]) := HQ8.out.swap
              exact HR.out _ _ ⟨ta, ca, tb, cb, tu, cu, tv, cv, ia, ib, rfl, HQ8.out⟩
          · have HQ4 := hid (HQ3.out.alloc (MBox 0 0 none 0 0))
            go_simp
            go_wp2_with fail
            have HQS := hid (HQ4.out.sub (.cons _ (.cons_cons _ (.cons_cons _ .slnil))) (.cons _ (.cons _ (.cons _ .slnil))))
            refine hK.out _ _ (HKT.out _ HQS) (fun hHeld4 => ?_)
            clear hK K HQS
            try simp only [Act.put, List.setIfInBounds_toArray, List.set_cons_zero, List.set_cons_succ]
            obtain ⟨t4, ht4⟩ : ∃ X, Hid (t3.alloc (MBox 0 0 none 0 0) = X) := ⟨_, rfl⟩
            obtain ⟨ia, hia⟩ : ∃ X, Hid (t3.heap.size = X) := ⟨_, rfl⟩
            rw [ht4.out, hia.out] at HQ4
            have hy1 : t3.alloc (.cells #[.int .i64 0, .int .i64 0, .slice none 0 0] 28) = t4 := ht4.out
            have hy2 := hia.out
            rw [hy1]
            rw [hy2]
            clear hy1 hy2
            refine wpAnyH_ready (rs := [7, 9]) (by kernel_rfl) (by simp) ?_
            refine AllReadyH.cons (o := _) rfl (fun K hK => ?_) (AllReadyH.cons (o := _) rfl (fun K hK => ?_) AllReadyH.nil)
            · go_simp
              refine (HLV.out _ HQ4.out.bel).mono ?_
              rintro e t5 ⟨⟨tv, cv, rfl, hf⟩, hbq⟩
              have HQ5 := hid (HQ4.out.call hbq)
              have HQ5 := hid (HQ5.out.add (g := fun W => FlM W tv p cv vs) (kept_fl _ _ _ _) hf)
              clear hbq
              go_wp2_with fail
              have HQS := hid (HQ5.out.sub (.cons _ (.cons_cons _ (.cons_cons _ .slnil))) (.cons _ (.cons _ (.cons _ (.cons _ .slnil)))))
              refine hK.out _ _ (HKT.out _ HQS) (fun hHeld5 => ?_)
              clear hK K HQS
              try simp only [Act.put, List.setIfInBounds_toArray, List.set_cons_zero, List.set_cons_succ]
              refine wpAnyH_ready (rs := [9]) (by kernel_rfl) (by simp) ?_
              refine AllReadyH.cons (o := _) rfl (fun K hK => ?_) AllReadyH.nil
              have HQ6 := hid (HQ5.out.alloc (MBox 0 0 none 0 0))
              go_simp
              go_wp2_with fail
              have HQS := hid (HQ6.out.sub (.cons _ (.cons _ (.cons_cons _ (.cons_cons _ .slnil)))) (.cons _ (.cons _ (.cons _ (.cons _ .slnil)))))
              refine hK.out _ _ (HKT.out _ HQS) (fun hHeld6 => ?_)
              clear hK K HQS
              try simp only [Act.put, List.setIfInBounds_toArray, List.set_cons_zero, List.set_cons_succ]
              obtain ⟨t6, ht6⟩ : ∃ X, Hid (t5.alloc (MBox 0 0 none 0 0) = X) := ⟨_, rfl⟩
              obtain ⟨ib, hib⟩ : ∃ X, Hid (t5.heap.size = X) := ⟨_, rfl⟩
              rw [ht6.out, hib.out] at HQ6
              have hy1 : t5.alloc (.cells #[.int .i64 0, .int .i64 0, .slice none 0 0] 28) = t6 := ht6.out
              have hy2 := hib.out
              rw [hy1]
              rw [hy2]
              clear hy1 hy2
              refine wpAnyH_ready (rs := [10]) (by kernel_rfl) (by simp) ?_
              refine AllReadyH.cons (o := _) rfl (fun K hK => ?_) AllReadyH.nil
              obtain ⟨z0, z1, z2⟩ := mcells_of (HQ6.out.at 1 rfl : t6.heap[ia]? = some (MBox 0 0 none 0 0))
              have fz := frzM (HQ6.out.at 1 rfl : t6.heap[ia]? = some (MBox 0 0 none 0 0))
              have HQ7 : Hid (FrQ w (StoM t6 ia rx cx ta n ca) [(ib, MBox 0 0 none 0 0), (ia, MBox rx cx ta n ca), (p1, BBox ry cy sb m kb), (p0, BBox rx cx sa n ka)] [fun W => FlM W tv p cv vs, fun W => FlM W tu q cu us, fun W => FlM W tb m cb ys, fun W => FlM W ta n ca xs]) := HQ6.out.sto 1 rfl
              obtain ⟨U7, hU7⟩ : ∃ X, Hid ((StoM t6 ia rx cx ta n ca) = X) := ⟨_, rfl⟩
              rw [hU7.out] at HQ7
              have hU7' := hU7.out
              unfold StoM at hU7'
              go_simp
              go_wp2_with fail
              have HQS := hid (HQ7.out.sub (.cons _ (.cons _ (.cons_cons _ (.cons_cons _ .slnil)))) (.cons _ (.cons _ (.cons _ (.cons _ .slnil)))))
              refine hK.out _ _ (HKT.out _ HQS) (fun hHeld7 => ?_)
              clear hK K HQS
              try simp only [Act.put, List.setIfInBounds_toArray, List.set_cons_zero, List.set_cons_succ]
              clear z0 z1 z2 fz
              refine wpAnyH_ready (rs := [11]) (by kernel_rfl) (by simp) ?_
              refine AllReadyH.cons (o := _) rfl (fun K hK => ?_) AllReadyH.nil
              obtain ⟨z0, z1, z2⟩ := mcells_of (HQ7.out.at 0 rfl : U7.heap[ib]? = some (MBox 0 0 none 0 0))
              have fz := frzM (HQ7.out.at 0 rfl : U7.heap[ib]? = some (MBox 0 0 none 0 0))
              have HQ8 : Hid (FrQ w (StoM U7 ib ry cy tb m cb) [(ib, MBox ry cy tb m cb), (ia, MBox rx cx ta n ca), (p1, BBox ry cy sb m kb), (p0, BBox rx cx sa n ka)] [fun W => FlM W tv p cv vs, fun W => FlM W tu q cu us, fun W => FlM W tb m cb ys, fun W => FlM W ta n ca xs]) := HQ7.out.sto 0 rfl
              obtain ⟨U8, hU8⟩ : ∃ X, Hid ((StoM U7 ib ry cy tb m cb) = X) := ⟨_, rfl⟩
              rw [hU8.out] at HQ8
              have hU8' := hU8.out
              unfold StoM at hU8'
              go_simp
              go_wp2_with fail
              have HQS := hid (HQ8.out.sub (.cons _ (.cons _ (.cons_cons _ (.cons_cons _ .slnil)))) (.cons _ (.cons _ (.cons _ (.cons _ .slnil)))))
              refine hK.out _ _ (HKT.out _ HQS) (fun hHeld8 => ?_)
              clear hK K HQS
              try simp only [Act.put, List.setIfInBounds_toArray, List.set_cons_zero, List.set_cons_succ]
              clear z0 z1 z2 fz
              refine take_at 12 13 (.slice tu q cu) rfl rfl (by kernel_rfl) (by kernel_rfl) (by kernel_rfl) (fun _ _ _ h => h) (Or.inl ⟨by rfl, fun w hSw => by (try dsimp only at hSw); go_simp⟩) (by assumption) ?_
              simp only [Act.put, List.setIfInBounds_toArray, List.set_cons_zero, List.set_cons_succ]
              refine take_at 13 14 (.slice tv p cv) rfl rfl (by kernel_rfl) (by kernel_rfl) (by kernel_rfl) (fun _ _ _ h => h) (Or.inl ⟨by rfl, fun w hSw => by (try dsimp only at hSw); go_simp⟩) (by assumption) ?_
              simp only [Act.put, List.setIfInBounds_toArray, List.set_cons_zero, List.set_cons_succ]
              refine wpAnyH_done (by kernel_rfl) ?_ _
              exact HR.out _ _ ⟨ta, ca, tb, cb, tu, cu, tv, cv, ia, ib, rfl, HQ8.out⟩
            · have HQ5 := hid (HQ4.out.alloc (MBox 0 0 none 0 0))
              go_simp
              go_wp2_with fail
              have HQS := hid (HQ5.out.sub (.cons _ (.cons _ (.cons_cons _ (.cons_cons _ .slnil)))) (.cons _ (.cons _ (.cons _ .slnil))))
              refine hK.out _ _ (HKT.out _ HQS) (fun hHeld5 => ?_)
              clear hK K HQS
              try simp only [Act.put, List.setIfInBounds_toArray, List.set_cons_zero, List.set_cons_succ]
              obtain ⟨t5, ht5⟩ : ∃ X, Hid (t4.alloc (MBox 0 0 none 0 0) = X) := ⟨_, rfl⟩
              obtain ⟨ib, hib⟩ : ∃ X, Hid (t4.heap.size = X) := ⟨_, rfl⟩
              rw [ht5.out, hib.out] at HQ5
              have hy1 : t4.alloc (.cells #[.int .i64 0, .int .i64 0, .slice none 0 0] 28) = t5 := ht5.out
              have hy2 := hib.out
              rw [hy1]
              rw [hy2]
              clear hy1 hy2
              refine wpAnyH_ready (rs := [7]) (by kernel_rfl) (by simp) ?_
              refine AllReadyH.cons (o := _) rfl (fun K hK => ?_) AllReadyH.nil
              go_simp
              refine (HLV.out _ HQ5.out.bel).mono ?_
              rintro e t6 ⟨⟨tv, cv, rfl, hf⟩, hbq⟩
              have HQ6 := hid (HQ5.out.call hbq)
              have HQ6 := hid (HQ6.out.add (g := fun W => FlM W tv p cv vs) (kept_fl _ _ _ _) hf)
              clear hbq
              go_wp2_with fail
              have HQS := hid (HQ6.out.sub (.cons _ (.cons _ (.cons_cons _ (.cons_cons _ .slnil)))) (.cons _ (.cons _ (.cons _ (.cons _ .slnil)))))
              refine hK.out _ _ (HKT.out _ HQS) (fun hHeld6 => ?_)
              clear hK K HQS
              try simp only [Act.put, List.setIfInBounds_toArray, List.set_cons_zero, List.set_cons_succ]
              refine wpAnyH_ready (rs := [10]) (by kernel_rfl) (by simp) ?_
              refine AllReadyH.cons (o := _) rfl (fun K hK => ?_) AllReadyH.nil
              obtain ⟨z0, z1, z2⟩ := mcells_of (HQ6.out.at 1 rfl : t6.heap[ia]? = some (MBox 0 0 none 0 0))
              have fz := frzM (HQ6.out.at 1 rfl : t6.heap[ia]? = some (MBox 0 0 none 0 0))
              have HQ7 : Hid (FrQ w (StoM t6 ia rx cx ta n ca) [(ib, MBox 0 0 none 0 0), (ia, MBox rx cx ta n ca), (p1, BBox ry cy sb m kb), (p0, BBox rx cx sa n ka)] [fun W => FlM W tv p cv vs, fun W => FlM W tu q cu us, fun W => FlM W tb m cb ys, fun W => FlM W ta n ca xs]) := HQ6.out.sto 1 rfl
              obtain ⟨U7, hU7⟩ : ∃ X, Hid ((StoM t6 ia rx cx ta n ca) = X) := ⟨_, rfl⟩
              rw [hU7.out] at HQ7
              have hU7' := hU7.out
              unfold StoM at hU7'
              go_simp
              go_wp2_with fail
              have HQS := hid (HQ7.out.sub (.cons _ (.cons _ (.cons_cons _ (.cons_cons _ .slnil)))) (.cons _ (.cons _ (.cons _ (.cons _ .slnil)))))
              refine hK.out _ _ (HKT.out _ HQS) (fun hHeld7 => ?_)
              clear hK K HQS
              try simp only [Act.put, List.setIfInBounds_toArray, List.set_cons_zero, List.set_cons_succ]
              clear z0 z1 z2 fz
              refine wpAnyH_ready (rs := [11]) (by kernel_rfl) (by simp) ?_
              refine AllReadyH.cons (o := _) rfl (fun K hK => ?_) AllReadyH.nil
              obtain ⟨z0, z1, z2⟩ := mcells_of (HQ7.out.at 0 rfl : U7.heap[ib]? = some (MBox 0 0 none 0 0))
              have fz := frzM (HQ7.out.at 0 rfl : U7.heap[ib]? = some (MBox 0 0 none 0 0))
              have HQ8 : Hid (FrQ w (StoM U7 ib ry cy tb m cb) [(ib, MBox ry cy tb m cb), (ia, MBox rx cx ta n ca), (p1, BBox ry cy sb m kb), (p0, BBox rx cx sa n ka)] [fun W => FlM W tv p cv vs, fun W => FlM W tu q cu us, fun W => FlM W tb m cb ys, fun W => FlM W ta n ca xs]) := HQ7.out.sto 0 rfl
              obtain ⟨U8, hU8⟩ : ∃ X, Hid ((StoM U7 ib ry cy tb m cb) = X) := ⟨_, rfl⟩
              rw [hU8.out] at HQ8
              have hU8' := hU8.out
              unfold StoM at hU8'
              go_simp
              go_wp2_with fail
              have HQS := hid (HQ8.out.sub (.cons _ (.cons _ (.cons_cons _ (.cons_cons _ .slnil)))) (.cons _ (.cons _ (.cons _ (.cons _ .slnil)))))
              refine hK.out _ _ (HKT.out _ HQS) (fun hHeld8 => ?_)
              clear hK K HQS
              try simp only [Act.put, List.setIfInBounds_toArray, List.set_cons_zero, List.set_cons_succ]
              clear z0 z1 z2 fz
              refine take_at 12 13 (.slice tu q cu) rfl rfl (by kernel_rfl) (by kernel_rfl) (by kernel_rfl) (fun _ _ _ h => h) (Or.inl ⟨by rfl, fun w hSw => by (try dsimp only at hSw); go_simp⟩) (by assumption) ?_
              simp only [Act.put, List.setIfInBounds_toArray, List.set_cons_zero, List.set_cons_succ]
              refine take_at 13 14 (.slice tv p cv) rfl rfl (by kernel_rfl) (by kernel_rfl) (by kernel_rfl) (fun _ _ _ h => h) (Or.inl ⟨by rfl, fun w hSw => by (try dsimp only at hSw); go_simp⟩) (by assumption) ?_
              simp only [Act.put, List.setIfInBounds_toArray, List.set_cons_zero, List.set_cons_succ]
              refine wpAnyH_done (by kernel_rfl) ?_ _
              exact HR.out _ _ ⟨ta, ca, tb, cb, tu, cu, tv, cv, ia, ib, rfl, HQ8.out⟩
          · have HQ4 := hid (HQ3.out.alloc (MBox 0 0 none 0 0))
            go_simp
            go_wp2_with fail
            have HQS := hid (HQ4.out.sub (.cons _ (.cons_cons _ (.cons_cons _ .slnil))) (.cons _ (.cons _ (.cons _ .slnil))))
            refine hK.out _ _ (HKT.out _ HQS) (fun hHeld4 => ?_)
            clear hK K HQS
            try simp only [Act.put, List.setIfInBounds_toArray, List.set_cons_zero, List.set_cons_succ]
            obtain ⟨t4, ht4⟩ : ∃ X, Hid (t3.alloc (MBox 0 0 none 0 0) = X) := ⟨_, rfl⟩
            obtain ⟨ib, hib⟩ : ∃ X, Hid (t3.heap.size = X) := ⟨_, rfl⟩
            rw [ht4.out, hib.out] at HQ4
            have hy1 : t3.alloc (.cells #[.int .i64 0, .int .i64 0, .slice none 0 0] 28) = t4 := ht4.out
            have hy2 := hib.out
            rw [hy1]
            rw [hy2]
            clear hy1 hy2
            refine wpAnyH_ready (rs := [7, 8]) (by kernel_rfl) (by simp) ?_
            refine AllReadyH.cons (o := _) rfl (fun K hK => ?_) (AllReadyH.cons (o := _) rfl (fun K hK => ?_) AllReadyH.nil)
            · go_simp
              refine (HLV.out _ HQ4.out.bel).mono ?_
              rintro e t5 ⟨⟨tv, cv, rfl, hf⟩, hbq⟩
              have HQ5 := hid (HQ4.out.call hbq)
              have HQ5 := hid (HQ5.out.add (g := fun W => FlM W tv p cv vs) (kept_fl _ _ _ _) hf)
              clear hbq
              go_wp2_with fail
              have HQS := hid (HQ5.out.sub (.cons _ (.cons_cons _ (.cons_cons _ .slnil))) (.cons _ (.cons _ (.cons _ (.cons _ .slnil)))))
              refine hK.out _ _ (HKT.out _ HQS) (fun hHeld5 => ?_)
              clear hK K HQS
              try simp only [Act.put, List.setIfInBounds_toArray, List.set_cons_zero, List.set_cons_succ]
              refine wpAnyH_ready (rs := [8]) (by kernel_rfl) (by simp) ?_
              refine AllReadyH.cons (o := _) rfl (fun K hK => ?_) AllReadyH.nil
              have HQ6 := hid (HQ5.out.alloc (MBox 0 0 none 0 0))
              go_simp
              go_wp2_with fail
              have HQS := hid (HQ6.out.sub (.cons _ (.cons _ (.cons_cons _ (.cons_cons _ .slnil)))) (.cons _ (.cons _ (.cons _ (.cons _ .slnil)))))
              refine hK.out _ _ (HKT.out _ HQS) (fun hHeld6 => ?_)
              clear hK K HQS
              try simp only [Act.put, List.setIfInBounds_toArray, List.set_cons_zero, List.set_cons_succ]
              obtain ⟨t6, ht6⟩ : ∃ X, Hid (t5.alloc (MBox 0 0 none 0 0) = X) := ⟨_, rfl⟩
              obtain ⟨ia, hia⟩ : ∃ X, Hid (t5.heap.size = X) := ⟨_, rfl⟩
              rw [ht6.out, hia.out] at HQ6
              have hy1 : t5.alloc (.cells #[.int .i64 0, .int .i64 0, .slice none 0 0] 28) = t6 := ht6.out
              have hy2 := hia.out
              rw [hy1]
              rw [hy2]
              clear hy1 hy2
              refine wpAnyH_ready (rs := [10]) (by kernel_rfl) (by simp) ?_
              refine AllReadyH.cons (o := _) rfl (fun K hK => ?_) AllReadyH.nil
              obtain ⟨z0, z1, z2⟩ := mcells_of (HQ6.out.at 0 rfl : t6.heap[ia]? = some (MBox 0 0 none 0 0))
              have fz := frzM (HQ6.out.at 0 rfl : t6.heap[ia]? = some (MBox 0 0 none 0 0))
              have HQ7 : Hid (FrQ w (StoM t6 ia rx cx ta n ca) [(ia, MBox rx cx ta n ca), (ib, MBox 0 0 none 0 0), (p1, BBox ry cy sb m kb), (p0, BBox rx cx sa n ka)] [fun W => FlM W tv p cv vs, fun W => FlM W tu q cu us, fun W => FlM W tb m cb ys, fun W => FlM W ta n ca xs]) := HQ6.out.sto 0 rfl
              obtain ⟨U7, hU7⟩ : ∃ X, Hid ((StoM t6 ia rx cx ta n ca) = X) := ⟨_, rfl⟩
              rw [hU7.out] at HQ7
              have hU7' := hU7.out
              unfold StoM at hU7'
              go_simp
              go_wp2_with fail
              have HQS := hid (HQ7.out.sub (.cons _ (.cons _ (.cons_cons _ (.cons_cons _ .slnil)))) (.cons _ (.cons _ (.cons _ (.cons _ .slnil)))))
              refine hK.out _ _ (HKT.out _ HQS) (fun hHeld7 => ?_)
              clear hK K HQS
              try simp only [Act.put, List.setIfInBounds_toArray, List.set_cons_zero, List.set_cons_succ]
              clear z0 z1 z2 fz
              refine wpAnyH_ready (rs := [11]) (by kernel_rfl) (by simp) ?_
              refine AllReadyH.cons (o := _) rfl (fun K hK => ?_) AllReadyH.nil
              obtain ⟨z0, z1, z2⟩ := mcells_of (HQ7.out.at 1 rfl : U7.heap[ib]? = some (MBox 0 0 none 0 0))
              have fz := frzM (HQ7.out.at 1 rfl : U7.heap[ib]? = some (MBox 0 0 none 0 0))
              have HQ8 : Hid (FrQ w (StoM U7 ib ry cy tb m cb) [(ia, MBox rx cx ta n ca), (ib, MBox ry cy tb m cb), (p1, BBox ry cy sb m kb), (p0, BBox rx cx sa n ka)] [fun W => FlM W tv p cv vs, fun W => FlM W tu q cu us, fun W => FlM W tb m cb ys, fun W => FlM W ta n ca xs]) := HQ7.out.sto 1 rfl
              obtain ⟨U8, hU8⟩ : ∃ X, Hid ((StoM U7 ib ry cy tb m cb) = X) := ⟨_, rfl⟩
              rw [hU8.out] at HQ8
              have hU8' := hU8.out
              unfold StoM at hU8'
              go_simp
              go_wp2_with fail
              have HQS := hid (HQ8.out.sub (.cons _ (.cons _ (.cons_cons _ (.cons_cons _ .slnil)))) (.cons _ (.cons _ (.cons _ (.cons _ .slnil)))))
              refine hK.out _ _ (HKT.out _ HQS) (fun hHeld8 => ?_)
              clear hK K HQS
              try simp only [Act.put, List.setIfInBounds_toArray, List.set_cons_zero, List.set_cons_succ]
              clear z0 z1 z2 fz
              refine take_at 12 13 (.slice tu q cu) rfl rfl (by kernel_rfl) (by kernel_rfl) (by kernel_rfl) (fun _ _ _ h => h) (Or.inl ⟨by rfl, fun w hSw => by (try dsimp only at hSw); go_simp⟩) (by assumption) ?_
              simp only [Act.put, List.setIfInBounds_toArray, List.set_cons_zero, List.set_cons_succ]
              refine take_at 13 14 (.slice tv p cv) rfl rfl (by kernel_rfl) (by kernel_rfl) (by kernel_rfl) (fun _ _ _ h => h) (Or.inl ⟨by rfl, fun w hSw => by (try dsimp only at hSw); go_simp⟩) (by assumption) ?_
              simp only [Act.put, List.setIfInBounds_toArray, List.set_cons_zero, List.set_cons_succ]
              refine wpAnyH_done (by kernel_rfl) ?_ _
              have HQ8 : Hid (FrQ w U8 [(ib, MBox ry cy tb m cb), (ia, MBox rx cx ta n ca), (p1, BBox ry cy sb m kb), (p0, BBox rx cx sa n ka)] [fun W => FlM W tv p cv vs, fun W => FlM W tu q cu us, fun W => FlM W tb m cb ys, fun W => FlM W ta n ca xs]) := HQ8.out.swap
              exact HR.out _ _ ⟨ta, ca, tb, cb, tu, cu, tv, cv, ia, ib, rfl, HQ8.out⟩
            · have HQ5 := hid (HQ4.out.alloc (MBox 0 0 none 0 0))
              go_simp
              go_wp2_with fail
              have HQS := hid (HQ5.out.sub (.cons _ (.cons _ (.cons_cons _ (.cons_cons _ .slnil)))) (.cons _ (.cons _ (.cons _ .slnil))))
              refine hK.out _ _ (HKT.out _ HQS) (fun hHeld5 => ?_)
              clear hK K HQS
              try simp only [Act.put, List.setIfInBounds_toArray, List.set_cons_zero, List.set_cons_succ]
              obtain ⟨t5, ht5⟩ : ∃ X, Hid (t4.alloc (MBox 0 0 none 0 0) = X) := ⟨_, rfl⟩
              obtain ⟨ia, hia⟩ : ∃ X, Hid (t4.heap.size = X) := ⟨_, rfl⟩
              rw [ht5.out, hia.out] at HQ5
              have hy1 : t4.alloc (.cells #[.int .i64 0, .int .i64 0, .slice none 0 0] 28) = t5 := ht5.out
              have hy2 := hia.out
              rw [hy1]
              rw [hy2]
              clear hy1 hy2
              refine wpAnyH_ready (rs := [7]) (by kernel_rfl) (by simp) ?_
              refine AllReadyH.cons (o := _) rfl (fun K hK => ?_) AllReadyH.nil
              go_simp
              refine (HLV.out _ HQ5.out.bel).mono ?_
              rintro e t6 ⟨⟨tv, cv, rfl, hf⟩, hbq⟩
              have HQ6 := hid (HQ5.out.call hbq)
              have HQ6 := hid (HQ6.out.add (g := fun W => FlM W tv p cv vs) (kept_fl _ _ _ _) hf)
              clear hbq
              go_wp2_with fail
              have HQS := hid (HQ6.out.sub (.cons _ (.cons _ (.cons_cons _ (.cons_cons _ .slnil)))) (.cons _ (.cons _ (.cons _ (.cons _ .slnil)))))
              refine hK.out _ _ (HKT.out _ HQS) (fun hHeld6 => ?_)
              clear hK K HQS
              try simp only [Act.put, List.setIfInBounds_toArray, List.set_cons_zero, List.set_cons_succ]
              refine wpAnyH_ready (rs := [10]) (by kernel_rfl) (by simp) ?_
              refine AllReadyH.cons (o := _) rfl (fun K hK => ?_) AllReadyH.nil
              obtain ⟨z0, z1, z2⟩ := mcells_of (HQ6.out.at 0 rfl : t6.heap[ia]? = some (MBox 0 0 none 0 0))
              have fz := frzM (HQ6.out.at 0 rfl : t6.heap[ia]? = some (MBox 0 0 none 0 0))
              have HQ7 : Hid (FrQ w (StoM t6 ia rx cx ta n ca) [(ia, MBox rx cx ta n ca), (ib, MBox 0 0 none 0 0), (p1, BBox ry cy sb m kb), (p0, BBox rx cx sa n ka)] [fun W => FlM W tv p cv vs, fun W => FlM W tu q cu us, fun W => FlM W tb m cb ys, fun W => FlM W ta n ca xs]) := HQ6.out.sto 0 rfl
              obtain ⟨U7, hU7⟩ : ∃ X, Hid ((StoM t6 ia rx cx ta n ca) = X) := ⟨_, rfl⟩
              rw [hU7.out] at HQ7
              have hU7' := hU7.out
              unfold StoM at hU7'
              go_simp
              go_wp2_with fail
              have HQS := hid (HQ7.out.sub (.cons _ (.cons _ (.cons_cons _ (.cons_cons _ .slnil)))) (.cons _ (.cons _ (.cons _ (.cons _ .slnil)))))
              refine hK.out _ _ (HKT.out _ HQS) (fun hHeld7 => ?_)
              clear hK K HQS
              try simp only [Act.put, List.setIfInBounds_toArray, List.set_cons_zero, List.set_cons_succ]
              clear z0 z1 z2 fz
              refine wpAnyH_ready (rs := [11]) (by kernel_rfl) (by simp) ?_
              refine AllReadyH.cons (o := _) rfl (fun K hK => ?_) AllReadyH.nil
              obtain ⟨z0, z1, z2⟩ := mcells_of (HQ7.out.at 1 rfl : U7.heap[ib]? = some (MBox 0 0 none 0 0))
              have fz := frzM (HQ7.out.at 1 rfl : U7.heap[ib]? = some (MBox 0 0 none 0 0))
              have HQ8 : Hid (FrQ w (StoM U7 ib ry cy tb m cb) [(ia, MBox rx cx ta n ca), (ib, MBox ry cy tb m cb), (p1, BBox ry cy sb m kb), (p0, BBox rx cx sa n ka)] [fun W => FlM W tv p cv vs, fun W => FlM W tu q cu us, fun W => FlM W tb m cb ys, fun W => FlM W ta n ca xs]) := HQ7.out.sto 1 rfl
              obtain ⟨U8, hU8⟩ : ∃ X, Hid ((StoM U7 ib ry cy tb m cb) = X) := ⟨_, rfl⟩
              rw [hU8.out] at HQ8
              have hU8' := hU8.out
              unfold StoM at hU8'
              go_simp
              go_wp2_with fail
              have HQS := hid (HQ8.out.sub (.cons _ (.cons _ (.cons_cons _ (.cons_cons _ .slnil)))) (.cons _ (.cons _ (.cons _ (.cons _ .slnil)))))
              refine hK.out _ _ (HKT.out _ HQS) (fun hHeld8 => ?_)
              clear hK K HQS
              try simp only [Act.put, List.setIfInBounds_toArray, List.set_cons_zero, List.set_cons_succ]
              clear z0 z1 z2 fz
              refine take_at 12 13 (.slice tu q cu) rfl rfl (by kernel_rfl) (by kernel_rfl) (by kernel_rfl) (fun _ _ _ h => h) (Or.inl ⟨by rfl, fun w hSw => by (try dsimp only at hSw); go_simp⟩) (by assumption) ?_
              simp only [Act.put, List.setIfInBounds_toArray, List.set_cons_zero, List.set_cons_succ]
              refine take_at 13 14 (.slice tv p cv) rfl rfl (by kernel_rfl) (by kernel_rfl) (by kernel_rfl) (fun _ _ _ h => h) (Or.inl ⟨by rfl, fun w hSw => by (try dsimp only at hSw); go_simp⟩) (by assumption) ?_
              simp only [Act.put, List.setIfInBounds_toArray, List.set_cons_zero, List.set_cons_succ]
              refine wpAnyH_done (by kernel_rfl) ?_ _
              have HQ8 : Hid (FrQ w U8 [(ib, MBox ry cy tb m cb), (ia, MBox rx cx ta n ca), (p1, BBox ry cy sb m kb), (p0, BBox rx cx sa n ka)] [fun W => FlM W tv p cv vs, fun W => FlM W tu q cu us, fun W => FlM W tb m cb ys, fun W => FlM W ta n ca xs]) := HQ8.out.swap
              exact HR.out _ _ ⟨ta, ca, tb, cb, tu, cu, tv, cv, ia, ib, rfl, HQ8.out⟩
        · have HQ3 := hid (HQ2.out.alloc (MBox 0 0 none 0 0))
          go_simp
          go_wp2_with fail
          have HQS := hid (HQ3.out.sub (.cons _ (.cons_cons _ (.cons_cons _ .slnil))) (.cons _ (.cons _ .slnil)))
          refine hK.out _ _ (HKT.out _ HQS) (fun hHeld3 => ?_)
          clear hK K HQS
          try simp only [Act.put, List.setIfInBounds_toArray, List.set_cons_zero, List.set_cons_succ]
          obtain ⟨t3, ht3⟩ : ∃ X, Hid (t2.alloc (MBox 0 0 none 0 0) = X) := ⟨_, rfl⟩
          obtain ⟨ia, hia⟩ : ∃ X, Hid (t2.heap.size = X) := ⟨_, rfl⟩
          rw [ht3.out, hia.out] at HQ3
          have hy1 : t2.alloc (.cells #[.int .i64 0, .int .i64 0, .slice none 0 0] 28) = t3 := ht3.out
          have hy2 := hia.out
          rw [hy1]
          rw [hy2]
          clear hy1 hy2
          refine wpAnyH_ready (rs := [5, 9]) (by kernel_rfl) (by simp) ?_
          refine AllReadyH.cons (o := _) rfl (fun K hK => ?_) (AllReadyH.cons (o := _) rfl (fun K hK => ?_) AllReadyH.nil)
          · go_simp
            refine (HLU.out _ HQ3.out.bel).mono ?_
            rintro e t4 ⟨⟨tu, cu, rfl, hf⟩, hbq⟩
            have HQ4 := hid (HQ3.out.call hbq)
            have HQ4 := hid (HQ4.out.add (g := fun W => FlM W tu q cu us) (kept_fl _ _ _ _) hf)
            clear hbq
            go_wp2_with fail
            have HQS := hid (HQ4.out.sub (.cons _ (.cons_cons _ (.cons_cons _ .slnil))) (.cons _ (.cons _ (.cons _ .slnil))))
            refine hK.out _ _ (HKT.out _ HQS) (fun hHeld4 => ?_)
            clear hK K HQS
            try simp only [Act.put, List.setIfInBounds_toArray, List.set_cons_zero, List.set_cons_succ]
            refine wpAnyH_ready (rs := [7, 9]) (by kernel_rfl) (by simp) ?_
            refine AllReadyH.cons (o := _) rfl (fun K hK => ?_) (AllReadyH.cons (o := _) rfl (fun K hK => ?_) AllReadyH.nil)
            · go_simp
              refine (HLV.out _ HQ4.out.bel).mono ?_
              rintro e t5 ⟨⟨tv, cv, rfl, hf⟩, hbq⟩
              have HQ5 := hid (HQ4.out.call hbq)
              have HQ5 := hid (HQ5.out.add (g := fun W => FlM W tv p cv vs) (kept_fl _ _ _ _) hf)
              clear hbq
              go_wp2_with fail
              have HQS := hid (HQ5.out.sub (.cons _ (.cons_cons _ (.cons_cons _ .slnil))) (.cons _ (.cons _ (.cons _ (.cons _ .slnil)))))
              refine hK.out _ _ (HKT.out _ HQS) (fun hHeld5 => ?_)
              clear hK K HQS
              try simp only [Act.put, List.setIfInBounds_toArray, List.set_cons_zero, List.set_cons_succ]
              refine wpAnyH_ready (rs := [9]) (by kernel_rfl) (by simp) ?_
              refine AllReadyH.cons (o := _) rfl (fun K hK => ?_) AllReadyH.nil
              have HQ6 := hid (HQ5.out.alloc (MBox 0 0 none 0 0))
              go_simp
              go_wp2_with fail
              have HQS := hid (HQ6.out.sub (.cons _ (.cons _ (.cons_cons _ (.cons_cons _ .slnil)))) (.cons _ (.cons _ (.cons _ (.cons _ .slnil)))))
              refine hK.out _ _ (HKT.out _ HQS) (fun hHeld6 => ?_)
              clear hK K HQS
              try simp only [Act.put, List.setIfInBounds_toArray, List.set_cons_zero, List.set_cons_succ]
              obtain ⟨t6, ht6⟩ : ∃ X, Hid (t5.alloc (MBox 0 0 none 0 0) = X) := ⟨_, rfl⟩
              obtain ⟨ib, hib⟩ : ∃ X, Hid (t5.heap.size = X) := ⟨_, rfl⟩
              rw [ht6.out, hib.out] at HQ6
              have hy1 : t5.alloc (.cells #[.int .i64 0, .int .i64 0, .slice none 0 0] 28) = t6 := ht6.out
              have hy2 := hib.out
              rw [hy1]
              rw [hy2]
              clear hy1 hy2
              refine wpAnyH_ready (rs := [10]) (by kernel_rfl) (by simp) ?_
              refine AllReadyH.cons (o := _) rfl (fun K hK => ?_) AllReadyH.nil
              obtain ⟨z0, z1, z2⟩ := mcells_of (HQ6.out.at 1 rfl : t6.heap[ia]? = some (MBox 0 0 none 0 0))
              have fz := frzM (HQ6.out.at 1 rfl : t6.heap[ia]? = some (MBox 0 0 none 0 0))
              have HQ7 : Hid (FrQ w (StoM t6 ia rx cx ta n ca) [(ib, MBox 0 0 none 0 0), (ia, MBox rx cx ta n ca), (p1, BBox ry cy sb m kb), (p0, BBox rx cx sa n ka)] [fun W => FlM W tv p cv vs, fun W => FlM W tu q cu us, fun W => FlM W tb m cb ys, fun W => FlM W ta n ca xs]) := HQ6.out.sto 1 rfl
              obtain ⟨U7, hU7⟩ : ∃ X, Hid ((StoM t6 ia rx cx ta n ca) = X) := ⟨_, rfl⟩
              rw [hU7.out] at HQ7
              have hU7' := hU7.out
              unfold StoM at hU7'
              go_simp
              go_wp2_with fail
              have HQS := hid (HQ7.out.sub (.cons _ (.cons _ (.cons_cons _ (.cons_cons _ .slnil)))) (.cons _ (.cons _ (.cons _ (.cons _ .slnil)))))
              refine hK.out _ _ (HKT.out _ HQS) (fun hHeld7 => ?_)
              clear hK K HQS
              try simp only [Act.put, List.setIfInBounds_toArray, List.set_cons_zero, List.set_cons_succ]
              clear z0 z1 z2 fz
              refine wpAnyH_ready (rs := [11]) (by kernel_rfl) (by simp) ?_
              refine AllReadyH.cons (o := _) rfl (fun K hK => ?_) AllReadyH.nil
              obtain ⟨z0, z1, z2⟩ := mcells_of (HQ7.out.at 0 rfl : U7.heap[ib]? = some (MBox 0 0 none 0 0))
              have fz := frzM (HQ7.out.at 0 rfl : U7.heap[ib]? = some (MBox 0 0 none 0 0))
              have HQ8 : Hid (FrQ w (StoM U7 ib ry cy tb m cb) [(ib, MBox ry cy tb m cb), (ia, MBox rx cx ta n ca), (p1, BBox ry cy sb m kb), (p0, BBox rx cx sa n ka)] [fun W => FlM W tv p cv vs, fun W => FlM W tu q cu us, fun W => FlM W tb m cb ys, fun W => FlM W ta n ca xs]) := HQ7.out.sto 0 rfl
              obtain ⟨U8, hU8⟩ : ∃ X, Hid ((StoM U7 ib ry cy tb m cb) = X) := ⟨_, rfl⟩
              rw [hU8.out] at HQ8
              have hU8' := hU8.out
              unfold StoM at hU8'
              go_simp
              go_wp2_with fail
              have HQS := hid (HQ8.out.sub (.cons _ (.cons _ (.cons_cons _ (.cons_cons _ .slnil)))) (.cons _ (.cons _ (.cons _ (.cons _ .slnil)))))
              refine hK.out _ _ (HKT.out _ HQS) (fun hHeld8 => ?_)
              clear hK K HQS
              try simp only [Act.put, List.setIfInBounds_toArray, List.set_cons_zero, List.set_cons_succ]
              clear z0 z1 z2 fz
              refine take_at 12 13 (.slice tu q cu) rfl rfl (by kernel_rfl) (by kernel_rfl) (by kernel_rfl) (fun _ _ _ h => h) (Or.inl ⟨by rfl, fun w hSw => by (try dsimp only at hSw); go_simp⟩) (by assumption) ?_
              simp only [Act.put, List.setIfInBounds_toArray, List.set_cons_zero, List.set_cons_succ]
              refine take_at 13 14 (.slice tv p cv) rfl rfl (by kernel_rfl) (by kernel_rfl) (by kernel_rfl) (fun _ _ _ h => h) (Or.inl ⟨by rfl, fun w hSw => by (try dsimp only at hSw); go_simp⟩) (by assumption) ?_
              simp only [Act.put, List.setIfInBounds_toArray, List.set_cons_zero, List.set_cons_succ]
              refine wpAnyH_done (by kernel_rfl) ?_ _
              exact HR.out _ _ ⟨ta, ca, tb, cb, tu, cu, tv, cv, ia, ib, rfl, HQ8.out⟩
            · have HQ5 := hid (HQ4.out.alloc (MBox 0 0 none 0 0))
              go_simp
              go_wp2_with fail
              have HQS := hid (HQ5.out.sub (.cons _ (.cons _ (.cons_cons _ (.cons_cons _ .slnil)))) (.cons _ (.cons _ (.cons _ .slnil))))
              refine hK.out _ _ (HKT.out _ HQS) (fun hHeld5 => ?_)
              clear hK K HQS
              try simp only [Act.put, List.setIfInBounds_toArray, List.set_cons_zero, List.set_cons_succ]
              obtain ⟨t5, ht5⟩ : ∃ X, Hid (t4.alloc (MBox 0 0 none 0 0) = X) := ⟨_, rfl⟩
              obtain ⟨ib, hib⟩ : ∃ X, Hid (t4.heap.size = X) := ⟨_, rfl⟩
              rw [ht5.out, hib.out] at HQ5
              have hy1 : t4.alloc (.cells #[.int .i64 0, .int .i64 0, .slice none 0 0] 28) = t5 := ht5.out
              have hy2 := hib.out
              rw [hy1]
              rw [hy2]
              clear hy1 hy2
              refine wpAnyH_ready (rs := [7]) (by kernel_rfl) (by simp) ?_
              refine AllReadyH.cons (o := _) rfl (fun K hK => ?_) AllReadyH.nil
              go_simp
              refine (HLV.out _ HQ5.out.bel).mono ?_
              rintro e t6 ⟨⟨tv, cv, rfl, hf⟩, hbq⟩
              have HQ6 := hid (HQ5.out.call hbq)
              have HQ6 := hid (HQ6.out.add (g := fun W => FlM W tv p cv vs) (kept_fl _ _ _ _) hf)
              clear hbq
              go_wp2_with fail
              have HQS := hid (HQ6.out.sub (.cons _ (.cons _ (.cons_cons _ (.cons_cons _ .slnil)))) (.cons _ (.cons _ (.cons _ (.cons _ .slnil)))))
              refine hK.out _ _ (HKT.out _ HQS) (fun hHeld6 => ?_)
              clear hK K HQS
              try simp only [Act.put, List.setIfInBounds_toArray, List.set_cons_zero, List.set_cons_succ]
              refine wpAnyH_ready (rs := [10]) (by kernel_rfl) (by simp) ?_
              refine AllReadyH.cons (o := _) rfl (fun K hK => ?_) AllReadyH.nil
              obtain ⟨z0, z1, z2⟩ := mcells_of (HQ6.out.at 1 rfl : t6.heap[ia]? = some (MBox 0 0 none 0 0))
              have fz := frzM (HQ6.out.at 1 rfl : t6.heap[ia]? = some (MBox 0 0 none 0 0))
              have HQ7 : Hid (FrQ w (StoM t6 ia rx cx ta n ca) [(ib, MBox 0 0 none 0 0), (ia, MBox rx cx ta n ca), (p1, BBox ry cy sb m kb), (p0, BBox rx cx sa n ka)] [fun W => FlM W tv p cv vs, fun W => FlM W tu q cu us, fun W => FlM W tb m cb ys, fun W => FlM W ta n ca xs]) := HQ6.out.sto 1 rfl
              obtain ⟨U7, hU7⟩ : ∃ X, Hid ((StoM t6 ia rx cx ta n ca) = X) := ⟨_, rfl⟩
              rw [hU7.out] at HQ7
              have hU7' := hU7.out
              unfold StoM at hU7'
              go_simp
              go_wp2_with fail
              have HQS := hid (HQ7.out.sub (.cons _ (.cons _ (.cons_cons _ (.cons_cons _ .slnil)))) (.cons _ (.cons _ (.cons _ (.cons _ .slnil)))))
              refine hK.out _ _ (HKT.out _ HQS) (fun hHeld7 => ?_)
              clear hK K HQS
              try simp only [Act.put, List.setIfInBounds_toArray, List.set_cons_zero, List.set_cons_succ]
              clear z0 z1 z2 fz
              refine wpAnyH_ready (rs := [11]) (by kernel_rfl) (by simp) ?_
              refine AllReadyH.cons (o := _) rfl (fun K hK => ?_) AllReadyH.nil
              obtain ⟨z0, z1, z2⟩ := mcells_of (HQ7.out.at 0 rfl : U7.heap[ib]? = some (MBox 0 0 none 0 0))
              have fz := frzM (HQ7.out.at 0 rfl : U7.heap[ib]? = some (MBox 0 0 none 0 0))
              have HQ8 : Hid (FrQ w (StoM U7 ib ry cy tb m cb) [(ib, MBox ry cy tb m cb), (ia, MBox rx cx ta n ca), (p1, BBox ry cy sb m kb), (p0, BBox rx cx sa n ka)] [fun W => FlM W tv p cv vs, fun W => FlM W tu q cu us, fun W => FlM W tb m cb ys, fun W => FlM W ta n ca xs]) := HQ7.out.sto 0 rfl
              obtain ⟨U8, hU8⟩ : ∃ X, Hid ((StoM U7 ib ry cy tb m cb) = X) := ⟨_, rfl⟩
              rw [hU8.out] at HQ8
              have hU8' := hU8.out
              unfold StoM at hU8'
              go_simp
              go_wp2_with fail
              have HQS := hid (HQ8.out.sub (.cons _ (.cons _ (.cons_cons _ (.cons_cons _ .slnil)))) (.cons _ (.cons _ (.cons _ (.cons _ .slnil)))))
              refine hK.out _ _ (HKT.out _ HQS) (fun hHeld8 => ?_)
              clear hK K HQS
              try simp only [Act.put, List.setIfInBounds_toArray, List.set_cons_zero, List.set_cons_succ]
              clear z0 z1 z2 fz
              refine take_at 12 13 (.slice tu q cu) rfl rfl (by kernel_rfl) (by kernel_rfl) (by kernel_rfl) (fun _ _ _ h => h) (Or.inl ⟨by rfl, fun w hSw => by (try dsimp only at hSw); go_simp⟩) (by assumption) ?_
              simp only [Act.put, List.setIfInBounds_toArray, List.set_cons_zero, List.set_cons_succ]
              refine take_at 13 14 (.slice tv p cv) rfl rfl (by kernel_rfl) (by kernel_rfl) (by kernel_rfl) (fun _ _ _ h => h) (Or.inl ⟨by rfl, fun w hSw => by (try dsimp only at hSw); go_simp⟩) (by assumption) ?_
              simp only [Act.put, List.setIfInBounds_toArray, List.set_cons_zero, List.set_cons_succ]
              refine wpAnyH_done (by kernel_rfl) ?_ _
              exact HR.out _ _ ⟨ta, ca, tb, cb, tu, cu, tv, cv, ia, ib, rfl, HQ8.out⟩
          · have HQ4 := hid (HQ3.out.alloc (MBox 0 0 none 0 0))
            go_simp
            go_wp2_with fail
            have HQS := hid (HQ4.out.sub (.cons _ (.cons _ (.cons_cons _ (.cons_cons _ .slnil)))) (.cons _ (.cons _ .slnil)))
            refine hK.out _ _ (HKT.out _ HQS) (fun hHeld4 => ?_)
            clear hK K HQS
            try simp only [Act.put, List.setIfInBounds_toArray, List.set_cons_zero, List.set_cons_succ]
            obtain ⟨t4, ht4⟩ : ∃ X, Hid (t3.alloc (MBox 0 0 none 0 0) = X) := ⟨_, rfl⟩
            obtain ⟨ib, hib⟩ : ∃ X, Hid (t3.heap.size = X) := ⟨_, rfl⟩
            rw [ht4.out, hib.out] at HQ4
            have hy1 : t3.alloc (.cells #[.int .i64 0, .int .i64 0, .slice none 0 0] 28) = t4 := ht4.out
            have hy2 := hib.out
            rw [hy1]
            rw [hy2]
            clear hy1 hy2
            refine wpAnyH_ready (rs := [5]) (by kernel_rfl) (by simp) ?_
            refine AllReadyH.cons (o := _) rfl (fun K hK => ?_) AllReadyH.nil
            go_simp
            refine (HLU.out _ HQ4.out.bel).mono ?_
            rintro e t5 ⟨⟨tu, cu, rfl, hf⟩, hbq⟩
            have HQ5 := hid (HQ4.out.call hbq)
            have HQ5 := hid (HQ5.out.add (g := fun W => FlM W tu q cu us) (kept_fl _ _ _ _) hf)
            clear hbq
            go_wp2_with fail
            have HQS := hid (HQ5.out.sub (.cons _ (.cons _ (.cons_cons _ (.cons_cons _ .slnil)))) (.cons _ (.cons _ (.cons _ .slnil))))
            refine hK.out _ _ (HKT.out _ HQS) (fun hHeld5 => ?_)
            clear hK K HQS
            try simp only [Act.put, List.setIfInBounds_toArray, List.set_cons_zero, List.set_cons_succ]
            refine wpAnyH_ready (rs := [7]) (by kernel_rfl) (by simp) ?_
            refine AllReadyH.cons (o := _) rfl (fun K hK => ?_) AllReadyH.nil
            go_simp
            refine (HLV.out _ HQ5.out.bel).mono ?_
            rintro e t6 ⟨⟨tv, cv, rfl, hf⟩, hbq⟩
            have HQ6 := hid (HQ5.out.call hbq)
            have HQ6 := hid (HQ6.out.add (g := fun W => FlM W tv p cv vs) (kept_fl _ _ _ _) hf)
            clear hbq
            go_wp2_with fail
            have HQS := hid (HQ6.out.sub (.cons _ (.cons _ (.cons_cons _ (.cons_cons _ .slnil)))) (.cons _ (.cons _ (.cons _ (.cons _ .slnil)))))
            refine hK.out _ _ (HKT.out _ HQS) (fun hHeld6 => ?_)
            clear hK K HQS
            try simp only [Act.put, List.setIfInBounds_toArray, List.set_cons_zero, List.set_cons_succ]
            refine wpAnyH_ready (rs := [10]) (by kernel_rfl) (by simp) ?_
            refine AllReadyH.cons (o := _) rfl (fun K hK => ?_) AllReadyH.nil
            obtain ⟨z0, z1, z2⟩ := mcells_of (HQ6.out.at 1 rfl : t6.heap[ia]? = some (MBox 0 0 none 0 0))
            have fz := frzM (HQ6.out.at 1 rfl : t6.heap[ia]? = some (MBox 0 0 none 0 0))
            have HQ7 : Hid (FrQ w (StoM t6 ia rx cx ta n ca) [(ib, MBox 0 0 none 0 0), (ia, MBox rx cx ta n ca), (p1, BBox ry cy sb m kb), (p0, BBox rx cx sa n ka)] [fun W => FlM W tv p cv vs, fun W => FlM W tu q cu us, fun W => FlM W tb m cb ys, fun W => FlM W ta n ca xs]) := HQ6.out.sto 1 rfl
            obtain ⟨U7, hU7⟩ : ∃ X, Hid ((StoM t6 ia rx cx ta n ca) = X) := ⟨_, rfl⟩
            rw [hU7.out] at HQ7
            have hU7' := hU7.out
            unfold StoM at hU7'
            go_simp
            go_wp2_with fail
            have HQS := hid (HQ7.out.sub (.cons _ (.cons _ (.cons_cons _ (.cons_cons _ .slnil)))) (.cons _ (.cons _ (.cons _ (.cons _ .slnil)))))
            refine hK.out _ _ (HKT.out _ HQS) (fun hHeld7 => ?_)
            clear hK K HQS
            try simp only [Act.put, List.setIfInBounds_toArray, List.set_cons_zero, List.set_cons_succ]
            clear z0 z1 z2 fz
            refine wpAnyH_ready (rs := [11]) (by kernel_rfl) (by simp) ?_
            refine AllReadyH.cons (o := _) rfl (fun K hK => ?_) AllReadyH.nil
            obtain ⟨z0, z1, z2⟩ := mcells_of (HQ7.out.at 0 rfl : U7.heap[ib]? = some (MBox 0 0 none 0 0))
            have fz := frzM (HQ7.out.at 0 rfl : U7.heap[ib]? = some (MBox 0 0 none 0 0))
            have HQ8 : Hid (FrQ w (StoM U7 ib ry cy tb m cb) [(ib, MBox ry cy tb m cb), (ia, MBox rx cx ta n ca), (p1, BBox ry cy sb m kb), (p0, BBox rx cx sa n ka)] [fun W => FlM W tv p cv vs, fun W => FlM W tu q cu us, fun W => FlM W tb m cb ys, fun W => FlM W ta n ca xs]) := HQ7.out.sto 0 rfl
            obtain ⟨U8, hU8⟩ : ∃ X, Hid ((StoM U7 ib ry cy tb m cb) = X) := ⟨_, rfl⟩
            rw [hU8.out] at HQ8
            have hU8' := hU8.out
            unfold StoM at hU8'
            go_simp
            go_wp2_with fail
            have HQS := hid (HQ8.out.sub (.cons _ (.cons _ (.cons_cons _ (.cons_cons _ .slnil)))) (.cons _ (.cons _ (.cons _ (.cons _ .slnil)))))
            refine hK.out _ _ (HKT.out _ HQS) (fun hHeld8 => ?_)
            clear hK K HQS
            try simp only [Act.put, List.setIfInBounds_toArray, List.set_cons_zero, List.set_cons_succ]
            clear z0 z1 z2 fz
            refine take_at 12 13 (.slice tu q cu) rfl rfl (by kernel_rfl) (by kernel_rfl) (by kernel_rfl) (fun _ _ _ h => h) (Or.inl ⟨by rfl, fun w hSw => by (try dsimp only at hSw); go_simp⟩) (by assumption) ?_
            simp only [Act.put, List.setIfInBounds_toArray, List.set_cons_zero, List.set_cons_succ]
            refine take_at 13 14 (.slice tv p cv) rfl rfl (by kernel_rfl) (by kernel_rfl) (by kernel_rfl) (fun _ _ _ h => h) (Or.inl ⟨by rfl, fun w hSw => by (try dsimp only at hSw); go_simp⟩) (by assumption) ?_
            simp only [Act.put, List.setIfInBounds_toArray, List.set_cons_zero, List.set_cons_succ]
            refine wpAnyH_done (by kernel_rfl) ?_ _
            exact HR.out _ _ ⟨ta, ca, tb, cb, tu, cu, tv, cv, ia, ib, rfl, HQ8.out⟩
        · have HQ3 := hid (HQ2.out.alloc (MBox 0 0 none 0 0))
          go_simp
          go_wp2_with fail
          have HQS := hid (HQ3.out.sub (.cons _ (.cons_cons _ (.cons_cons _ .slnil))) (.cons _ (.cons _ .slnil)))
          refine hK.out _ _ (HKT.out _ HQS) (fun hHeld3 => ?_)
          clear hK K HQS
          try simp only [Act.put, List.setIfInBounds_toArray, List.set_cons_zero, List.set_cons_succ]
          obtain ⟨t3, ht3⟩ : ∃ X, Hid (t2.alloc (MBox 0 0 none 0 0) = X) := ⟨_, rfl⟩
          obtain ⟨ib, hib⟩ : ∃ X, Hid (t2.heap.size = X) := ⟨_, rfl⟩
          rw [ht3.out, hib.out] at HQ3
          have hy1 : t2.alloc (.cells #[.int .i64 0, .int .i64 0, .slice none 0 0] 28) = t3 := ht3.out
          have hy2 := hib.out
          rw [hy1]
          rw [hy2]
          clear hy1 hy2
          refine wpAnyH_ready (rs := [5, 8]) (by kernel_rfl) (by simp) ?_
          refine AllReadyH.cons (o := _) rfl (fun K hK => ?_) (AllReadyH.cons (o := _) rfl (fun K hK => ?_) AllReadyH.nil)
          · go_simp
            refine (HLU.out _ HQ3.out.bel).mono ?_
            rintro e t4 ⟨⟨tu, cu, rfl, hf⟩, hbq⟩
            have HQ4 := hid (HQ3.out.call hbq)
            have HQ4 := hid (HQ4.out.add (g := fun W => FlM W tu q cu us) (kept_fl _ _ _ _) hf)
            clear hbq
            go_wp2_with fail
            have HQS := hid (HQ4.out.sub (.cons _ (.cons_cons _ (.cons_cons _ .slnil))) (.cons _ (.cons _ (.cons _ .slnil))))
            refine hK.out _ _ (HKT.out _ HQS) (fun hHeld4 => ?_)
            clear hK K HQS
            try simp only [Act.put, List.setIfInBounds_toArray, List.set_cons_zero, List.set_cons_succ]
            refine wpAnyH_ready (rs := [7, 8]) (by kernel_rfl) (by simp) ?_
            refine AllReadyH.cons (o := _) rfl (fun K hK => ?_) (AllReadyH.cons (o := _) rfl (fun K hK => ?_) AllReadyH.nil)
            · go_simp
              refine (HLV.out _ HQ4.out.bel).mono ?_
              rintro e t5 ⟨⟨tv, cv, rfl, hf⟩, hbq⟩
              have HQ5 := hid (HQ4.out.call hbq)
              have HQ5 := hid (HQ5.out.add (g := fun W => FlM W tv p cv vs) (kept_fl _ _ _ _) hf)
              clear hbq
              go_wp2_with fail
              have HQS := hid (HQ5.out.sub (.cons _ (.cons_cons _ (.cons_cons _ .slnil))) (.cons _ (.cons _ (.cons _ (.cons _ .slnil)))))
              refine hK.out _ _ (HKT.out _ HQS) (fun hHeld5 => ?_)
              clear hK K HQS
              try simp only [Act.put, List.setIfInBounds_toArray, List.set_cons_zero, List.set_cons_succ]
              refine wpAnyH_ready (rs := [8]) (by kernel_rfl) (by simp) ?_
              refine AllReadyH.cons (o := _) rfl (fun K hK => ?_) AllReadyH.nil
              have HQ6 := hid (HQ5.out.alloc (MBox 0 0 none 0 0))
              go_simp
              go_wp2_with fail
              have HQS := hid (HQ6.out.sub (.cons _ (.cons _ (.cons_cons _ (.cons_cons _ .slnil)))) (.cons _ (.cons _ (.cons _ (.cons _ .slnil)))))
              refine hK.out _ _ (HKT.out _ HQS) (fun hHeld6 => ?_)
              clear hK K HQS
              try simp only [Act.put, List.setIfInBounds_toArray, List.set_cons_zero, List.set_cons_succ]
              obtain ⟨t6, ht6⟩ : ∃ X, Hid (t5.alloc (MBox 0 0 none 0 0) = X) := ⟨_, rfl⟩
              obtain ⟨ia, hia⟩ : ∃ X, Hid (t5.heap.size = X) := ⟨_, rfl⟩
              rw [ht6.out, hia.out] at HQ6
              have hy1 : t5.alloc (.cells #[.int .i64 0, .int .i64 0, .slice none 0 0] 28) = t6 := ht6.out
              have hy2 := hia.out
              rw [hy1]
              rw [hy2]
              clear hy1 hy2
              refine wpAnyH_ready (rs := [10]) (by kernel_rfl) (by simp) ?_
              refine AllReadyH.cons (o := _) rfl (fun K hK => ?_) AllReadyH.nil
              obtain ⟨z0, z1, z2⟩ := mcells_of (HQ6.out.at 0 rfl : t6.heap[ia]? = some (MBox 0 0 none 0 0))
              have fz := frzM (HQ6.out.at 0 rfl : t6.heap[ia]? = some (MBox 0 0 none 0 0))
              have HQ7 : Hid (FrQ w (StoM t6 ia rx cx ta n ca) [(ia, MBox rx cx ta n ca), (ib, MBox 0 0 none 0 0), (p1, BBox ry cy sb m kb), (p0, BBox rx cx sa n ka)] [fun W => FlM W tv p cv vs, fun W => FlM W tu q cu us, fun W => FlM W tb m cb ys, fun W => FlM W ta n ca xs]) := HQ6.out.sto 0 rfl
              obtain ⟨U7, hU7⟩ : ∃ X, Hid ((StoM t6 ia rx cx ta n ca) = X) := ⟨_, rfl⟩
              rw [hU7.out] at HQ7
              have hU7' := hU7.out
              unfold StoM at hU7'
              go_simp
              go_wp2_with fail
              have HQS := hid (HQ7.out.sub (.cons _ (.cons _ (.cons_cons _ (.cons_cons _ .slnil)))) (.cons _ (.cons _ (.cons _ (.cons _ .slnil)))))
              refine hK.out _ _ (HKT.out _ HQS) (fun hHeld7 => ?_)
              clear hK K HQS
              try simp only [Act.put, List.setIfInBounds_toArray, List.set_cons_zero, List.set_cons_succ]
              clear z0 z1 z2 fz
              refine wpAnyH_ready (rs := [11]) (by kernel_rfl) (by simp) ?_
              refine AllReadyH.cons (o := _) rfl (fun K hK => ?_) AllReadyH.nil
              obtain ⟨z0, z1, z2⟩ := mcells_of (HQ7.out.at 1 rfl : U7.heap[ib]? = some (MBox 0 0 none 0 0))
              have fz := frzM (HQ7.out.at 1 rfl : U7.heap[ib]? = some (MBox 0 0 none 0 0))
              have HQ8 : Hid (FrQ w (StoM U7 ib ry cy tb m cb) [(ia, MBox rx cx ta n ca), (ib, MBox ry cy tb m cb), (p1, BBox ry cy sb m kb), (p0, BBox rx cx sa n ka)] [fun W => FlM W tv p cv vs, fun W => FlM W tu q cu us, fun W => FlM W tb m cb ys, fun W => FlM W ta n ca xs]) := HQ7.out.sto 1 rfl
              obtain ⟨U8, hU8⟩ : ∃ X, Hid ((StoM U7 ib ry cy tb m cb) = X) := ⟨_, rfl⟩
              rw [hU8.out] at HQ8
              have hU8' := hU8.out
              unfold StoM at hU8'
              go_simp
              go_wp2_with fail
              have HQS := hid (HQ8.out.sub (.cons _ (.cons _ (.cons_cons _ (.cons_cons _ .slnil)))) (.cons _ (.cons _ (.cons _ (.cons _ .slnil)))))
              refine hK.out _ _ (HKT.out _ HQS) (fun hHeld8 => ?_)
              clear hK K HQS
              try simp only [Act.put, List.setIfInBounds_toArray, List.set_cons_zero, List.set_cons_succ]
              clear z0 z1 z2 fz
              refine take_at 12 13 (.slice tu q cu) rfl rfl (by kernel_rfl) (by kernel_rfl) (by kernel_rfl) (fun _ _ _ h => h) (Or.inl ⟨by rfl, fun w hSw => by (try dsimp only at hSw); go_simp⟩) (by assumption) ?_
              simp only [Act.put, List.setIfInBounds_toArray, List.set_cons_zero, List.set_cons_succ]
              refine take_at 13 14 (.slice tv p cv) rfl rfl (by kernel_rfl) (by kernel_rfl) (by kernel_rfl) (fun _ _ _ h => h) (Or.inl ⟨by rfl, fun w hSw => by (try dsimp only at hSw); go_simp⟩) (by assumption) ?_
              simp only [Act.put, List.setIfInBounds_toArray, List.set_cons_zero, List.set_cons_succ]
              refine wpAnyH_done (by kernel_rfl) ?_ _
              have HQ8 : Hid (FrQ w U8 [(ib, MBox ry cy tb m cb), (ia, MBox rx cx ta n ca), (p1, BBox ry cy sb m kb), (p0, BBox rx cx sa n ka)] [fun W => FlM W tv p cv vs, fun W => FlM W tu q cu us, fun W => FlM W tb m cb ys, fun W => FlM W ta n ca xs]) := HQ8.out.swap
              exact HR.out _ _ ⟨ta, ca, tb, cb, tu, cu, tv, cv, ia, ib, rfl, HQ8.out⟩
            · have HQ5 := hid (HQ4.out.alloc (MBox 0 0 none 0 0))
              go_simp
              go_wp2_with fail
              have HQS := hid (HQ5.out.sub (.cons _ (.cons _ (.cons_cons _ (.cons_cons _ .slnil)))) (.cons _ (.cons _ (.cons _ .slnil))))
              refine hK.out _ _ (HKT.out _ HQS) (fun hHeld5 => ?_)
              clear hK K HQS
              try simp only [Act.put, List.setIfInBounds_toArray, List.set_cons_zero, List.set_cons_succ]
              obtain ⟨t5, ht5⟩ : ∃ X, Hid (t4.alloc (MBox 0 0 none 0 0) = X) := ⟨_, rfl⟩
              obtain ⟨ia, hia⟩ : ∃ X, Hid (t4.heap.size = X) := ⟨_, rfl⟩
              rw [ht5.out, hia.out] at HQ5
              have hy1 : t4.alloc (.cells #[.int .i64 0, .int .i64 0, .slice none 0 0] 28) = t5 := ht5.out
              have hy2 := hia.out
              rw [hy1]
              rw [hy2]
              clear hy1 hy2
              refine wpAnyH_ready (rs := [7]) (by kernel_rfl) (by simp) ?_
              refine AllReadyH.cons (o := _) rfl (fun K hK => ?_) AllReadyH.nil
              go_simp
              refine (HLV.out _ HQ5.out.bel).mono ?_
              rintro e t6 ⟨⟨tv, cv, rfl, hf⟩, hbq⟩
              have HQ6 := hid (HQ5.out.call hbq)
              have HQ6 := hid (HQ6.out.add (g := fun W => FlM W tv p cv vs) (kept_fl _ _ _ _) hf)
              clear hbq
              go_wp2_with fail
              have HQS := hid (HQ6.out.sub (.cons _ (.cons _ (.cons_cons _ (.cons_cons _ .slnil)))) (.cons _ (.cons _ (.cons _ (.cons _ .slnil)))))
              refine hK.out _ _ (HKT.out _ HQS) (fun hHeld6 => ?_)
              clear hK K HQS
              try simp only [Act.put, List.setIfInBounds_toArray, List.set_cons_zero, List.set_cons_succ]
              refine wpAnyH_ready (rs := [10]) (by kernel_rfl) (by simp) ?_
              refine AllReadyH.cons (o := _) rfl (fun K hK => ?_) AllReadyH.nil
              obtain ⟨z0, z1, z2⟩ := mcells_of (HQ6.out.at 0 rfl : t6.heap[ia]? = some (MBox 0 0 none 0 0))
              have fz := frzM (HQ6.out.at 0 rfl : t6.heap[ia]? = some (MBox 0 0 none 0 0))
              have HQ7 : Hid (FrQ w (StoM t6 ia rx cx ta n ca) [(ia, MBox rx cx ta n ca), (ib, MBox 0 0 none 0 0), (p1, BBox ry cy sb m kb), (p0, BBox rx cx sa n ka)] [fun W => FlM W tv p cv vs, fun W => FlM W tu q cu us, fun W => FlM W tb m cb ys, fun W => FlM W ta n ca xs]) := HQ6.out.sto 0 rfl
              obtain ⟨U7, hU7⟩ : ∃ X, Hid ((StoM t6 ia rx cx ta n ca) = X) := ⟨_, rfl⟩
              rw [hU7.out] at HQ7
              have hU7' := hU7.out
              unfold StoM at hU7'
              go_simp
              go_wp2_with fail
              have HQS := hid (HQ7.out.sub (.cons _ (.cons _ (.cons_cons _ (.cons_cons _ .slnil)))) (.cons _ (.cons _ (.cons _ (.cons _ .slnil)))))
              refine hK.out _ _ (HKT.out _ HQS) (fun hHeld7 => ?_)
              clear hK K HQS
              try simp only [Act.put, List.setIfInBounds_toArray, List.set_cons_zero, List.set_cons_succ]
              clear z0 z1 z2 fz
              refine wpAnyH_ready (rs := [11]) (by kernel_rfl) (by simp) ?_
              refine AllReadyH.cons (o := _) rfl (fun K hK => ?_) AllReadyH.nil
              obtain ⟨z0, z1, z2⟩ := mcells_of (HQ7.out.at 1 rfl : U7.heap[ib]? = some (MBox 0 0 none 0 0))
              have fz := frzM (HQ7.out.at 1 rfl : U7.heap[ib]? = some (MBox 0 0 none 0 0))
              have HQ8 : Hid (FrQ w (StoM U7 ib ry cy tb m cb) [(ia, MBox rx cx ta n ca), (ib, MBox ry cy tb m cb), (p1, BBox ry cy sb m kb), (p0, BBox rx cx sa n ka)] [fun W => FlM W tv p cv vs, fun W => FlM W tu q cu us, fun W => FlM W tb m cb ys, fun W => FlM W ta n ca xs]) := HQ7.out.sto 1 rfl
              obtain ⟨U8, hU8⟩ : ∃ X, Hid ((StoM U7 ib ry cy tb m cb) = X) := ⟨_, rfl⟩
              rw [hU8.out] at HQ8
              have hU8' := hU8.out
              unfold StoM at hU8'
              go_simp
              go_wp2_with fail
              have HQS := hid (HQ8.out.sub (.cons _ (.cons _ (.cons_cons _ (.cons_cons _ .slnil)))) (.cons _ (.cons _ (.cons _ (.cons _ .slnil)))))
              refine hK.out _ _ (HKT.out _ HQS) (fun hHeld8 => ?_)
              clear hK K HQS
              try simp only [Act.put, List.setIfInBounds_toArray, List.set_cons_zero, List.set_cons_succ]
              clear z0 z1 z2 fz
              refine take_at 12 13 (.slice tu q cu) rfl rfl (by kernel_rfl) (by kernel_rfl) (by kernel_rfl) (fun _ _ _ h => h) (Or.inl ⟨by rfl, fun w hSw => by (try dsimp only at hSw); go_simp⟩) (by assumption) ?_
              simp only [Act.put, List.setIfInBounds_toArray, List.set_cons_zero, List.set_cons_succ]
              refine take_at 13 14 (.slice tv p cv) rfl rfl (by kernel_rfl) (by kernel_rfl) (by kernel_rfl) (fun _ _ _ h => h) (Or.inl ⟨by rfl, fun w hSw => by (try dsimp only at hSw); go_simp⟩) (by assumption) ?_
              simp only [Act.put, List.setIfInBounds_toArray, List.set_cons_zero, List.set_cons_succ]
              refine wpAnyH_done (by kernel_rfl) ?_ _
              have HQ8 : Hid (FrQ w U8 [(ib, MBox ry cy tb m cb), (ia, MBox rx cx ta n ca), (p1, BBox ry cy sb m kb), (p0, BBox rx cx sa n ka)] [fun W => FlM W tv p cv vs, fun W => FlM W tu q cu us, fun W => FlM W tb m cb ys, fun W => FlM W ta n ca xs]) := HQ8.out.swap
              exact HR.out _ _ ⟨ta, ca, tb, cb, tu, cu, tv, cv, ia, ib, rfl, HQ8.out⟩
          · have HQ4 := hid (HQ3.out.alloc (MBox 0 0 none 0 0))
            go_simp
            go_wp2_with fail
            have HQS := hid (HQ4.out.sub (.cons _ (.cons _ (.cons_cons _ (.cons_cons _ .slnil)))) (.cons _ (.cons _ .slnil)))
            refine hK.out _ _ (HKT.out _ HQS) (fun hHeld4 => ?_)
            clear hK K HQS
            try simp only [Act.put, List.setIfInBounds_toArray, List.set_cons_zero, List.set_cons_succ]
            obtain ⟨t4, ht4⟩ : ∃ X, Hid (t3.alloc (MBox 0 0 none 0 0) = X) := ⟨_, rfl⟩
            obtain ⟨ia, hia⟩ : ∃ X, Hid (t3.heap.size = X) := ⟨_, rfl⟩
            rw [ht4.out, hia.out] at HQ4
            have hy1 : t3.alloc (.cells #[.int .i64 0, .int .i64 0, .slice none 0 0] 28) = t4 := ht4.out
            have hy2 := hia.out
            rw [hy1]
            rw [hy2]
            clear hy1 hy2
            refine wpAnyH_ready (rs := [5]) (by kernel_rfl) (by simp) ?_
            refine AllReadyH.cons (o := _) rfl (fun K hK => ?_) AllReadyH.nil
            go_simp
            refine (HLU.out _ HQ4.out.bel).mono ?_
            rintro e t5 ⟨⟨tu, cu, rfl, hf⟩, hbq⟩
            have HQ5 := hid (HQ4.out.call hbq)
            have HQ5 := hid (HQ5.out.add (g := fun W => FlM W tu q cu us) (kept_fl _ _ _ _) hf)
            clear hbq
            go_wp2_with fail
            have HQS := hid (HQ5.out.sub (.cons _ (.cons _ (.cons_cons _ (.cons_cons _ .slnil)))) (.cons _ (.cons _ (.cons _ .slnil))))
            refine hK.out _ _ (HKT.out _ HQS) (fun hHeld5 => ?_)
            clear hK K HQS
            try simp only [Act.put, List.setIfInBounds_toArray, List.set_cons_zero, List.set_cons_succ]
            refine wpAnyH_ready (rs := [7]) (by kernel_rfl) (by simp) ?_
            refine AllReadyH.cons (o := _) rfl (fun K hK => ?_) AllReadyH.nil
            go_simp
            refine (HLV.out _ HQ5.out.bel).mono ?_
            rintro e t6 ⟨⟨tv, cv, rfl, hf⟩, hbq⟩
            have HQ6 := hid (HQ5.out.call hbq)
            have HQ6 := hid (HQ6.out.add (g := fun W => FlM W tv p cv vs) (kept_fl _ _ _ _) hf)
            clear hbq
            go_wp2_with fail
            have HQS := hid (HQ6.out.sub (.cons _ (.cons _ (.cons_cons _ (.cons_cons _ .slnil)))) (.cons _ (.cons _ (.cons _ (.cons _ .slnil)))))
            refine hK.out _ _ (HKT.out _ HQS) (fun hHeld6 => ?_)
            clear hK K HQS
            try simp only [Act.put, List.setIfInBounds_toArray, List.set_cons_zero, List.set_cons_succ]
            refine wpAnyH_ready (rs := [10]) (by kernel_rfl) (by simp) ?_
            refine AllReadyH.cons (o := _) rfl (fun K hK => ?_) AllReadyH.nil
            obtain ⟨z0, z1, z2⟩ := mcells_of (HQ6.out.at 0 rfl : t6.heap[ia]? = some (MBox 0 0 none 0 0))
            have fz := frzM (HQ6.out.at 0 rfl : t6.heap[ia]? = some (MBox 0 0 none 0 0))
            have HQ7 : Hid (FrQ w (StoM t6 ia rx cx ta n ca) [(ia, MBox rx cx ta n ca), (ib, MBox 0 0 none 0 0), (p1, BBox ry cy sb m kb), (p0, BBox rx cx sa n ka)] [fun W => FlM W tv p cv vs, fun W => FlM W tu q cu us, fun W => FlM W tb m cb ys, fun W => FlM W ta n ca xs]) := HQ6.out.sto 0 rfl
            obtain ⟨U7, hU7⟩ : ∃ X, Hid ((StoM t6 ia rx cx ta n ca) = X) := ⟨_, rfl⟩
            rw [hU7.out] at HQ7
            have hU7' := hU7.out
            unfold StoM at hU7'
            go_simp
            go_wp2_with fail
            have HQS := hid (HQ7.out.sub (.cons _ (.cons _ (.cons_cons _ (.cons_cons _ .slnil)))) (.cons _ (.cons _ (.cons _ (.cons _ .slnil)))))
            refine hK.out _ _ (HKT.out _ HQS) (fun hHeld7 => ?_)
            clear hK K HQS
            try simp only [Act.put, List.setIfInBounds_toArray, List.set_cons_zero, List.set_cons_succ]
            clear z0 z1 z2 fz
            refine wpAnyH_ready (rs := [11]) (by kernel_rfl) (by simp) ?_
            refine AllReadyH.cons (o := _) rfl (fun K hK => ?_) AllReadyH.nil
            obtain ⟨z0, z1, z2⟩ := mcells_of (HQ7.out.at 1 rfl : U7.heap[ib]? = some (MBox 0 0 none 0 0))
            have fz := frzM (HQ7.out.at 1 rfl : U7.heap[ib]? = some (MBox 0 0 none 0 0))
            have HQ8 : Hid (FrQ w (StoM U7 ib ry cy tb m cb) [(ia, MBox rx cx ta n ca), (ib, MBox ry cy tb m cb), (p1, BBox ry cy sb m kb), (p0, BBox rx cx sa n ka)] [fun W => FlM W tv p cv vs, fun W => FlM W tu q cu us, fun W => FlM W tb m cb ys, fun W => FlM W ta n ca xs]) := HQ7.out.sto 1 rfl
            obtain ⟨U8, hU8⟩ : ∃ X, Hid ((StoM U7 ib ry cy tb m cb) = X) := ⟨_, rfl⟩
            rw [hU8.out] at HQ8
            have hU8' := hU8.out
            unfold StoM at hU8'
            go_simp
            go_wp2_with fail
            have HQS := hid (HQ8.out.sub (.cons _ (.cons _ (.cons_cons _ (.cons_cons _ .slnil)))) (.cons _ (.cons _ (.cons _ (.cons _ .slnil)))))
            refine hK.out _ _ (HKT.out _ HQS) (fun hHeld8 => ?_)
            clear hK K HQS
            try simp only [Act.put, List.setIfInBounds_toArray, List.set_cons_zero, List.set_cons_succ]
            clear z0 z1 z2 fz
            refine take_at 12 13 (.slice tu q cu) rfl rfl (by kernel_rfl) (by kernel_rfl) (by kernel_rfl) (fun _ _ _ h => h) (Or.inl ⟨by rfl, fun w hSw => by (try dsimp only at hSw); go_simp⟩) (by assumption) ?_
            simp only [Act.put, List.setIfInBounds_toArray, List.set_cons_zero, List.set_cons_succ]
            refine take_at 13 14 (.slice tv p cv) rfl rfl (by kernel_rfl) (by kernel_rfl) (by kernel_rfl) (fun _ _ _ h => h) (Or.inl ⟨by rfl, fun w hSw => by (try dsimp only at hSw); go_simp⟩) (by assumption) ?_
            simp only [Act.put, List.setIfInBounds_toArray, List.set_cons_zero, List.set_cons_succ]
            refine wpAnyH_done (by kernel_rfl) ?_ _
            have HQ8 : Hid (FrQ w U8 [(ib, MBox ry cy tb m cb), (ia, MBox rx cx ta n ca), (p1, BBox ry cy sb m kb), (p0, BBox rx cx sa n ka)] [fun W => FlM W tv p cv vs, fun W => FlM W tu q cu us, fun W => FlM W tb m cb ys, fun W => FlM W ta n ca xs]) := HQ8.out.swap
            exact HR.out _ _ ⟨ta, ca, tb, cb, tu, cu, tv, cv, ia, ib, rfl, HQ8.out⟩
      · have HQ2 := hid (HQ1.out.alloc (MBox 0 0 none 0 0))
        go_simp
        go_wp2_with fail
        have HQS := hid (HQ2.out.sub (.cons _ (.cons_cons _ (.cons_cons _ .slnil))) (.cons _ .slnil))
        refine hK.out _ _ (HKT.out _ HQS) (fun hHeld2 => ?_)
        clear hK K HQS
        try simp only [Act.put, List.setIfInBounds_toArray, List.set_cons_zero, List.set_cons_succ]
        obtain ⟨t2, ht2⟩ : ∃ X, Hid (t1.alloc (MBox 0 0 none 0 0) = X) := ⟨_, rfl⟩
        obtain ⟨ia, hia⟩ : ∃ X, Hid (t1.heap.size = X) := ⟨_, rfl⟩
        rw [ht2.out, hia.out] at HQ2
        have hy1 : t1.alloc (.cells #[.int .i64 0, .int .i64 0, .slice none 0 0] 28) = t2 := ht2.out
        have hy2 := hia.out
        rw [hy1]
        rw [hy2]
        clear hy1 hy2
        refine wpAnyH_ready (rs := [3, 9]) (by kernel_rfl) (by simp) ?_
        refine AllReadyH.cons (o := _) rfl (fun K hK => ?_) (AllReadyH.cons (o := _) rfl (fun K hK => ?_) AllReadyH.nil)
        · go_simp
          refine (HOY.out _ HQ2.out.bel).mono ?_
          rintro e t3 ⟨⟨tb, cb, rfl, hf⟩, hbq⟩
          have HQ3 := hid (HQ2.out.call hbq)
          have HQ3 := hid (HQ3.out.add (g := fun W => FlM W tb m cb ys) (kept_fl _ _ _ _) hf)
          clear hbq
          unfold MV
          go_wp2_with fail
          have HQS := hid (HQ3.out.sub (.cons _ (.cons_cons _ (.cons_cons _ .slnil))) (.cons _ (.cons _ .slnil)))
          refine hK.out _ _ (HKT.out _ HQS) (fun hHeld3 => ?_)
          clear hK K HQS
          try simp only [Act.put, List.setIfInBounds_toArray, List.set_cons_zero, List.set_cons_succ]
          refine wpAnyH_ready (rs := [5, 9]) (by kernel_rfl) (by simp) ?_
          refine AllReadyH.cons (o := _) rfl (fun K hK => ?_) (AllReadyH.cons (o := _) rfl (fun K hK => ?_) AllReadyH.nil)
          · go_simp
            refine (HLU.out _ HQ3.out.bel).mono ?_
            rintro e t4 ⟨⟨tu, cu, rfl, hf⟩, hbq⟩
            have HQ4 := hid (HQ3.out.call hbq)
            have HQ4 := hid (HQ4.out.add (g := fun W => FlM W tu q cu us) (kept_fl _ _ _ _) hf)
            clear hbq
            go_wp2_with fail
            have HQS := hid (HQ4.out.sub (.cons _ (.cons_cons _ (.cons_cons _ .slnil))) (.cons _ (.cons _ (.cons _ .slnil))))
            refine hK.out _ _ (HKT.out _ HQS) (fun hHeld4 => ?_)
            clear hK K HQS
            try simp only [Act.put, List.setIfInBounds_toArray, List.set_cons_zero, List.set_cons_succ]
            refine wpAnyH_ready (rs := [7, 9]) (by kernel_rfl) (by simp) ?_
            refine AllReadyH.cons (o := _) rfl (fun K hK => ?_) (AllReadyH.cons (o := _) rfl (fun K hK => ?_) AllReadyH.nil)
            · go_simp
              refine (HLV.out _ HQ4.out.bel).mono ?_
              rintro e t5 ⟨⟨tv, cv, rfl, hf⟩, hbq⟩
              have HQ5 := hid (HQ4.out.call hbq)
              have HQ5 := hid (HQ5.out.add (g := fun W => FlM W tv p cv vs) (kept_fl _ _ _ _) hf)
              clear hbq
              go_wp2_with fail
              have HQS := hid (HQ5.out.sub (.cons _ (.cons_cons _ (.cons_cons _ .slnil))) (.cons _ (.cons _ (.cons _ (.cons _ .slnil)))))
              refine hK.out _ _ (HKT.out _ HQS) (fun hHeld5 => ?_)
              clear hK K HQS
              try simp only [Act.put, List.setIfInBounds_toArray, List.set_cons_zero, List.set_cons_succ]
              refine wpAnyH_ready (rs := [9]) (by kernel_rfl) (by simp) ?_
              refine AllReadyH.cons (o := _) rfl (fun K hK => ?_) AllReadyH.nil
              have HQ6 := hid (HQ5.out.alloc (MBox 0 0 none 0 0))
              go_simp
              go_wp2_with fail
              have HQS := hid (HQ6.out.sub (.cons _ (.cons _ (.cons_cons _ (.cons_cons _ .slnil)))) (.cons _ (.cons _ (.cons _ (.cons _ .slnil)))))
              refine hK.out _ _ (HKT.out _ HQS) (fun hHeld6 => ?_)
              clear hK K HQS
              try simp only [Act.put, List.setIfInBounds_toArray, List.set_cons_zero, List.set_cons_succ]
              obtain ⟨t6, ht6⟩ : ∃ X, Hid (t5.alloc (MBox 0 0 none 0 0) = X) := ⟨_, rfl⟩
              obtain ⟨ib, hib⟩ : ∃ X, Hid (t5.heap.size = X) := ⟨_, rfl⟩
              rw [ht6.out, hib.out] at HQ6
              have hy1 : t5.alloc (.cells #[.int .i64 0, .int .i64 0, .slice none 0 0] 28) = t6 := ht6.out
              have hy2 := hib.out
              rw [hy1]
              rw [hy2]
              clear hy1 hy2
              refine wpAnyH_ready (rs := [10]) (by kernel_rfl) (by simp) ?_
              refine AllReadyH.cons (o := _) rfl (fun K hK => ?_) AllReadyH.nil
              obtain ⟨z0, z1, z2⟩ := mcells_of (HQ6.out.at 1 rfl : t6.heap[ia]? = some (MBox 0 0 none 0 0))
              have fz := frzM (HQ6.out.at 1 rfl : t6.heap[ia]? = some (MBox 0 0 none 0 0))
              have HQ7 : Hid (FrQ w (StoM t6 ia rx cx ta n ca) [(ib, MBox 0 0 none 0 0), (ia, MBox rx cx ta n ca), (p1, BBox ry cy sb m kb), (p0, BBox rx cx sa n ka)] [fun W => FlM W tv p cv vs, fun W => FlM W tu q cu us, fun W => FlM W tb m cb ys, fun W => FlM W ta n ca xs]) := HQ6.out.sto 1 rfl
              obtain ⟨U7, hU7⟩ : ∃ X, Hid ((StoM t6 ia rx cx ta n ca) = X) := ⟨_, rfl⟩
              rw [hU7.out] at HQ7
              have hU7' := hU7.out
              unfold StoM at hU7'
              go_simp
              go_wp2_with fail
              have HQS := hid (HQ7.out.sub (.cons _ (.cons _ (.cons_cons _ (.cons_cons _ .slnil)))) (.cons _ (.cons _ (.cons _ (.cons _ .slnil)))))
              refine hK.out _ _ (HKT.out _ HQS) (fun hHeld7 => ?_)
              clear hK K HQS
              try simp only [Act.put, List.setIfInBounds_toArray, List.set_cons_zero, List.set_cons_succ]
              clear z0 z1 z2 fz
              refine wpAnyH_ready (rs := [11]) (by kernel_rfl) (by simp) ?_
              refine AllReadyH.cons (o := _) rfl (fun K hK => ?_) AllReadyH.nil
              obtain ⟨z0, z1, z2⟩ := mcells_of (HQ7.out.at 0 rfl : U7.heap[ib]? = some (MBox 0 0 none 0 0))
              have fz := frzM (HQ7.out.at 0 rfl : U7.heap[ib]? = some (MBox 0 0 none 0 0))
              have HQ8 : Hid (FrQ w (StoM U7 ib ry cy tb m cb) [(ib, MBox ry cy tb m cb), (ia, MBox rx cx ta n ca), (p1, BBox ry cy sb m kb), (p0, BBox rx cx sa n ka)] [fun W => FlM W tv p cv vs, fun W => FlM W tu q cu us, fun W => FlM W tb m cb ys, fun W => FlM W ta n ca xs]) := HQ7.out.sto 0 rfl
              obtain ⟨U8, hU8⟩ : ∃ X, Hid ((StoM U7 ib ry cy tb m cb) = X) := ⟨_, rfl⟩
              rw [hU8.out] at HQ8
              have hU8' := hU8.out
              unfold StoM at hU8'
              go_simp
              go_wp2_with fail
              have HQS := hid (HQ8.out.sub (.cons _ (.cons _ (.cons_cons _ (.cons_cons _ .slnil)))) (.cons _ (.cons _ (.cons _ (.cons _ .slnil)))))
              refine hK.out _ _ (HKT.out _ HQS) (fun hHeld8 => ?_)
              clear hK K HQS
              try simp only [Act.put, List.setIfInBounds_toArray, List.set_cons_zero, List.set_cons_succ]
              clear z0 z1 z2 fz
              refine take_at 12 13 (.slice tu q cu) rfl rfl (by kernel_rfl) (by kernel_rfl) (by kernel_rfl) (fun _ _ _ h => h) (Or.inl ⟨by rfl, fun w hSw => by (try dsimp only at hSw); go_simp⟩) (by assumption) ?_
              simp only [Act.put, List.setIfInBounds_toArray, List.set_cons_zero, List.set_cons_succ]
              refine take_at 13 14 (.slice tv p cv) rfl rfl (by kernel_rfl) (by kernel_rfl) (by kernel_rfl) (fun _ _ _ h => h) (Or.inl ⟨by rfl, fun w hSw => by (try dsimp only at hSw); go_simp⟩) (by assumption) ?_
              simp only [Act.put, List.setIfInBounds_toArray, List.set_cons_zero, List.set_cons_succ]
              refine wpAnyH_done (by kernel_rfl) ?_ _
              exact HR.out _ _ ⟨ta, ca, tb, cb, tu, cu, tv, cv, ia, ib, rfl, HQ8.out⟩
            · have HQ5 := hid (HQ4.out.alloc (MBox 0 0 none 0 0))
              go_simp
              go_wp2_with fail
              have HQS := hid (HQ5.out.sub (.cons _ (.cons _ (.cons_cons _ (.cons_cons _ .slnil)))) (.cons _ (.cons _ (.cons _ .slnil))))
              refine hK.out _ _ (HKT.out _ HQS) (fun hHeld5 => ?_)
              clear hK K HQS
              try simp only [Act.put, List.setIfInBounds_toArray, List.set_cons_zero, List.set_cons_succ]
              obtain ⟨t5, ht5⟩ : ∃ X, Hid (t4.alloc (MBox 0 0 none 0 0) = X) := ⟨_, rfl⟩
              obtain ⟨ib, hib⟩ : ∃ X, Hid (t4.heap.size = X) := ⟨_, rfl⟩
              rw [ht5.out, hib.out] at HQ5
              have hy1 : t4.alloc (.cells #[.int .i64 0, .int .i64 0, .slice none 0 0] 28) = t5 := ht5.out
              have hy2 := hib.out
              rw [hy1]
              rw [hy2]
              clear hy1 hy2
              refine wpAnyH_ready (rs := [7]) (by kernel_rfl) (by simp) ?_
              refine AllReadyH.cons (o := _) rfl (fun K hK => ?_) AllReadyH.nil
              go_simp
              refine (HLV.out _ HQ5.out.bel).mono ?_
              rintro e t6 ⟨⟨tv, cv, rfl, hf⟩, hbq⟩
              have HQ6 := hid (HQ5.out.call hbq)
              have HQ6 := hid (HQ6.out.add (g := fun W => FlM W tv p cv vs) (kept_fl _ _ _ _) hf)
              clear hbq
              go_wp2_with fail
              have HQS := hid (HQ6.out.sub (.cons _ (.cons _ (.cons_cons _ (.cons_cons _ .slnil)))) (.cons _ (.cons _ (.cons _ (.cons _ .slnil)))))
              refine hK.out _ _ (HKT.out _ HQS) (fun hHeld6 => ?_)
              clear hK K HQS
              try simp only [Act.put, List.setIfInBounds_toArray, List.set_cons_zero, List.set_cons_succ]
              refine wpAnyH_ready (rs := [10]) (by kernel_rfl) (by simp) ?_
              refine AllReadyH.cons (o := _) rfl (fun K hK => ?_) AllReadyH.nil
              obtain ⟨z0, z1, z2⟩ := mcells_of (HQ6.out.at 1 rfl : t6.heap[ia]? = some (MBox 0 0 none 0 0))
              have fz := frzM (HQ6.out.at 1 rfl : t6.heap[ia]? = some (MBox 0 0 none 0 0))
              have HQ7 : Hid (FrQ w (StoM t6 ia rx cx ta n ca) [(ib, MBox 0 0 none 0 0), (ia, MBox rx cx ta n ca), (p1, BBox ry cy sb m kb), (p0, BBox rx cx sa n ka)] [fun W => FlM W tv p cv vs, fun W => FlM W tu q cu us, fun W => FlM W tb m cb ys, fun W => FlM W ta n ca xs]) := HQ6.out.sto 1 rfl
              obtain ⟨U7, hU7⟩ : ∃ X, Hid ((StoM t6 ia rx cx ta n ca) = X) := ⟨_, rfl⟩
              rw [hU7.out] at HQ7
              have hU7' := hU7.out
              unfold StoM at hU7'
              go_simp
              go_wp2_with fail
              have HQS := hid (HQ7.out.sub (.cons _ (.cons _ (.cons_cons _ (.cons_cons _ .slnil)))) (.cons _ (.cons _ (.cons _ (.cons _ .slnil)))))
              refine hK.out _ _ (HKT.out _ HQS) (fun hHeld7 => ?_)
              clear hK K HQS
              try simp only [Act.put, List.setIfInBounds_toArray, List.set_cons_zero, List.set_cons_succ]
              clear z0 z1 z2 fz
              refine wpAnyH_ready (rs := [11]) (by kernel_rfl) (by simp) ?_
              refine AllReadyH.cons (o := _) rfl (fun K hK => ?_) AllReadyH.nil
              obtain ⟨z0, z1, z2⟩ := mcells_of (HQ7.out.at 0 rfl : U7.heap[ib]? = some (MBox 0 0 none 0 0))
              have fz := frzM (HQ7.out.at 0 rfl : U7.heap[ib]? = some (MBox 0 0 none 0 0))
              have HQ8 : Hid (FrQ w (StoM U7 ib ry cy tb m cb) [(ib, MBox ry cy tb m cb), (ia, MBox rx cx ta n ca), (p1, BBox ry cy sb m kb), (p0, BBox rx cx sa n ka)] [fun W => FlM W tv p cv vs, fun W => FlM W tu q cu us, fun W => FlM W tb m cb ys, fun W => FlM W ta n ca xs]) := HQ7.out.sto 0 rfl
              obtain ⟨U8, hU8⟩ : ∃ X, Hid ((StoM U7 ib ry cy tb m cb) = X) := ⟨_, rfl⟩
              rw [hU8.out] at HQ8
              have hU8' := hU8.out
              unfold StoM at hU8'
              go_simp
              go_wp2_with fail
              have HQS := hid (HQ8.out.sub (.cons _ (.cons _ (.cons_cons _ (.cons_cons _ .slnil)))) (.cons _ (.cons _ (.cons _ (.cons _ .slnil)))))
              refine hK.out _ _ (HKT.out _ HQS) (fun hHeld8 => ?_)
              clear hK K HQS
              try simp only [Act.put, List.setIfInBounds_toArray, List.set_cons_zero, List.set_cons_succ]
              clear z0 z1 z2 fz
              refine take_at 12 13 (.slice tu q cu) rfl rfl (by kernel_rfl) (by kernel_rfl) (by kernel_rfl) (fun _ _ _ h => h) (Or.inl ⟨by rfl, fun w hSw => by (try dsimp only at hSw); go_simp⟩) (by assumption) ?_
              simp only [Act.put, List.setIfInBounds_toArray, List.set_cons_zero, List.set_cons_succ]
              refine take_at 13 14 (.slice tv p cv) rfl rfl (by kernel_rfl) (by kernel_rfl) (by kernel_rfl) (fun _ _ _ h => h) (Or.inl ⟨by rfl, fun w hSw => by (try dsimp only at hSw); go_simp⟩) (by assumption) ?_
              simp only [Act.put, List.setIfInBounds_toArray, List.set_cons_zero, List.set_cons_succ]
              refine wpAnyH_done (by kernel_rfl) ?_ _
              exact HR.out _ _ ⟨ta, ca, tb, cb, tu, cu, tv, cv, ia, ib, rfl, HQ8.out⟩
          · have HQ4 := hid (HQ3.out.alloc (MBox 0 0 none 0 0))
            go_simp
            go_wp2_with fail
            have HQS := hid (HQ4.out.sub (.cons _ (.cons _ (.cons_cons _ (.cons_cons _ .slnil)))) (.cons _ (.cons _ .slnil)))
            refine hK.out _ _ (HKT.out _ HQS) (fun hHeld4 => ?_)
            clear hK K HQS
            try simp only [Act.put, List.setIfInBounds_toArray, List.set_cons_zero, List.set_cons_succ]
            obtain ⟨t4, ht4⟩ : ∃ X, Hid (t3.alloc (MBox 0 0 none 0 0) = X) := ⟨_, rfl⟩
            obtain ⟨ib, hib⟩ : ∃ X, Hid (t3.heap.size = X) := ⟨_, rfl⟩
            rw [ht4.out, hib.out] at HQ4
            have hy1 : t3.alloc (.cells #[.int .i64 0, .int .i64 0, .slice none 0 0] 28) = t4 := ht4.out
            have hy2 := hib.out
            rw [hy1]
            rw [hy2]
            clear hy1 hy2
            refine wpAnyH_ready (rs := [5]) (by kernel_rfl) (by simp) ?_
            refine AllReadyH.cons (o := _) rfl (fun K hK => ?_) AllReadyH.nil
            go_simp
            refine (HLU.out _ HQ4.out.bel).mono ?_
            rintro e t5 ⟨⟨tu, cu, rfl, hf⟩, hbq⟩
            have HQ5 := hid (HQ4.out.call hbq)
            have HQ5 := hid (HQ5.out.add (g := fun W => FlM W tu q cu us) (kept_fl _ _ _ _) hf)
            clear hbq
            go_wp2_with fail
            have HQS := hid (HQ5.out.sub (.cons _ (.cons _ (.cons_cons _ (.cons_cons _ .slnil)))) (.cons _ (.cons _ (.cons _ .slnil))))
            refine hK.out _ _ (HKT.out _ HQS) (fun hHeld5 => ?_)
            clear hK K HQS
            try simp only [Act.put, List.setIfInBounds_toArray, List.set_cons_zero, List.set_cons_succ]
            refine wpAnyH_ready (rs := [7]) (by kernel_rfl) (by simp) ?_
            refine AllReadyH.cons (o := _) rfl (fun K hK => ?_) AllReadyH.nil
            go_simp
            refine (HLV.out _ HQ5.out.bel).mono ?_
            rintro e t6 ⟨⟨tv, cv, rfl, hf⟩, hbq⟩
            have HQ6 := hid (HQ5.out.call hbq)
            have HQ6 := hid (HQ6.out.add (g := fun W => FlM W tv p cv vs) (kept_fl _ _ _ _) hf)
            clear hbq
            go_wp2_with fail
            have HQS := hid (HQ6.out.sub (.cons _ (.cons _ (.cons_cons _ (.cons_cons _ .slnil)))) (.cons _ (.cons _ (.cons _ (.cons _ .slnil)))))
            refine hK.out _ _ (HKT.out _ HQS) (fun hHeld6 => ?_)
            clear hK K HQS
            try simp only [Act.put, List.setIfInBounds_toArray, List.set_cons_zero, List.set_cons_succ]
            refine wpAnyH_ready (rs := [10]) (by kernel_rfl) (by simp) ?_
            refine AllReadyH.cons (o := _) rfl (fun K hK => ?_) AllReadyH.nil
            obtain ⟨z0, z1, z2⟩ := mcells_of (HQ6.out.at 1 rfl : t6.heap[ia]? = some (MBox 0 0 none 0 0))
            have fz := frzM (HQ6.out.at 1 rfl : t6.heap[ia]? = some (MBox 0 0 none 0 0))
            have HQ7 : Hid (FrQ w (StoM t6 ia rx cx ta n ca) [(ib, MBox 0 0 none 0 0), (ia, MBox rx cx ta n ca), (p1, BBox ry cy sb m kb), (p0, BBox rx cx sa n ka)] [fun W => FlM W tv p cv vs, fun W => FlM W tu q cu us, fun W => FlM W tb m cb ys, fun W => FlM W ta n ca xs]) := HQ6.out.sto 1 rfl
            obtain ⟨U7, hU7⟩ : ∃ X, Hid ((StoM t6 ia rx cx ta n ca) = X) := ⟨_, rfl⟩
            rw [hU7.out] at HQ7
            have hU7' := hU7.out
            unfold StoM at hU7'
            go_simp
            go_wp2_with fail
            have HQS := hid (HQ7.out.sub (.cons _ (.cons _ (.cons_cons _ (.cons_cons _ .slnil)))) (.cons _ (.cons _ (.cons _ (.cons _ .slnil)))))
            refine hK.out _ _ (HKT.out _ HQS) (fun hHeld7 => ?_)
            clear hK K HQS
            try simp only [Act.put, List.setIfInBounds_toArray, List.set_cons_zero, List.set_cons_succ]
            clear z0 z1 z2 fz
            refine wpAnyH_ready (rs := [11]) (by kernel_rfl) (by simp) ?_
            refine AllReadyH.cons (o := _) rfl (fun K hK => ?_) AllReadyH.nil
            obtain ⟨z0, z1, z2⟩ := mcells_of (HQ7.out.at 0 rfl : U7.heap[ib]? = some (MBox 0 0 none 0 0))
            have fz := frzM (HQ7.out.at 0 rfl : U7.heap[ib]? = some (MBox 0 0 none 0 0))
            have HQ8 : Hid (FrQ w (StoM U7 ib ry cy tb m cb) [(ib, MBox ry cy tb m cb), (ia, MBox rx cx ta n ca), (p1, BBox ry cy sb m kb), (p0, BBox rx cx sa n ka)] [fun W => FlM W tv p cv vs, fun W => FlM W tu q cu us, fun W => FlM W tb m cb ys, fun W => FlM W ta n ca xs]) := HQ7.out.sto 0 rfl
            obtain ⟨U8, hU8⟩ : ∃ X, Hid ((StoM U7 ib ry cy tb m cb) = X) := ⟨_, rfl⟩
            rw [hU8.out] at HQ8
            have hU8' := hU8.out
            unfold StoM at hU8'
            go_simp
            go_wp2_with fail
            have HQS := hid (HQ8.out.sub (.cons _ (.cons _ (.cons_cons _ (.cons_cons _ .slnil)))) (.cons _ (.cons _ (.cons _ (.cons _ .slnil)))))
            refine hK.out _ _ (HKT.out _ HQS) (fun hHeld8 => ?_)
            clear hK K HQS
            try simp only [Act.put, List.setIfInBounds_toArray, List.set_cons_zero, List.set_cons_succ]
            clear z0 z1 z2 fz
            refine take_at 12 13 (.slice tu q cu) rfl rfl (by kernel_rfl) (by kernel_rfl) (by kernel_rfl) (fun _ _ _ h => h) (Or.inl ⟨by rfl, fun w hSw => by (try dsimp only at hSw); go_simp⟩) (by assumption) ?_
            simp only [Act.put, List.setIfInBounds_toArray, List.set_cons_zero, List.set_cons_succ]
            refine take_at 13 14 (.slice tv p cv) rfl rfl (by kernel_rfl) (by kernel_rfl) (by kernel_rfl) (fun _ _ _ h => h) (Or.inl ⟨by rfl, fun w hSw => by (try dsimp only at hSw); go_simp⟩) (by assumption) ?_
            simp only [Act.put, List.setIfInBounds_toArray, List.set_cons_zero, List.set_cons_succ]
            refine wpAnyH_done (by kernel_rfl) ?_ _
            exact HR.out _ _ ⟨ta, ca, tb, cb, tu, cu, tv, cv, ia, ib, rfl, HQ8.out⟩
        · have HQ3 := hid (HQ2.out.alloc (MBox 0 0 none 0 0))
          go_simp
          go_wp2_with fail
          have HQS := hid (HQ3.out.sub (.cons _ (.cons _ (.cons_cons _ (.cons_cons _ .slnil)))) (.cons _ .slnil))
          refine hK.out _ _ (HKT.out _ HQS) (fun hHeld3 => ?_)
          clear hK K HQS
          try simp only [Act.put, List.setIfInBounds_toArray, List.set_cons_zero, List.set_cons_succ]
          obtain ⟨t3, ht3⟩ : ∃ X, Hid (t2.alloc (MBox 0 0 none 0 0) = X) := ⟨_, rfl⟩
          obtain ⟨ib, hib⟩ : ∃ X, Hid (t2.heap.size = X) := ⟨_, rfl⟩
          rw [ht3.out, hib.out] at HQ3
          have hy1 : t2.alloc (.cells #[.int .i64 0, .int .i64 0, .slice none 0 0] 28) = t3 := ht3.out
          have hy2 := hib.out
          rw [hy1]
          rw [hy2]
          clear hy1 hy2
          refine wpAnyH_ready (rs := [3]) (by kernel_rfl) (by simp) ?_
          refine AllReadyH.cons (o := _) rfl (fun K hK => ?_) AllReadyH.nil
          go_simp
          refine (HOY.out _ HQ3.out.bel).mono ?_
          rintro e t4 ⟨⟨tb, cb, rfl, hf⟩, hbq⟩
          have HQ4 := hid (HQ3.out.call hbq)
          have HQ4 := hid (HQ4.out.add (g := fun W => FlM W tb m cb ys) (kept_fl _ _ _ _) hf)
          clear hbq
          unfold MV
          go_wp2_with fail
          have HQS := hid (HQ4.out.sub (.cons _ (.cons _ (.cons_cons _ (.cons_cons _ .slnil)))) (.cons _ (.cons _ .slnil)))
          refine hK.out _ _ (HKT.out _ HQS) (fun hHeld4 => ?_)
          clear hK K HQS
          try simp only [Act.put, List.setIfInBounds_toArray, List.set_cons_zero, List.set_cons_succ]
          refine wpAnyH_ready (rs := [5]) (by kernel_rfl) (by simp) ?_
          refine AllReadyH.cons (o := _) rfl (fun K hK => ?_) AllReadyH.nil
          go_simp
          refine (HLU.out _ HQ4.out.bel).mono ?_
          rintro e t5 ⟨⟨tu, cu, rfl, hf⟩, hbq⟩
          have HQ5 := hid (HQ4.out.call hbq)
          have HQ5 := hid (HQ5.out.add (g := fun W => FlM W tu q cu us) (kept_fl _ _ _ _) hf)
          clear hbq
          go_wp2_with fail
          have HQS := hid (HQ5.out.sub (.cons _ (.cons _ (.cons_cons _ (.cons_cons _ .slnil)))) (.cons _ (.cons _ (.cons _ .slnil))))
          refine hK.out _ _ (HKT.out _ HQS) (fun hHeld5 => ?_)
          clear hK K HQS
          try simp only [Act.put, List.setIfInBounds_toArray, List.set_cons_zero, List.set_cons_succ]
          refine wpAnyH_ready (rs := [7]) (by kernel_rfl) (by simp) ?_
          refine AllReadyH.cons (o := _) rfl (fun K hK => ?_) AllReadyH.nil
          go_simp
          refine (HLV.out _ HQ5.out.bel).mono ?_
          rintro e t6 ⟨⟨tv, cv, rfl, hf⟩, hbq⟩
          have HQ6 := hid (HQ5.out.call hbq)
          have HQ6 := hid (HQ6.out.add (g := fun W => FlM W tv p cv vs) (kept_fl _ _ _ _) hf)
          clear hbq
          go_wp2_with fail
          have HQS := hid (HQ6.out.sub (.cons _ (.cons _ (.cons_cons _ (.cons_cons _ .slnil)))) (.cons _ (.cons _ (.cons _ (.cons _ .slnil)))))
          refine hK.out _ _ (HKT.out _ HQS) (fun hHeld6 => ?_)
          clear hK K HQS
          try simp only [Act.put, List.setIfInBounds_toArray, List.set_cons_zero, List.set_cons_succ]
          refine wpAnyH_ready (rs := [10]) (by kernel_rfl) (by simp) ?_
          refine AllReadyH.cons (o := _) rfl (fun K hK => ?_) AllReadyH.nil
          obtain ⟨z0, z1, z2⟩ := mcells_of (HQ6.out.at 1 rfl : t6.heap[ia]? = some (MBox 0 0 none 0 0))
          have fz := frzM (HQ6.out.at 1 rfl : t6.heap[ia]? = some (MBox 0 0 none 0 0))
          have HQ7 : Hid (FrQ w (StoM t6 ia rx cx ta n ca) [(ib, MBox 0 0 none 0 0), (ia, MBox rx cx ta n ca), (p1, BBox ry cy sb m kb), (p0, BBox rx cx sa n ka)] [fun W => FlM W tv p cv vs, fun W => FlM W tu q cu us, fun W => FlM W tb m cb ys, fun W => FlM W ta n ca xs]) := HQ6.out.sto 1 rfl
          obtain ⟨U7, hU7⟩ : ∃ X, Hid ((StoM t6 ia rx cx ta n ca) = X) := ⟨_, rfl⟩
          rw [hU7.out] at HQ7
          have hU7' := hU7.out
          unfold StoM at hU7'
          go_simp
          go_wp2_with fail
          have HQS := hid (HQ7.out.sub (.cons _ (.cons _ (.cons_cons _ (.cons_cons _ .slnil)))) (.cons _ (.cons _ (.cons _ (.cons _ .slnil)))))
          refine hK.out _ _ (HKT.out _ HQS) (fun hHeld7 => ?_)
          clear hK K HQS
          try simp only [Act.put, List.setIfInBounds_toArray, List.set_cons_zero, List.set_cons_succ]
          clear z0 z1 z2 fz
          refine wpAnyH_ready (rs := [11]) (by kernel_rfl) (by simp) ?_
          refine AllReadyH.cons (o := _) rfl (fun K hK => ?_) AllReadyH.nil
          obtain ⟨z0, z1, z2⟩ := mcells_of (HQ7.out.at 0 rfl : U7.heap[ib]? = some (MBox 0 0 none 0 0))
          have fz := frzM (HQ7.out.at 0 rfl : U7.heap[ib]? = some (MBox 0 0 none 0 0))
          have HQ8 : Hid (FrQ w (StoM U7 ib ry cy tb m cb) [(ib, MBox ry cy tb m cb), (ia, MBox rx cx ta n ca), (p1, BBox ry cy sb m kb), (p0, BBox rx cx sa n ka)] [fun W => FlM W tv p cv vs, fun W => FlM W tu q cu us, fun W => FlM W tb m cb ys, fun W => FlM W ta n ca xs]) := HQ7.out.sto 0 rfl
          obtain ⟨U8, hU8⟩ : ∃ X, Hid ((StoM U7 ib ry cy tb m cb) = X) := ⟨_, rfl⟩
          rw [hU8.out] at HQ8
          have hU8' := hU8.out
          unfold StoM at hU8'
          go_simp
          go_wp2_with fail
          have HQS := hid (HQ8.out.sub (.cons _ (.cons _ (.cons_cons _ (.cons_cons _ .slnil)))) (.cons _ (.cons _ (.cons _ (.cons _ .slnil)))))
          refine hK.out _ _ (HKT.out _ HQS) (fun hHeld8 => ?_)
          clear hK K HQS
          try simp only [Act.put, List.setIfInBounds_toArray, List.set_cons_zero, List.set_cons_succ]
          clear z0 z1 z2 fz
          refine take_at 12 13 (.slice tu q cu) rfl rfl (by kernel_rfl) (by kernel_rfl) (by kernel_rfl) (fun _ _ _ h => h) (Or.inl ⟨by rfl, fun w hSw => by (try dsimp only at hSw); go_simp⟩) (by assumption) ?_
          simp only [Act.put, List.setIfInBounds_toArray, List.set_cons_zero, List.set_cons_succ]
          refine take_at 13 14 (.slice tv p cv) rfl rfl (by kernel_rfl) (by kernel_rfl) (by kernel_rfl) (fun _ _ _ h => h) (Or.inl ⟨by rfl, fun w hSw => by (try dsimp only at hSw); go_simp⟩) (by assumption) ?_
          simp only [Act.put, List.setIfInBounds_toArray, List.set_cons_zero, List.set_cons_succ]
          refine wpAnyH_done (by kernel_rfl) ?_ _
          exact HR.out _ _ ⟨ta, ca, tb, cb, tu, cu, tv, cv, ia, ib, rfl, HQ8.out⟩
      · have HQ2 := hid (HQ1.out.alloc (MBox 0 0 none 0 0))
        go_simp
        go_wp2_with fail
        have HQS := hid (HQ2.out.sub (.cons _ (.cons_cons _ (.cons_cons _ .slnil))) (.cons _ .slnil))
        refine hK.out _ _ (HKT.out _ HQS) (fun hHeld2 => ?_)
        clear hK K HQS
        try simp only [Act.put, List.setIfInBounds_toArray, List.set_cons_zero, List.set_cons_succ]
        obtain ⟨t2, ht2⟩ : ∃ X, Hid (t1.alloc (MBox 0 0 none 0 0) = X) := ⟨_, rfl⟩
        obtain ⟨ib, hib⟩ : ∃ X, Hid (t1.heap.size = X) := ⟨_, rfl⟩
        rw [ht2.out, hib.out] at HQ2
        have hy1 : t1.alloc (.cells #[.int .i64 0, .int .i64 0, .slice none 0 0] 28) = t2 := ht2.out
        have hy2 := hib.out
        rw [hy1]
        rw [hy2]
        clear hy1 hy2
        refine wpAnyH_ready (rs := [3, 8]) (by kernel_rfl) (by simp) ?_
        refine AllReadyH.cons (o := _) rfl (fun K hK => ?_) (AllReadyH.cons (o := _) rfl (fun K hK => ?_) AllReadyH.nil)
        · go_simp
          refine (HOY.out _ HQ2.out.bel).mono ?_
          rintro e t3 ⟨⟨tb, cb, rfl, hf⟩, hbq⟩
          have HQ3 := hid (HQ2.out.call hbq)
          have HQ3 := hid (HQ3.out.add (g := fun W => FlM W tb m cb ys) (kept_fl _ _ _ _) hf)
          clear hbq
          unfold MV
          go_wp2_with fail
          have HQS := hid (HQ3.out.sub (.cons _ (.cons_cons _ (.cons_cons _ .slnil))) (.cons _ (.cons _ .slnil)))
          refine hK.out _ _ (HKT.out _ HQS) (fun hHeld3 => ?_)
          clear hK K HQS
          try simp only [Act.put, List.setIfInBounds_toArray, List.set_cons_zero, List.set_cons_succ]
          refine wpAnyH_ready (rs := [5, 8]) (by kernel_rfl) (by simp) ?_
          refine AllReadyH.cons (o := _) rfl (fun K hK => ?_) (AllReadyH.cons (o := _) rfl (fun K hK => ?_) AllReadyH.nil)
          · go_simp
            refine (HLU.out _ HQ3.out.bel).mono ?_
            rintro e t4 ⟨⟨tu, cu, rfl, hf⟩, hbq⟩
            have HQ4 := hid (HQ3.out.call hbq)
            have HQ4 := hid (HQ4.out.add (g := fun W => FlM W tu q cu us) (kept_fl _ _ _ _) hf)
            clear hbq
            go_wp2_with fail
            have HQS := hid (HQ4.out.sub (.cons _ (.cons_cons _ (.cons_cons _ .slnil))) (.cons _ (.cons _ (.cons _ .slnil))))
            refine hK.out _ _ (HKT.out _ HQS) (fun hHeld4 => ?_)
            clear hK K HQS
            try simp only [Act.put, List.setIfInBounds_toArray, List.set_cons_zero, List.set_cons_succ]
            refine wpAnyH_ready (rs := [7, 8]) (by kernel_rfl) (by simp) ?_
            refine AllReadyH.cons (o := _) rfl (fun K hK => ?_) (AllReadyH.cons (o := _) rfl (fun K hK => ?_) AllReadyH.nil)
            · go_simp
              refine (HLV.out _ HQ4.out.bel).mono ?_
              rintro e t5 ⟨⟨tv, cv, rfl, hf⟩, hbq⟩
              have HQ5 := hid (HQ4.out.call hbq)
              have HQ5 := hid (HQ5.out.add (g := fun W => FlM W tv p cv vs) (kept_fl _ _ _ _) hf)
              clear hbq
              go_wp2_with fail
              have HQS := hid (HQ5.out.sub (.cons _ (.cons_cons _ (.cons_cons _ .slnil))) (.cons _ (.cons _ (.cons _ (.cons _ .slnil)))))
              refine hK.out _ _ (HKT.out _ HQS) (fun hHeld5 => ?_)
              clear hK K HQS
              try simp only [Act.put, List.setIfInBounds_toArray, List.set_cons_zero, List.set_cons_succ]
              refine wpAnyH_ready (rs := [8]) (by kernel_rfl) (by simp) ?_
              refine AllReadyH.cons (o := _) rfl (fun K hK => ?_) AllReadyH.nil
              have HQ6 := hid (HQ5.out.alloc (MBox 0 0 none 0 0))
              go_simp
              go_wp2_with fail
              have HQS := hid (HQ6.out.sub (.cons _ (.cons _ (.cons_cons _ (.cons_cons _ .slnil)))) (.cons _ (.cons _ (.cons _ (.cons _ .slnil)))))
              refine hK.out _ _ (HKT.out _ HQS) (fun hHeld6 => ?_)
              clear hK K HQS
              try simp only [Act.put, List.setIfInBounds_toArray, List.set_cons_zero, List.set_cons_succ]
              obtain ⟨t6, ht6⟩ : ∃ X, Hid (t5.alloc (MBox 0 0 none 0 0) = X) := ⟨_, rfl⟩
              obtain ⟨ia, hia⟩ : ∃ X, Hid (t5.heap.size = X) := ⟨_, rfl⟩
              rw [ht6.out, hia.out] at HQ6
              have hy1 : t5.alloc (.cells #[.int .i64 0, .int .i64 0, .slice none 0 0] 28) = t6 := ht6.out
              have hy2 := hia.out
              rw [hy1]
              rw [hy2]
              clear hy1 hy2
              refine wpAnyH_ready (rs := [10]) (by kernel_rfl) (by simp) ?_
              refine AllReadyH.cons (o := _) rfl (fun K hK => ?_) AllReadyH.nil
              obtain ⟨z0, z1, z2⟩ := mcells_of (HQ6.out.at 0 rfl : t6.heap[ia]? = some (MBox 0 0 none 0 0))
              have fz := frzM (HQ6.out.at 0 rfl : t6.heap[ia]? = some (MBox 0 0 none 0 0))
              have HQ7 : Hid (FrQ w (StoM t6 ia rx cx ta n ca) [(ia, MBox rx cx ta n ca), (ib, MBox 0 0 none 0 0), (p1, BBox ry cy sb m kb), (p0, BBox rx cx sa n ka)] [fun W => FlM W tv p cv vs, fun W => FlM W tu q cu us, fun W => FlM W tb m cb ys, fun W => FlM W ta n ca xs]) := HQ6.out.sto 0 rfl
              obtain ⟨U7, hU7⟩ : ∃ X, Hid ((StoM t6 ia rx cx ta n ca) = X) := ⟨_, rfl⟩
              rw [hU7.out] at HQ7
              have hU7' := hU7.out
              unfold StoM at hU7'
              go_simp
              go_wp2_with fail
              have HQS := hid (HQ7.out.sub (.cons _ (.cons _ (.cons_cons _ (.cons_cons _ .slnil)))) (.cons _ (.cons _ (.cons _ (.cons _ .slnil)))))
              refine hK.out _ _ (HKT.out _ HQS) (fun hHeld7 => ?_)
              clear hK K HQS
              try simp only [Act.put, List.setIfInBounds_toArray, List.set_cons_zero, List.set_cons_succ]
              clear z0 z1 z2 fz
              refine wpAnyH_ready (rs := [11]) (by kernel_rfl) (by simp) ?_
              refine AllReadyH.cons (o := _) rfl (fun K hK => ?_) AllReadyH.nil
              obtain ⟨z0, z1, z2⟩ := mcells_of (HQ7.out.at 1 rfl : U7.heap[ib]? = some (MBox 0 0 none 0 0))
              have fz := frzM (HQ7.out.at 1 rfl : U7.heap[ib]? = some (MBox 0 0 none 0 0))
              have HQ8 : Hid (FrQ w (StoM U7 ib ry cy tb m cb) [(ia, MBox rx cx ta n ca), (ib, MBox ry cy tb m cb), (p1, BBox ry cy sb m kb), (p0, BBox rx cx sa n ka)] [fun W => FlM W tv p cv vs, fun W => FlM W tu q cu us, fun W => FlM W tb m cb ys, fun W => FlM W ta n ca xs]) := HQ7.out.sto 1 rfl
              obtain ⟨U8, hU8⟩ : ∃ X, Hid ((StoM U7 ib ry cy tb m cb) = X) := ⟨_, rfl⟩
              rw [hU8.out] at HQ8
              have hU8' := hU8.out
              unfold StoM at hU8'
              go_simp
              go_wp2_with fail
              have HQS := hid (HQ8.out.sub (.cons _ (.cons _ (.cons_cons _ (.cons_cons _ .slnil)))) (.cons _ (.cons _ (.cons _ (.cons _ .slnil)))))
              refine hK.out _ _ (HKT.out _ HQS) (fun hHeld8 => ?_)
              clear hK K HQS
              try simp only [Act.put, List.setIfInBounds_toArray, List.set_cons_zero, List.set_cons_succ]
              clear z0 z1 z2 fz
              refine take_at 12 13 (.slice tu q cu) rfl rfl (by kernel_rfl) (by kernel_rfl) (by kernel_rfl) (fun _ _ _ h => h) (Or.inl ⟨by rfl, fun w hSw => by (try dsimp only at hSw); go_simp⟩) (by assumption) ?_
              simp only [Act.put, List.setIfInBounds_toArray, List.set_cons_zero, List.set_cons_succ]
              refine take_at 13 14 (.slice tv p cv) rfl rfl (by kernel_rfl) (by kernel_rfl) (by kernel_rfl) (fun _ _ _ h => h) (Or.inl ⟨by rfl, fun w hSw => by (try dsimp only at hSw); go_simp⟩) (by assumption) ?_
              simp only [Act.put, List.setIfInBounds_toArray, List.set_cons_zero, List.set_cons_succ]
              refine wpAnyH_done (by kernel_rfl) ?_ _
              have HQ8 : Hid (FrQ w U8 [(ib, MBox ry cy tb m cb), (ia, MBox rx cx ta n ca), (p1, BBox ry cy sb m kb), (p0, BBox rx cx sa n ka)] [fun W => FlM W tv p cv vs, fun W => FlM W tu q cu us, fun W => FlM W tb m cb ys, fun W => FlM W ta n ca xs]) := HQ8.out.swap
              exact HR.out _ _ ⟨ta, ca, tb, cb, tu, cu, tv, cv, ia, ib, rfl, HQ8.out⟩
            · have HQ5 := hid (HQ4.out.alloc (MBox 0 0 none 0 0))
              go_simp
              go_wp2_with fail
              have HQS := hid (HQ5.out.sub (.cons _ (.cons _ (.cons_cons _ (.cons_cons _ .slnil)))) (.cons _ (.cons _ (.cons _ .slnil))))
              refine hK.out _ _ (HKT.out _ HQS) (fun hHeld5 => ?_)
              clear hK K HQS
              try simp only [Act.put, List.setIfInBounds_toArray, List.set_cons_zero, List.set_cons_succ]
              obtain ⟨t5, ht5⟩ : ∃ X, Hid (t4.alloc (MBox 0 0 none 0 0) = X) := ⟨_, rfl⟩
              obtain ⟨ia, hia⟩ : ∃ X, Hid (t4.heap.size = X) := ⟨_, rfl⟩
              rw [ht5.out, hia.out] at HQ5
              have hy1 : t4.alloc (.cells #[.int .i64 0, .int .i64 0, .slice none 0 0] 28) = t5 := ht5.out
              have hy2 := hia.out
              rw [hy1]
              rw [hy2]
              clear hy1 hy2
              refine wpAnyH_ready (rs := [7]) (by kernel_rfl) (by simp) ?_
              refine AllReadyH.cons (o := _) rfl (fun K hK => ?_) AllReadyH.nil
              go_simp
              refine (HLV.out _ HQ5.out.bel).mono ?_
              rintro e t6 ⟨⟨tv, cv, rfl, hf⟩, hbq⟩
              have HQ6 := hid (HQ5.out.call hbq)
              have HQ6 := hid (HQ6.out.add (g := fun W => FlM W tv p cv vs) (kept_fl _ _ _ _) hf)
              clear hbq
              go_wp2_with fail
              have HQS := hid (HQ6.out.sub (.cons _ (.cons _ (.cons_cons _ (.cons_cons _ .slnil)))) (.cons _ (.cons _ (.cons _ (.cons _ .slnil)))))
              refine hK.out _ _ (HKT.out _ HQS) (fun hHeld6 => ?_)
              clear hK K HQS
              try simp only [Act.put, List.setIfInBounds_toArray, List.set_cons_zero, List.set_cons_succ]
              refine wpAnyH_ready (rs := [10]) (by kernel_rfl) (by simp) ?_
              refine AllReadyH.cons (o := _) rfl (fun K hK => ?_) AllReadyH.nil
              obtain ⟨z0, z1, z2⟩ := mcells_of (HQ6.out.at 0 rfl : t6.heap[ia]? = some (MBox 0 0 none 0 0))
              have fz := frzM (HQ6.out.at 0 rfl : t6.heap[ia]? = some (MBox 0 0 none 0 0))
              have HQ7 : Hid (FrQ w (StoM t6 ia rx cx ta n ca) [(ia, MBox rx cx ta n ca), (ib, MBox 0 0 none 0 0), (p1, BBox ry cy sb m kb), (p0, BBox rx cx sa n ka)] [fun W => FlM W tv p cv vs, fun W => FlM W tu q cu us, fun W => FlM W tb m cb ys, fun W => FlM W ta n ca xs]) := HQ6.out.sto 0 rfl
              obtain ⟨U7, hU7⟩ : ∃ X, Hid ((StoM t6 ia rx cx ta n ca) = X) := ⟨_, rfl⟩
              rw [hU7.out] at HQ7
              have hU7' := hU7.out
              unfold StoM at hU7'
              go_simp
              go_wp2_with fail
              have HQS := hid (HQ7.out.sub (.cons _ (.cons _ (.cons_cons _ (.cons_cons _ .slnil)))) (.cons _ (.cons _ (.cons _ (.cons _ .slnil)))))
              refine hK.out _ _ (HKT.out _ HQS) (fun hHeld7 => ?_)
              clear hK K HQS
              try simp only [Act.put, List.setIfInBounds_toArray, List.set_cons_zero, List.set_cons_succ]
              clear z0 z1 z2 fz
              refine wpAnyH_ready (rs := [11]) (by kernel_rfl) (by simp) ?_
              refine AllReadyH.cons (o := _) rfl (fun K hK => ?_) AllReadyH.nil
              obtain ⟨z0, z1, z2⟩ := mcells_of (HQ7.out.at 1 rfl : U7.heap[ib]? = some (MBox 0 0 none 0 0))
              have fz := frzM (HQ7.out.at 1 rfl : U7.heap[ib]? = some (MBox 0 0 none 0 0))
              have HQ8 : Hid (FrQ w (StoM U7 ib ry cy tb m cb) [(ia, MBox rx cx ta n ca), (ib, MBox ry cy tb m cb), (p1, BBox ry cy sb m kb), (p0, BBox rx cx sa n ka)] [fun W => FlM W tv p cv vs, fun W => FlM W tu q cu us, fun W => FlM W tb m cb ys, fun W => FlM W ta n ca xs]) := HQ7.out.sto 1 rfl
              obtain ⟨U8, hU8⟩ : ∃ X, Hid ((StoM U7 ib ry cy tb m cb) = X) := ⟨_, rfl⟩
              rw [hU8.out] at HQ8
              have hU8' := hU8.out
              unfold StoM at hU8'
              go_simp
              go_wp2_with fail
              have HQS := hid (HQ8.out.sub (.cons _ (.cons _ (.cons_cons _ (.cons_cons _ .slnil)))) (.cons _ (.cons _ (.cons _ (.cons _ .slnil)))))
              refine hK.out _ _ (HKT.out _ HQS) (fun hHeld8 => ?_)
              clear hK K HQS
              try simp only [Act.put, List.setIfInBounds_toArray, List.set_cons_zero, List.set_cons_succ]
              clear z0 z1 z2 fz
              refine take_at 12 13 (.slice tu q cu) rfl rfl (by kernel_rfl) (by kernel_rfl) (by kernel_rfl) (fun _ _ _ h => h) (Or.inl ⟨by rfl, fun w hSw => by (try dsimp only at hSw); go_simp⟩) (by assumption) ?_
              simp only [Act.put, List.setIfInBounds_toArray, List.set_cons_zero, List.set_cons_succ]
              refine take_at 13 14 (.slice tv p cv) rfl rfl (by kernel_rfl) (by kernel_rfl) (by kernel_rfl) (fun _ _ _ h => h) (Or.inl ⟨by rfl, fun w hSw => by (try dsimp only at hSw); go_simp⟩) (by assumption) ?_
              simp only [Act.put, List.setIfInBounds_toArray, List.set_cons_zero, List.set_cons_succ]
              refine wpAnyH_done (by kernel_rfl) ?_ _
              have HQ8 : Hid (FrQ w U8 [(ib, MBox ry cy tb m cb), (ia, MBox rx cx ta n ca), (p1, BBox ry cy sb m kb), (p0, BBox rx cx sa n ka)] [fun W => FlM W tv p cv vs, fun W => FlM W tu q cu us, fun W => FlM W tb m cb ys, fun W => FlM W ta n ca xs]) := HQ8.out.swap
              exact HR.out _ _ ⟨ta, ca, tb, cb, tu, cu, tv, cv, ia, ib, rfl, HQ8.out⟩
          · have HQ4 := hid (HQ3.out.alloc (MBox 0 0 none 0 0))
            go_simp
            go_wp2_with fail
            have HQS := hid (HQ4.out.sub (.cons _ (.cons _ (.cons_cons _ (.cons_cons _ .slnil)))) (.cons _ (.cons _ .slnil)))
            refine hK.out _ _ (HKT.out _ HQS) (fun hHeld4 => ?_)
            clear hK K HQS
            try simp only [Act.put, List.setIfInBounds_toArray, List.set_cons_zero, List.set_cons_succ]
            obtain ⟨t4, ht4⟩ : ∃ X, Hid (t3.alloc (MBox 0 0 none 0 0) = X) := ⟨_, rfl⟩
            obtain ⟨ia, hia⟩ : ∃ X, Hid (t3.heap.size = X) := ⟨_, rfl⟩
            rw [ht4.out, hia.out] at HQ4
            have hy1 : t3.alloc (.cells #[.int .i64 0, .int .i64 0, .slice none 0 0] 28) = t4 := ht4.out
            have hy2 := hia.out
            rw [hy1]
            rw [hy2]
            clear hy1 hy2
            refine wpAnyH_ready (rs := [5]) (by kernel_rfl) (by simp) ?_
            refine AllReadyH.cons (o := _) rfl (fun K hK => ?_) AllReadyH.nil
            go_simp
            refine (HLU.out _ HQ4.out.bel).mono ?_
            rintro e t5 ⟨⟨tu, cu, rfl, hf⟩, hbq⟩
            have HQ5 := hid (HQ4.out.call hbq)
            have HQ5 := hid (HQ5.out.add (g := fun W => FlM W tu q cu us) (kept_fl _ _ _ _) hf)
            clear hbq
            go_wp2_with fail
            have HQS := hid (HQ5.out.sub (.cons _ (.cons _ (.cons_cons _ (.cons_cons _ .slnil)))) (.cons _ (.cons _ (.cons _ .slnil))))
            refine hK.out _ _ (HKT.out _ HQS) (fun hHeld5 => ?_)
            clear hK K HQS
            try simp only [Act.put, List.setIfInBounds_toArray, List.set_cons_zero, List.set_cons_succ]
            refine wpAnyH_ready (rs := [7]) (by kernel_rfl) (by simp) ?_
            refine AllReadyH.cons (o := _) rfl (fun K hK => ?_) AllReadyH.nil
            go_simp
            refine (HLV.out _ HQ5.out.bel).mono ?_
            rintro e t6 ⟨⟨tv, cv, rfl, hf⟩, hbq⟩
            have HQ6 := hid (HQ5.out.call hbq)
            have HQ6 := hid (HQ6.out.add (g := fun W => FlM W tv p cv vs) (kept_fl _ _ _ _) hf)
            clear hbq
            go_wp2_with fail
            have HQS := hid (HQ6.out.sub (.cons _ (.cons _ (.cons_cons _ (.cons_cons _ .slnil)))) (.cons _ (.cons _ (.cons _ (.cons _ .slnil)))))
            refine hK.out _ _ (HKT.out _ HQS) (fun hHeld6 => ?_)
            clear hK K HQS
            try simp only [Act.put, List.setIfInBounds_toArray, List.set_cons_zero, List.set_cons_succ]
            refine wpAnyH_ready (rs := [10]) (by kernel_rfl) (by simp) ?_
            refine AllReadyH.cons (o := _) rfl (fun K hK => ?_) AllReadyH.nil
            obtain ⟨z0, z1, z2⟩ := mcells_of (HQ6.out.at 0 rfl : t6.heap[ia]? = some (MBox 0 0 none 0 0))
            have fz := frzM (HQ6.out.at 0 rfl : t6.heap[ia]? = some (MBox 0 0 none 0 0))
            have HQ7 : Hid (FrQ w (StoM t6 ia rx cx ta n ca) [(ia, MBox rx cx ta n ca), (ib, MBox 0 0 none 0 0), (p1, BBox ry cy sb m kb), (p0, BBox rx cx sa n ka)] [fun W => FlM W tv p cv vs, fun W => FlM W tu q cu us, fun W => FlM W tb m cb ys, fun W => FlM W ta n ca xs]) := HQ6.out.sto 0 rfl
            obtain ⟨U7, hU7⟩ : ∃ X, Hid ((StoM t6 ia rx cx ta n ca) = X) := ⟨_, rfl⟩
            rw [hU7.out] at HQ7
            have hU7' := hU7.out
            unfold StoM at hU7'
            go_simp
            go_wp2_with fail
            have HQS := hid (HQ7.out.sub (.cons _ (.cons _ (.cons_cons _ (.cons_cons _ .slnil)))) (.cons _ (.cons _ (.cons _ (.cons _ .slnil)))))
            refine hK.out _ _ (HKT.out _ HQS) (fun hHeld7 => ?_)
            clear hK K HQS
            try simp only [Act.put, List.setIfInBounds_toArray, List.set_cons_zero, List.set_cons_succ]
            clear z0 z1 z2 fz
            refine wpAnyH_ready (rs := [11]) (by kernel_rfl) (by simp) ?_
            refine AllReadyH.cons (o := _) rfl (fun K hK => ?_) AllReadyH.nil
            obtain ⟨z0, z1, z2⟩ := mcells_of (HQ7.out.at 1 rfl : U7.heap[ib]? = some (MBox 0 0 none 0 0))
            have fz := frzM (HQ7.out.at 1 rfl : U7.heap[ib]? = some (MBox 0 0 none 0 0))
            have HQ8 : Hid (FrQ w (StoM U7 ib ry cy tb m cb) [(ia, MBox rx cx ta n ca), (ib, MBox ry cy tb m cb), (p1, BBox ry cy sb m kb), (p0, BBox rx cx sa n ka)] [fun W => FlM W tv p cv vs, fun W => FlM W tu q cu us, fun W => FlM W tb m cb ys, fun W => FlM W ta n ca xs]) := HQ7.out.sto 1 rfl
            obtain ⟨U8, hU8⟩ : ∃ X, Hid ((StoM U7 ib ry cy tb m cb) = X) := ⟨_, rfl⟩
            rw [hU8.out] at HQ8
            have hU8' := hU8.out
            unfold StoM at hU8'
            go_simp
            go_wp2_with fail
            have HQS := hid (HQ8.out.sub (.cons _ (.cons _ (.cons_cons _ (.cons_cons _ .slnil)))) (.cons _ (.cons _ (.cons _ (.cons _ .slnil)))))
            refine hK.out _ _ (HKT.out _ HQS) (fun hHeld8 => ?_)
            clear hK K HQS
            try simp only [Act.put, List.setIfInBounds_toArray, List.set_cons_zero, List.set_cons_succ]
            clear z0 z1 z2 fz
            refine take_at 12 13 (.slice tu q cu) rfl rfl (by kernel_rfl) (by kernel_rfl) (by kernel_rfl) (fun _ _ _ h => h) (Or.inl ⟨by rfl, fun w hSw => by (try dsimp only at hSw); go_simp⟩) (by assumption) ?_
            simp only [Act.put, List.setIfInBounds_toArray, List.set_cons_zero, List.set_cons_succ]
            refine take_at 13 14 (.slice tv p cv) rfl rfl (by kernel_rfl) (by kernel_rfl) (by kernel_rfl) (fun _ _ _ h => h) (Or.inl ⟨by rfl, fun w hSw => by (try dsimp only at hSw); go_simp⟩) (by assumption) ?_
            simp only [Act.put, List.setIfInBounds_toArray, List.set_cons_zero, List.set_cons_succ]
            refine wpAnyH_done (by kernel_rfl) ?_ _
            have HQ8 : Hid (FrQ w U8 [(ib, MBox ry cy tb m cb), (ia, MBox rx cx ta n ca), (p1, BBox ry cy sb m kb), (p0, BBox rx cx sa n ka)] [fun W => FlM W tv p cv vs, fun W => FlM W tu q cu us, fun W => FlM W tb m cb ys, fun W => FlM W ta n ca xs]) := HQ8.out.swap
            exact HR.out _ _ ⟨ta, ca, tb, cb, tu, cu, tv, cv, ia, ib, rfl, HQ8.out⟩
        · have HQ3 := hid (HQ2.out.alloc (MBox 0 0 none 0 0))
          go_simp
          go_wp2_with fail
          have HQS := hid (HQ3.out.sub (.cons _ (.cons _ (.cons_cons _ (.cons_cons _ .slnil)))) (.cons _ .slnil))
          refine hK.out _ _ (HKT.out _ HQS) (fun hHeld3 => ?_)
          clear hK K HQS
          try simp only [Act.put, List.setIfInBounds_toArray, List.set_cons_zero, List.set_cons_succ]
          obtain ⟨t3, ht3⟩ : ∃ X, Hid (t2.alloc (MBox 0 0 none 0 0) = X) := ⟨_, rfl⟩
          obtain ⟨ia, hia⟩ : ∃ X, Hid (t2.heap.size = X) := ⟨_, rfl⟩
          rw [ht3.out, hia.out] at HQ3
          have hy1 : t2.alloc (.cells #[.int .i64 0, .int .i64 0, .slice none 0 0] 28) = t3 := ht3.out
          have hy2 := hia.out
          rw [hy1]
          rw [hy2]
          clear hy1 hy2
          refine wpAnyH_ready (rs := [3]) (by kernel_rfl) (by simp) ?_
          refine AllReadyH.cons (o := _) rfl (fun K hK => ?_) AllReadyH.nil
          go_simp
          refine (HOY.out _ HQ3.out.bel).mono ?_
          rintro e t4 ⟨⟨tb, cb, rfl, hf⟩, hbq⟩
          have HQ4 := hid (HQ3.out.call hbq)
          have HQ4 := hid (HQ4.out.add (g := fun W => FlM W tb m cb ys) (kept_fl _ _ _ _) hf)
          clear hbq
          unfold MV
          go_wp2_with fail
          have HQS := hid (HQ4.out.sub (.cons _ (.cons _ (.cons_cons _ (.cons_cons _ .slnil)))) (.cons _ (.cons _ .slnil)))
          refine hK.out _ _ (HKT.out _ HQS) (fun hHeld4 => ?_)
          clear hK K HQS
          try simp only [Act.put, List.setIfInBounds_toArray, List.set_cons_zero, List.set_cons_succ]
          refine wpAnyH_ready (rs := [5]) (by kernel_rfl) (by simp) ?_
          refine AllReadyH.cons (o := _) rfl (fun K hK => ?_) AllReadyH.nil
          go_simp
          refine (HLU.out _ HQ4.out.bel).mono ?_
          rintro e t5 ⟨⟨tu, cu, rfl, hf⟩, hbq⟩
          have HQ5 := hid (HQ4.out.call hbq)
          have HQ5 := hid (HQ5.out.add (g := fun W => FlM W tu q cu us) (kept_fl _ _ _ _) hf)
          clear hbq
          go_wp2_with fail
          have HQS := hid (HQ5.out.sub (.cons _ (.cons _ (.cons_cons _ (.cons_cons _ .slnil)))) (.cons _ (.cons _ (.cons _ .slnil))))
          refine hK.out _ _ (HKT.out _ HQS) (fun hHeld5 => ?_)
          clear hK K HQS
          try simp only [Act.put, List.setIfInBounds_toArray, List.set_cons_zero, List.set_cons_succ]
          refine wpAnyH_ready (rs := [7]) (by kernel_rfl) (by simp) ?_
          refine AllReadyH.cons (o := _) rfl (fun K hK => ?_) AllReadyH.nil
          go_simp
          refine (HLV.out _ HQ5.out.bel).mono ?_
          rintro e t6 ⟨⟨tv, cv, rfl, hf⟩, hbq⟩
          have HQ6 := hid (HQ5.out.call hbq)
          have HQ6 := hid (HQ6.out.add (g := fun W => FlM W tv p cv vs) (kept_fl _ _ _ _) hf)
          clear hbq
          go_wp2_with fail
          have HQS := hid (HQ6.out.sub (.cons _ (.cons _ (.cons_cons _ (.cons_cons _ .slnil)))) (.cons _ (.cons _ (.cons _ (.cons _ .slnil)))))
          refine hK.out _ _ (HKT.out _ HQS) (fun hHeld6 => ?_)
          clear hK K HQS
          try simp only [Act.put, List.setIfInBounds_toArray, List.set_cons_zero, List.set_cons_succ]
          refine wpAnyH_ready (rs := [10]) (by kernel_rfl) (by simp) ?_
          refine AllReadyH.cons (o := _) rfl (fun K hK => ?_) AllReadyH.nil
          obtain ⟨z0, z1, z2⟩ := mcells_of (HQ6.out.at 0 rfl : t6.heap[ia]? = some (MBox 0 0 none 0 0))
          have fz := frzM (HQ6.out.at 0 rfl : t6.heap[ia]? = some (MBox 0 0 none 0 0))
          have HQ7 : Hid (FrQ w (StoM t6 ia rx cx ta n ca) [(ia, MBox rx cx ta n ca), (ib, MBox 0 0 none 0 0), (p1, BBox ry cy sb m kb), (p0, BBox rx cx sa n ka)] [fun W => FlM W tv p cv vs, fun W => FlM W tu q cu us, fun W => FlM W tb m cb ys, fun W => FlM W ta n ca xs]) := HQ6.out.sto 0 rfl
          obtain ⟨U7, hU7⟩ : ∃ X, Hid ((StoM t6 ia rx cx ta n ca) = X) := ⟨_, rfl⟩
          rw [hU7.out] at HQ7
          have hU7' := hU7.out
          unfold StoM at hU7'
          go_simp
          go_wp2_with fail
          have HQS := hid (HQ7.out.sub (.cons _ (.cons _ (.cons_cons _ (.cons_cons _ .slnil)))) (.cons _ (.cons _ (.cons _ (.cons _ .slnil)))))
          refine hK.out _ _ (HKT.out _ HQS) (fun hHeld7 => ?_)
          clear hK K HQS
          try simp only [Act.put, List.setIfInBounds_toArray, List.set_cons_zero, List.set_cons_succ]
          clear z0 z1 z2 fz
          refine wpAnyH_ready (rs := [11]) (by kernel_rfl) (by simp) ?_
          refine AllReadyH.cons (o := _) rfl (fun K hK => ?_) AllReadyH.nil
          obtain ⟨z0, z1, z2⟩ := mcells_of (HQ7.out.at 1 rfl : U7.heap[ib]? = some (MBox 0 0 none 0 0))
          have fz := frzM (HQ7.out.at 1 rfl : U7.heap[ib]? = some (MBox 0 0 none 0 0))
          have HQ8 : Hid (FrQ w (StoM U7 ib ry cy tb m cb) [(ia, MBox rx cx ta n ca), (ib, MBox ry cy tb m cb), (p1, BBox ry cy sb m kb), (p0, BBox rx cx sa n ka)] [fun W => FlM W tv p cv vs, fun W => FlM W tu q cu us, fun W => FlM W tb m cb ys, fun W => FlM W ta n ca xs]) := HQ7.out.sto 1 rfl
          obtain ⟨U8, hU8⟩ : ∃ X, Hid ((StoM U7 ib ry cy tb m cb) = X) := ⟨_, rfl⟩
          rw [hU8.out] at HQ8
          have hU8' := hU8.out
          unfold StoM at hU8'
          go_simp
          go_wp2_with fail
          have HQS := hid (HQ8.out.sub (.cons _ (.cons _ (.cons_cons _ (.cons_cons _ .slnil)))) (.cons _ (.cons _ (.cons _ (.cons _ .slnil)))))
          refine hK.out _ _ (HKT.out _ HQS) (fun hHeld8 => ?_)
          clear hK K HQS
          try simp only [Act.put, List.setIfInBounds_toArray, List.set_cons_zero, List.set_cons_succ]
          clear z0 z1 z2 fz
          refine take_at 12 13 (.slice tu q cu) rfl rfl (by kernel_rfl) (by kernel_rfl) (by kernel_rfl) (fun _ _ _ h => h) (Or.inl ⟨by rfl, fun w hSw => by (try dsimp only at hSw); go_simp⟩) (by assumption) ?_
          simp only [Act.put, List.setIfInBounds_toArray, List.set_cons_zero, List.set_cons_succ]
          refine take_at 13 14 (.slice tv p cv) rfl rfl (by kernel_rfl) (by kernel_rfl) (by kernel_rfl) (fun _ _ _ h => h) (Or.inl ⟨by rfl, fun w hSw => by (try dsimp only at hSw); go_simp⟩) (by assumption) ?_
          simp only [Act.put, List.setIfInBounds_toArray, List.set_cons_zero, List.set_cons_succ]
          refine wpAnyH_done (by kernel_rfl) ?_ _
          have HQ8 : Hid (FrQ w U8 [(ib, MBox ry cy tb m cb), (ia, MBox rx cx ta n ca), (p1, BBox ry cy sb m kb), (p0, BBox rx cx sa n ka)] [fun W => FlM W tv p cv vs, fun W => FlM W tu q cu us, fun W => FlM W tb m cb ys, fun W => FlM W ta n ca xs]) := HQ8.out.swap
          exact HR.out _ _ ⟨ta, ca, tb, cb, tu, cu, tv, cv, ia, ib, rfl, HQ8.out⟩
    · have HQ1 := hid (HQ0.out.alloc (MBox 0 0 none 0 0))
      go_simp
      go_wp2_with fail
      have HQS := hid (HQ1.out.sub (.cons _ (.cons_cons _ (.cons_cons _ .slnil))) .slnil)
      refine hK.out _ _ (HKT.out _ HQS) (fun hHeld1 => ?_)
      clear hK K HQS
      try simp only [Act.put, List.setIfInBounds_toArray, List.set_cons_zero, List.set_cons_succ]
      obtain ⟨t1, ht1⟩ : ∃ X, Hid (V.drew.alloc (MBox 0 0 none 0 0) = X) := ⟨_, rfl⟩
      obtain ⟨ia, hia⟩ : ∃ X, Hid (V.drew.heap.size = X) := ⟨_, rfl⟩
      rw [ht1.out, hia.out] at HQ1
      have hy1 : (V.alloc (.cells #[.int .i64 0, .int .i64 0, .slice none 0 0] 28)).drew = t1 := ht1.out
      have hy2 : V.heap.size = ia := hia.out
      rw [hy1]
      rw [hy2]
      clear hy1 hy2
      refine wpAnyH_ready (rs := [1, 9]) (by kernel_rfl) (by simp) ?_
      refine AllReadyH.cons (o := _) rfl (fun K hK => ?_) (AllReadyH.cons (o := _) rfl (fun K hK => ?_) AllReadyH.nil)
      · go_simp
        refine (HOX.out _ HQ1.out.bel).mono ?_
        rintro e t2 ⟨⟨ta, ca, rfl, hf⟩, hbq⟩
        have HQ2 := hid (HQ1.out.call hbq)
        have HQ2 := hid (HQ2.out.add (g := fun W => FlM W ta n ca xs) (kept_fl _ _ _ _) hf)
        clear hbq
        unfold MV
        go_wp2_with fail
        have HQS := hid (HQ2.out.sub (.cons _ (.cons_cons _ (.cons_cons _ .slnil))) (.cons _ .slnil))
        refine hK.out _ _ (HKT.out _ HQS) (fun hHeld2 => ?_)
        clear hK K HQS
        try simp only [Act.put, List.setIfInBounds_toArray, List.set_cons_zero, List.set_cons_succ]
        refine wpAnyH_ready (rs := [3, 9]) (by kernel_rfl) (by simp) ?_
        refine AllReadyH.cons (o := _) rfl (fun K hK => ?_) (AllReadyH.cons (o := _) rfl (fun K hK => ?_) AllReadyH.nil)
        · go_simp
          refine (HOY.out _ HQ2.out.bel).mono ?_
          rintro e t3 ⟨⟨tb, cb, rfl, hf⟩, hbq⟩
          have HQ3 := hid (HQ2.out.call hbq)
          have HQ3 := hid (HQ3.out.add (g := fun W => FlM W tb m cb ys) (kept_fl _ _ _ _) hf)
          clear hbq
          unfold MV
          go_wp2_with fail
          have HQS := hid (HQ3.out.sub (.cons _ (.cons_cons _ (.cons_cons _ .slnil))) (.cons _ (.cons _ .slnil)))
          refine hK.out _ _ (HKT.out _ HQS) (fun hHeld3 => ?_)
          clear hK K HQS
          try simp only [Act.put, List.setIfInBounds_toArray, List.set_cons_zero, List.set_cons_succ]
          refine wpAnyH_ready (rs := [5, 9]) (by kernel_rfl) (by simp) ?_
          refine AllReadyH.cons (o := _) rfl (fun K hK => ?_) (AllReadyH.cons (o := _) rfl (fun K hK => ?_) AllReadyH.nil)
          · go_simp
            refine (HLU.out _ HQ3.out.bel).mono ?_
            rintro e t4 ⟨⟨tu, cu, rfl, hf⟩, hbq⟩
            have HQ4 := hid (HQ3.out.call hbq)
            have HQ4 := hid (HQ4.out.add (g := fun W => FlM W tu q cu us) (kept_fl _ _ _ _) hf)
            clear hbq
            go_wp2_with fail
            have HQS := hid (HQ4.out.sub (.cons _ (.cons_cons _ (.cons_cons _ .slnil))) (.cons _ (.cons _ (.cons _ .slnil))))
            refine hK.out _ _ (HKT.out _ HQS) (fun hHeld4 => ?_)
            clear hK K HQS
            try simp only [Act.put, List.setIfInBounds_toArray, List.set_cons_zero, List.set_cons_succ]
            refine wpAnyH_ready (rs := [7, 9]) (by kernel_rfl) (by simp) ?_
            refine AllReadyH.cons (o := _) rfl (fun K hK => ?_) (AllReadyH.cons (o := _) rfl (fun K hK => ?_) AllReadyH.nil)
            · go_simp
              refine (HLV.out _ HQ4.out.bel).mono ?_
              rintro e t5 ⟨⟨tv, cv, rfl, hf⟩, hbq⟩
              have HQ5 := hid (HQ4.out.call hbq)
              have HQ5 := hid (HQ5.out.add (g := fun W => FlM W tv p cv vs) (kept_fl _ _ _ _) hf)
              clear hbq
              go_wp2_with fail
              have HQS := hid (HQ5.out.sub (.cons _ (.cons_cons _ (.cons_cons _ .slnil))) (.cons _ (.cons _ (.cons _ (.cons _ .slnil)))))
              refine hK.out _ _ (HKT.out _ HQS) (fun hHeld5 => ?_)
              clear hK K HQS
              try simp only [Act.put, List.setIfInBounds_toArray, List.set_cons_zero, List.set_cons_succ]
              refine wpAnyH_ready (rs := [9]) (by kernel_rfl) (by simp) ?_
              refine AllReadyH.cons (o := _) rfl (fun K hK => ?_) AllReadyH.nil
              have HQ6 := hid (HQ5.out.alloc (MBox 0 0 none 0 0))
              go_simp
              go_wp2_with fail
              have HQS := hid (HQ6.out.sub (.cons _ (.cons _ (.cons_cons _ (.cons_cons _ .slnil)))) (.cons _ (.cons _ (.cons _ (.cons _ .slnil)))))
              refine hK.out _ _ (HKT.out _ HQS) (fun hHeld6 => ?_)
              clear hK K HQS
              try simp only [Act.put, List.setIfInBounds_toArray, List.set_cons_zero, List.set_cons_succ]
              obtain ⟨t6, ht6⟩ : ∃ X, Hid (t5.alloc (MBox 0 0 none 0 0) = X) := ⟨_, rfl⟩
              obtain ⟨ib, hib⟩ : ∃ X, Hid (t5.heap.size = X) := ⟨_, rfl⟩
              rw [ht6.out, hib.out] at HQ6
              have hy1 : t5.alloc (.cells #[.int .i64 0, .int .i64 0, .slice none 0 0] 28) = t6 := ht6.out
              have hy2 := hib.out
              rw [hy1]
              rw [hy2]
              clear hy1 hy2
              refine wpAnyH_ready (rs := [10]) (by kernel_rfl) (by simp) ?_
              refine AllReadyH.cons (o := _) rfl (fun K hK => ?_) AllReadyH.nil
              obtain ⟨z0, z1, z2⟩ := mcells_of (HQ6.out.at 1 rfl : t6.heap[ia]? = some (MBox 0 0 none 0 0))
              have fz := frzM (HQ6.out.at 1 rfl : t6.heap[ia]? = some (MBox 0 0 none 0 0))
              have HQ7 : Hid (FrQ w (StoM t6 ia rx cx ta n ca) [(ib, MBox 0 0 none 0 0), (ia, MBox rx cx ta n ca), (p1, BBox ry cy sb m kb), (p0, BBox rx cx sa n ka)] [fun W => FlM W tv p cv vs, fun W => FlM W tu q cu us, fun W => FlM W tb m cb ys, fun W => FlM W ta n ca xs]) := HQ6.out.sto 1 rfl
              obtain ⟨U7, hU7⟩ : ∃ X, Hid ((StoM t6 ia rx cx ta n ca) = X) := ⟨_, rfl⟩
              rw [hU7.out] at HQ7
              have hU7' := hU7.out
              unfold StoM at hU7'
              go_simp
              go_wp2_with fail
              have HQS := hid (HQ7.out.sub (.cons _ (.cons _ (.cons_cons _ (.cons_cons _ .slnil)))) (.cons _ (.cons _ (.cons _ (.cons _ .slnil)))))
              refine hK.out _ _ (HKT.out _ HQS) (fun hHeld7 => ?_)
              clear hK K HQS
              try simp only [Act.put, List.setIfInBounds_toArray, List.set_cons_zero, List.set_cons_succ]
              clear z0 z1 z2 fz
              refine wpAnyH_ready (rs := [11]) (by kernel_rfl) (by simp) ?_
              refine AllReadyH.cons (o := _) rfl (fun K hK => ?_) AllReadyH.nil
              obtain ⟨z0, z1, z2⟩ := mcells_of (HQ7.out.at 0 rfl : U7.heap[ib]? = some (MBox 0 0 none 0 0))
              have fz := frzM (HQ7.out.at 0 rfl : U7.heap[ib]? = some (MBox 0 0 none 0 0))
              have HQ8 : Hid (FrQ w (StoM U7 ib ry cy tb m cb) [(ib, MBox ry cy tb m cb), (ia, MBox rx cx ta n ca), (p1, BBox ry cy sb m kb), (p0, BBox rx cx sa n ka)] [fun W => FlM W tv p cv vs, fun W => FlM W tu q cu us, fun W => FlM W tb m cb ys, fun W => FlM W ta n ca xs]) := HQ7.out.sto 0 rfl
              obtain ⟨U8, hU8⟩ : ∃ X, Hid ((StoM U7 ib ry cy tb m cb) = X) := ⟨_, rfl⟩
              rw [hU8.out] at HQ8
              have hU8' := hU8.out
              unfold StoM at hU8'
              go_simp
              go_wp2_with fail
              have HQS := hid (HQ8.out.sub (.cons _ (.cons _ (.cons_cons _ (.cons_cons _ .slnil)))) (.cons _ (.cons _ (.cons _ (.cons _ .slnil)))))
              refine hK.out _ _ (HKT.out _ HQS) (fun hHeld8 => ?_)
              clear hK K HQS
              try simp only [Act.put, List.setIfInBounds_toArray, List.set_cons_zero, List.set_cons_succ]
              clear z0 z1 z2 fz
              refine take_at 12 13 (.slice tu q cu) rfl rfl (by kernel_rfl) (by kernel_rfl) (by kernel_rfl) (fun _ _ _ h => h) (Or.inl ⟨by rfl, fun w hSw => by (try dsimp only at hSw); go_simp⟩) (by assumption) ?_
              simp only [Act.put, List.setIfInBounds_toArray, List.set_cons_zero, List.set_cons_succ]
              refine take_at 13 14 (.slice tv p cv) rfl rfl (by kernel_rfl) (by kernel_rfl) (by kernel_rfl) (fun _ _ _ h => h) (Or.inl ⟨by rfl, fun w hSw => by (try dsimp only at hSw); go_simp⟩) (by assumption) ?_
              simp only [Act.put, List.setIfInBounds_toArray, List.set_cons_zero, List.set_cons_succ]
              refine wpAnyH_done (by kernel_rfl) ?_ _
              exact HR.out _ _ ⟨ta, ca, tb, cb, tu, cu, tv, cv, ia, ib, rfl, HQ8.out⟩
            · have HQ5 := hid (HQ4.out.alloc (MBox 0 0 none 0 0))
              go_simp
              go_wp2_with fail
              have HQS := hid (HQ5.out.sub (.cons _ (.cons _ (.cons_cons _ (.cons_cons _ .slnil)))) (.cons _ (.cons _ (.cons _ .slnil))))
              refine hK.out _ _ (HKT.out _ HQS) (fun hHeld5 => ?_)
              clear hK K HQS
              try simp only [Act.put, List.setIfInBounds_toArray, List.set_cons_zero, List.set_cons_succ]
              obtain ⟨t5, ht5⟩ : ∃ X, Hid (t4.alloc (MBox 0 0 none 0 0) = X) := ⟨_, rfl⟩
              obtain ⟨ib, hib⟩ : ∃ X, Hid (t4.heap.size = X) := ⟨_, rfl⟩
              rw [ht5.out, hib.out] at HQ5
              have hy1 : t4.alloc (.cells #[.int .i64 0, .int .i64 0, .slice none 0 0] 28) = t5 := ht5.out
              have hy2 := hib.out
              rw [hy1]
              rw [hy2]
              clear hy1 hy2
              refine wpAnyH_ready (rs := [7]) (by kernel_rfl) (by simp) ?_
              refine AllReadyH.cons (o := _) rfl (fun K hK => ?_) AllReadyH.nil
              go_simp
              refine (HLV.out _ HQ5.out.bel).mono ?_
              rintro e t6 ⟨⟨tv, cv, rfl, hf⟩, hbq⟩
              have HQ6 := hid (HQ5.out.call hbq)
              have HQ6 := hid (HQ6.out.add (g := fun W => FlM W tv p cv vs) (kept_fl _ _ _ _) hf)
              clear hbq
              go_wp2_with fail
              have HQS := hid (HQ6.out.sub (.cons _ (.cons _ (.cons_cons _ (.cons_cons _ .slnil)))) (.cons _ (.cons _ (.cons _ (.cons _ .slnil)))))
              refine hK.out _ _ (HKT.out _ HQS) (fun hHeld6 => ?_)
              clear hK K HQS
              try simp only [Act.put, List.setIfInBounds_toArray, List.set_cons_zero, List.set_cons_succ]
              refine wpAnyH_ready (rs := [10]) (by kernel_rfl) (by simp) ?_
              refine AllReadyH.cons (o := _) rfl (fun K hK => ?_) AllReadyH.nil
              obtain ⟨z0, z1, z2⟩ := mcells_of (HQ6.out.at 1 rfl : t6.heap[ia]? = some (MBox 0 0 none 0 0))
              have fz := frzM (HQ6.out.at 1 rfl : t6.heap[ia]? = some (MBox 0 0 none 0 0))
              have HQ7 : Hid (FrQ w (StoM t6 ia rx cx ta n ca) [(ib, MBox 0 0 none 0 0), (ia, MBox rx cx ta n ca), (p1, BBox ry cy sb m kb), (p0, BBox rx cx sa n ka)] [fun W => FlM W tv p cv vs, fun W => FlM W tu q cu us, fun W => FlM W tb m cb ys, fun W => FlM W ta n ca xs]) := HQ6.out.sto 1 rfl
              obtain ⟨U7, hU7⟩ : ∃ X, Hid ((StoM t6 ia rx cx ta n ca) = X) := ⟨_, rfl⟩
              rw [hU7.out] at HQ7
              have hU7' := hU7.out
              unfold StoM at hU7'
              go_simp
              go_wp2_with fail
              have HQS := hid (HQ7.out.sub (.cons _ (.cons _ (.cons_cons _ (.cons_cons _ .slnil)))) (.cons _ (.cons _ (.cons _ (.cons _ .slnil)))))
              refine hK.out _ _ (HKT.out _ HQS) (fun hHeld7 => ?_)
              clear hK K HQS
              try simp only [Act.put, List.setIfInBounds_toArray, List.set_cons_zero, List.set_cons_succ]
              clear z0 z1 z2 fz
              refine wpAnyH_ready (rs := [11]) (by kernel_rfl) (by simp) ?_
              refine AllReadyH.cons (o := _) rfl (fun K hK => ?_) AllReadyH.nil
              obtain ⟨z0, z1, z2⟩ := mcells_of (HQ7.out.at 0 rfl : U7.heap[ib]? = some (MBox 0 0 none 0 0))
              have fz := frzM (HQ7.out.at 0 rfl : U7.heap[ib]? = some (MBox 0 0 none 0 0))
              have HQ8 : Hid (FrQ w (StoM U7 ib ry cy tb m cb) [(ib, MBox ry cy tb m cb), (ia, MBox rx cx ta n ca), (p1, BBox ry cy sb m kb), (p0, BBox rx cx sa n ka)] [fun W => FlM W tv p cv vs, fun W => FlM W tu q cu us, fun W => FlM W tb m cb ys, fun W => FlM W ta n ca xs]) := HQ7.out.sto 0 rfl
              obtain ⟨U8, hU8⟩ : ∃ X, Hid ((StoM U7 ib ry cy tb m cb) = X) := ⟨_, rfl⟩
              rw [hU8.out] at HQ8
              have hU8' := hU8.out
              unfold StoM at hU8'
              go_simp
              go_wp2_with fail
              have HQS := hid (HQ8.out.sub (.cons _ (.cons _ (.cons_cons _ (.cons_cons _ .slnil)))) (.cons _ (.cons _ (.cons _ (.cons _ .slnil)))))
              refine hK.out _ _ (HKT.out _ HQS) (fun hHeld8 => ?_)
              clear hK K HQS
              try simp only [Act.put, List.setIfInBounds_toArray, List.set_cons_zero, List.set_cons_succ]
              clear z0 z1 z2 fz
              refine take_at 12 13 (.slice tu q cu) rfl rfl (by kernel_rfl) (by kernel_rfl) (by kernel_rfl) (fun _ _ _ h => h) (Or.inl ⟨by rfl, fun w hSw => by (try dsimp only at hSw); go_simp⟩) (by assumption) ?_
              simp only [Act.put, List.setIfInBounds_toArray, List.set_cons_zero, List.set_cons_succ]
              refine take_at 13 14 (.slice tv p cv) rfl rfl (by kernel_rfl) (by kernel_rfl) (by kernel_rfl) (fun _ _ _ h => h) (Or.inl ⟨by rfl, fun w hSw => by (try dsimp only at hSw); go_simp⟩) (by assumption) ?_
              simp only [Act.put, List.setIfInBounds_toArray, List.set_cons_zero, List.set_cons_succ]
              refine wpAnyH_done (by kernel_rfl) ?_ _
              exact HR.out _ _ ⟨ta, ca, tb, cb, tu, cu, tv, cv, ia, ib, rfl, HQ8.out⟩
          · have HQ4 := hid (HQ3.out.alloc (MBox 0 0 none 0 0))
            go_simp
            go_wp2_with fail
            have HQS := hid (HQ4.out.sub (.cons _ (.cons _ (.cons_cons _ (.cons_cons _ .slnil)))) (.cons _ (.cons _ .slnil)))
            refine hK.out _ _ (HKT.out _ HQS) (fun hHeld4 => ?_)
            clear hK K HQS
            try simp only [Act.put, List.setIfInBounds_toArray, List.set_cons_zero, List.set_cons_succ]
            obtain ⟨t4, ht4⟩ : ∃ X, Hid (t3.alloc (MBox 0 0 none 0 0) = X) := ⟨_, rfl⟩
            obtain ⟨ib, hib⟩ : ∃ X, Hid (t3.heap.size = X) := ⟨_, rfl⟩
            rw [ht4.out, hib.out] at HQ4
            have hy1 : t3.alloc (.cells #[.int .i64 0, .int .i64 0, .slice none 0 0] 28) = t4 := ht4.out
            have hy2 := hib.out
            rw [hy1]
            rw [hy2]
            clear hy1 hy2
            refine wpAnyH_ready (rs := [5]) (by kernel_rfl) (by simp) ?_
            refine AllReadyH.cons (o := _) rfl (fun K hK => ?_) AllReadyH.nil
            go_simp
            refine (HLU.out _ HQ4.out.bel).mono ?_
            rintro e t5 ⟨⟨tu, cu, rfl, hf⟩, hbq⟩
            have HQ5 := hid (HQ4.out.call hbq)
            have HQ5 := hid (HQ5.out.add (g := fun W => FlM W tu q cu us) (kept_fl _ _ _ _) hf)
            clear hbq
            go_wp2_with fail
            have HQS := hid (HQ5.out.sub (.cons _ (.cons _ (.cons_cons _ (.cons_cons _ .slnil)))) (.cons _ (.cons _ (.cons _ .slnil))))
            refine hK.out _ _ (HKT.out _ HQS) (fun hHeld5 => ?_)
            clear hK K HQS
            try simp only [Act.put, List.setIfInBounds_toArray, List.set_cons_zero, List.set_cons_succ]
            refine wpAnyH_ready (rs := [7]) (by kernel_rfl) (by simp) ?_
            refine AllReadyH.cons (o := _) rfl (fun K hK => ?_) AllReadyH.nil
            go_simp
            refine (HLV.out _ HQ5.out.bel).mono ?_
            rintro e t6 ⟨⟨tv, cv, rfl, hf⟩, hbq⟩
            have HQ6 := hid (HQ5.out.call hbq)
            have HQ6 := hid (HQ6.out.add (g := fun W => FlM W tv p cv vs) (kept_fl _ _ _ _) hf)
            clear hbq
            go_wp2_with fail
            have HQS := hid (HQ6.out.sub (.cons _ (.cons _ (.cons_cons _ (.cons_cons _ .slnil)))) (.cons _ (.cons _ (.cons _ (.cons _ .slnil)))))
            refine hK.out _ _ (HKT.out _ HQS) (fun hHeld6 => ?_)
            clear hK K HQS
            try simp only [Act.put, List.setIfInBounds_toArray, List.set_cons_zero, List.set_cons_succ]
            refine wpAnyH_ready (rs := [10]) (by kernel_rfl) (by simp) ?_
            refine AllReadyH.cons (o := _) rfl (fun K hK => ?_) AllReadyH.nil
            obtain ⟨z0, z1, z2⟩ := mcells_of (HQ6.out.at 1 rfl : t6.heap[ia]? = some (MBox 0 0 none 0 0))
            have fz := frzM (HQ6.out.at 1 rfl : t6.heap[ia]? = some (MBox 0 0 none 0 0))
            have HQ7 : Hid (FrQ w (StoM t6 ia rx cx ta n ca) [(ib, MBox 0 0 none 0 0), (ia, MBox rx cx ta n ca), (p1, BBox ry cy sb m kb), (p0, BBox rx cx sa n ka)] [fun W => FlM W tv p cv vs, fun W => FlM W tu q cu us, fun W => FlM W tb m cb ys, fun W => FlM W ta n ca xs]) := HQ6.out.sto 1 rfl
            obtain ⟨U7, hU7⟩ : ∃ X, Hid ((StoM t6 ia rx cx ta n ca) = X) := ⟨_, rfl⟩
            rw [hU7.out] at HQ7
            have hU7' := hU7.out
            unfold StoM at hU7'
            go_simp
            go_wp2_with fail
            have HQS := hid (HQ7.out.sub (.cons _ (.cons _ (.cons_cons _ (.cons_cons _ .slnil)))) (.cons _ (.cons _ (.cons _ (.cons _ .slnil)))))
            refine hK.out _ _ (HKT.out _ HQS) (fun hHeld7 => ?_)
            clear hK K HQS
            try simp only [Act.put, List.setIfInBounds_toArray, List.set_cons_zero, List.set_cons_succ]
            clear z0 z1 z2 fz
            refine wpAnyH_ready (rs := [11]) (by kernel_rfl) (by simp) ?_
            refine AllReadyH.cons (o := _) rfl (fun K hK => ?_) AllReadyH.nil
            obtain ⟨z0, z1, z2⟩ := mcells_of (HQ7.out.at 0 rfl : U7.heap[ib]? = some (MBox 0 0 none 0 0))
            have fz := frzM (HQ7.out.at 0 rfl : U7.heap[ib]? = some (MBox 0 0 none 0 0))
            have HQ8 : Hid (FrQ w (StoM U7 ib ry cy tb m cb) [(ib, MBox ry cy tb m cb), (ia, MBox rx cx ta n ca), (p1, BBox ry cy sb m kb), (p0, BBox rx cx sa n ka)] [fun W => FlM W tv p cv vs, fun W => FlM W tu q cu us, fun W => FlM W tb m cb ys, fun W => FlM W ta n ca xs]) := HQ7.out.sto 0 rfl
            obtain ⟨U8, hU8⟩ : ∃ X, Hid ((StoM U7 ib ry cy tb m cb) = X) := ⟨_, rfl⟩
            rw [hU8.out] at HQ8
            have hU8' := hU8.out
            unfold StoM at hU8'
            go_simp
            go_wp2_with fail
            have HQS := hid (HQ8.out.sub (.cons _ (.cons _ (.cons_cons _ (.cons_cons _ .slnil)))) (.cons _ (.cons _ (.cons _ (.cons _ .slnil)))))
            refine hK.out _ _ (HKT.out _ HQS) (fun hHeld8 => ?_)
            clear hK K HQS
            try simp only [Act.put, List.setIfInBounds_toArray, List.set_cons_zero, List.set_cons_succ]
            clear z0 z1 z2 fz
            refine take_at 12 13 (.slice tu q cu) rfl rfl (by kernel_rfl) (by kernel_rfl) (by kernel_rfl) (fun _ _ _ h => h) (Or.inl ⟨by rfl, fun w hSw => by (try dsimp only at hSw); go_simp⟩) (by assumption) ?_
            simp only [Act.put, List.setIfInBounds_toArray, List.set_cons_zero, List.set_cons_succ]
            refine take_at 13 14 (.slice tv p cv) rfl rfl (by kernel_rfl) (by kernel_rfl) (by kernel_rfl) (fun _ _ _ h => h) (Or.inl ⟨by rfl, fun w hSw => by (try dsimp only at hSw); go_simp⟩) (by assumption) ?_
            simp only [Act.put, List.setIfInBounds_toArray, List.set_cons_zero, List.set_cons_succ]
            refine wpAnyH_done (by kernel_rfl) ?_ _
            exact HR.out _ _ ⟨ta, ca, tb, cb, tu, cu, tv, cv, ia, ib, rfl, HQ8.out⟩
        · have HQ3 := hid (HQ2.out.alloc (MBox 0 0 none 0 0))
          go_simp
          go_wp2_with fail
          have HQS := hid (HQ3.out.sub (.cons _ (.cons _ (.cons_cons _ (.cons_cons _ .slnil)))) (.cons _ .slnil))
          refine hK.out _ _ (HKT.out _ HQS) (fun hHeld3 => ?_)
          clear hK K HQS
          try simp only [Act.put, List.setIfInBounds_toArray, List.set_cons_zero, List.set_cons_succ]
          obtain ⟨t3, ht3⟩ : ∃ X, Hid (t2.alloc (MBox 0 0 none 0 0) = X) := ⟨_, rfl⟩
          obtain ⟨ib, hib⟩ : ∃ X, Hid (t2.heap.size = X) := ⟨_, rfl⟩
          rw [ht3.out, hib.out] at HQ3
          have hy1 : t2.alloc (.cells #[.int .i64 0, .int .i64 0, .slice none 0 0] 28) = t3 := ht3.out
          have hy2 := hib.out
          rw [hy1]
          rw [hy2]
          clear hy1 hy2
          refine wpAnyH_ready (rs := [3]) (by kernel_rfl) (by simp) ?_
          refine AllReadyH.cons (o := _) rfl (fun K hK => ?_) AllReadyH.nil
          go_simp
          refine (HOY.out _ HQ3.out.bel).mono ?_
          rintro e t4 ⟨⟨tb, cb, rfl, hf⟩, hbq⟩
          have HQ4 := hid (HQ3.out.call hbq)
          have HQ4 := hid (HQ4.out.add (g := fun W => FlM W tb m cb ys) (kept_fl _ _ _ _) hf)
          clear hbq
          unfold MV
          go_wp2_with fail
          have HQS := hid (HQ4.out.sub (.cons _ (.cons _ (.cons_cons _ (.cons_cons _ .slnil)))) (.cons _ (.cons _ .slnil)))
          refine hK.out _ _ (HKT.out _ HQS) (fun hHeld4 => ?_)
          clear hK K HQS
          try simp only [Act.put, List.setIfInBounds_toArray, List.set_cons_zero, List.set_cons_succ]
          refine wpAnyH_ready (rs := [5]) (by kernel_rfl) (by simp) ?_
          refine AllReadyH.cons (o := _) rfl (fun K hK => ?_) AllReadyH.nil
          go_simp
          refine (HLU.out _ HQ4.out.bel).mono ?_
          rintro e t5 ⟨⟨tu, cu, rfl, hf⟩, hbq⟩
          have HQ5 := hid (HQ4.out.call hbq)
          have HQ5 := hid (HQ5.out.add (g := fun W => FlM W tu q cu us) (kept_fl _ _ _ _) hf)
          clear hbq
          go_wp2_with fail
          have HQS := hid (HQ5.out.sub (.cons _ (.cons _ (.cons_cons _ (.cons_cons _ .slnil)))) (.cons _ (.cons _ (.cons _ .slnil))))
          refine hK.out _ _ (HKT.out _ HQS) (fun hHeld5 => ?_)
          clear hK K HQS
          try simp only [Act.put, List.setIfInBounds_toArray, List.set_cons_zero, List.set_cons_succ]
          refine wpAnyH_ready (rs := [7]) (by kernel_rfl) (by simp) ?_
          refine AllReadyH.cons (o := _) rfl (fun K hK => ?_) AllReadyH.nil
          go_simp
          refine (HLV.out _ HQ5.out.bel).mono ?_
          rintro e t6 ⟨⟨tv, cv, rfl, hf⟩, hbq⟩
          have HQ6 := hid (HQ5.out.call hbq)
          have HQ6 := hid (HQ6.out.add (g := fun W => FlM W tv p cv vs) (kept_fl _ _ _ _) hf)
          clear hbq
          go_wp2_with fail
          have HQS := hid (HQ6.out.sub (.cons _ (.cons _ (.cons_cons _ (.cons_cons _ .slnil)))) (.cons _ (.cons _ (.cons _ (.cons _ .slnil)))))
          refine hK.out _ _ (HKT.out _ HQS) (fun hHeld6 => ?_)
          clear hK K HQS
          try simp only [Act.put, List.setIfInBounds_toArray, List.set_cons_zero, List.set_cons_succ]
          refine wpAnyH_ready (rs := [10]) (by kernel_rfl) (by simp) ?_
          refine AllReadyH.cons (o := _) rfl (fun K hK => ?_) AllReadyH.nil
          obtain ⟨z0, z1, z2⟩ := mcells_of (HQ6.out.at 1 rfl : t6.heap[ia]? = some (MBox 0 0 none 0 0))
          have fz := frzM (HQ6.out.at 1 rfl : t6.heap[ia]? = some (MBox 0 0 none 0 0))
          have HQ7 : Hid (FrQ w (StoM t6 ia rx cx ta n ca) [(ib, MBox 0 0 none 0 0), (ia, MBox rx cx ta n ca), (p1, BBox ry cy sb m kb), (p0, BBox rx cx sa n ka)] [fun W => FlM W tv p cv vs, fun W => FlM W tu q cu us, fun W => FlM W tb m cb ys, fun W => FlM W ta n ca xs]) := HQ6.out.sto 1 rfl
          obtain ⟨U7, hU7⟩ : ∃ X, Hid ((StoM t6 ia rx cx ta n ca) = X) := ⟨_, rfl⟩
          rw [hU7.out] at HQ7
          have hU7' := hU7.out
          unfold StoM at hU7'
          go_simp
          go_wp2_with fail
          have HQS := hid (HQ7.out.sub (.cons _ (.cons _ (.cons_cons _ (.cons_cons _ .slnil)))) (.cons _ (.cons _ (.cons _ (.cons _ .slnil)))))
          refine hK.out _ _ (HKT.out _ HQS) (fun hHeld7 => ?_)
          clear hK K HQS
          try simp only [Act.put, List.setIfInBounds_toArray, List.set_cons_zero, List.set_cons_succ]
          clear z0 z1 z2 fz
          refine wpAnyH_ready (rs := [11]) (by kernel_rfl) (by simp) ?_
          refine AllReadyH.cons (o := _) rfl (fun K hK => ?_) AllReadyH.nil
          obtain ⟨z0, z1, z2⟩ := mcells_of (HQ7.out.at 0 rfl : U7.heap[ib]? = some (MBox 0 0 none 0 0))
          have fz := frzM (HQ7.out.at 0 rfl : U7.heap[ib]? = some (MBox 0 0 none 0 0))
          have HQ8 : Hid (FrQ w (StoM U7 ib ry cy tb m cb) [(ib, MBox ry cy tb m cb), (ia, MBox rx cx ta n ca), (p1, BBox ry cy sb m kb), (p0, BBox rx cx sa n ka)] [fun W => FlM W tv p cv vs, fun W => FlM W tu q cu us, fun W => FlM W tb m cb ys, fun W => FlM W ta n ca xs]) := HQ7.out.sto 0 rfl
          obtain ⟨U8, hU8⟩ : ∃ X, Hid ((StoM U7 ib ry cy tb m cb) = X) := ⟨_, rfl⟩
          rw [hU8.out] at HQ8
          have hU8' := hU8.out
          unfold StoM at hU8'
          go_simp
          go_wp2_with fail
          have HQS := hid (HQ8.out.sub (.cons _ (.cons _ (.cons_cons _ (.cons_cons _ .slnil)))) (.cons _ (.cons _ (.cons _ (.cons _ .slnil)))))
          refine hK.out _ _ (HKT.out _ HQS) (fun hHeld8 => ?_)
          clear hK K HQS
          try simp only [Act.put, List.setIfInBounds_toArray, List.set_cons_zero, List.set_cons_succ]
          clear z0 z1 z2 fz
          refine take_at 12 13 (.slice tu q cu) rfl rfl (by kernel_rfl) (by kernel_rfl) (by kernel_rfl) (fun _ _ _ h => h) (Or.inl ⟨by rfl, fun w hSw => by (try dsimp only at hSw); go_simp⟩) (by assumption) ?_
          simp only [Act.put, List.setIfInBounds_toArray, List.set_cons_zero, List.set_cons_succ]
          refine take_at 13 14 (.slice tv p cv) rfl rfl (by kernel_rfl) (by kernel_rfl) (by kernel_rfl) (fun _ _ _ h => h) (Or.inl ⟨by rfl, fun w hSw => by (try dsimp only at hSw); go_simp⟩) (by assumption) ?_
          simp only [Act.put, List.setIfInBounds_toArray, List.set_cons_zero, List.set_cons_succ]
          refine wpAnyH_done (by kernel_rfl) ?_ _
          exact HR.out _ _ ⟨ta, ca, tb, cb, tu, cu, tv, cv, ia, ib, rfl, HQ8.out⟩
      · have HQ2 := hid (HQ1.out.alloc (MBox 0 0 none 0 0))
        go_simp
        go_wp2_with fail
        have HQS := hid (HQ2.out.sub (.cons _ (.cons _ (.cons_cons _ (.cons_cons _ .slnil)))) .slnil)
        refine hK.out _ _ (HKT.out _ HQS) (fun hHeld2 => ?_)
        clear hK K HQS
        try simp only [Act.put, List.setIfInBounds_toArray, List.set_cons_zero, List.set_cons_succ]
        obtain ⟨t2, ht2⟩ : ∃ X, Hid (t1.alloc (MBox 0 0 none 0 0) = X) := ⟨_, rfl⟩
        obtain ⟨ib, hib⟩ : ∃ X, Hid (t1.heap.size = X) := ⟨_, rfl⟩
        rw [ht2.out, hib.out] at HQ2
        have hy1 : t1.alloc (.cells #[.int .i64 0, .int .i64 0, .slice none 0 0] 28) = t2 := ht2.out
        have hy2 := hib.out
        rw [hy1]
        rw [hy2]
        clear hy1 hy2
        refine wpAnyH_ready (rs := [1]) (by kernel_rfl) (by simp) ?_
        refine AllReadyH.cons (o := _) rfl (fun K hK => ?_) AllReadyH.nil
        go_simp
        refine (HOX.out _ HQ2.out.bel).mono ?_
        rintro e t3 ⟨⟨ta, ca, rfl, hf⟩, hbq⟩
        have HQ3 := hid (HQ2.out.call hbq)
        have HQ3 := hid (HQ3.out.add (g := fun W => FlM W ta n ca xs) (kept_fl _ _ _ _) hf)
        clear hbq
        unfold MV
        go_wp2_with fail
        have HQS := hid (HQ3.out.sub (.cons _ (.cons _ (.cons_cons _ (.cons_cons _ .slnil)))) (.cons _ .slnil))
        refine hK.out _ _ (HKT.out _ HQS) (fun hHeld3 => ?_)
        clear hK K HQS
        try simp only [Act.put, List.setIfInBounds_toArray, List.set_cons_zero, List.set_cons_succ]
        refine wpAnyH_ready (rs := [3]) (by kernel_rfl) (by simp) ?_
        refine AllReadyH.cons (o := _) rfl (fun K hK => ?_) AllReadyH.nil
        go_simp
        refine (HOY.out _ HQ3.out.bel).mono ?_
        rintro e t4 ⟨⟨tb, cb, rfl, hf⟩, hbq⟩
        have HQ4 := hid (HQ3.out.call hbq)
        have HQ4 := hid (HQ4.out.add (g := fun W => FlM W tb m cb ys) (kept_fl _ _ _ _) hf)
        clear hbq
        unfold MV
        go_wp2_with fail
        have HQS := hid (HQ4.out.sub (.cons _ (.cons _ (.cons_cons _ (.cons_cons _ .slnil)))) (.cons _ (.cons _ .slnil)))
        refine hK.out _ _ (HKT.out _ HQS) (fun hHeld4 => ?_)
        clear hK K HQS
        try simp only [Act.put, List.setIfInBounds_toArray, List.set_cons_zero, List.set_cons_succ]
        refine wpAnyH_ready (rs := [5]) (by kernel_rfl) (by simp) ?_
        refine AllReadyH.cons (o := _) rfl (fun K hK => ?_) AllReadyH.nil
        go_simp
        refine (HLU.out _ HQ4.out.bel).mono ?_
        rintro e t5 ⟨⟨tu, cu, rfl, hf⟩, hbq⟩
        have HQ5 := hid (HQ4.out.call hbq)
        have HQ5 := hid (HQ5.out.add (g := fun W => FlM W tu q cu us) (kept_fl _ _ _ _) hf)
        clear hbq
        go_wp2_with fail
        have HQS := hid (HQ5.out.sub (.cons _ (.cons _ (.cons_cons _ (.cons_cons _ .slnil)))) (.cons _ (.cons _ (.cons _ .slnil))))
        refine hK.out _ _ (HKT.out _ HQS) (fun hHeld5 => ?_)
        clear hK K HQS
        try simp only [Act.put, List.setIfInBounds_toArray, List.set_cons_zero, List.set_cons_succ]
        refine wpAnyH_ready (rs := [7]) (by kernel_rfl) (by simp) ?_
        refine AllReadyH.cons (o := _) rfl (fun K hK => ?_) AllReadyH.nil
        go_simp
        refine (HLV.out _ HQ5.out.bel).mono ?_
        rintro e t6 ⟨⟨tv, cv, rfl, hf⟩, hbq⟩
        have HQ6 := hid (HQ5.out.call hbq)
        have HQ6 := hid (HQ6.out.add (g := fun W => FlM W tv p cv vs) (kept_fl _ _ _ _) hf)
        clear hbq
        go_wp2_with fail
        have HQS := hid (HQ6.out.sub (.cons _ (.cons _ (.cons_cons _ (.cons_cons _ .slnil)))) (.cons _ (.cons _ (.cons _ (.cons _ .slnil)))))
        refine hK.out _ _ (HKT.out _ HQS) (fun hHeld6 => ?_)
        clear hK K HQS
        try simp only [Act.put, List.setIfInBounds_toArray, List.set_cons_zero, List.set_cons_succ]
        refine wpAnyH_ready (rs := [10]) (by kernel_rfl) (by simp) ?_
        refine AllReadyH.cons (o := _) rfl (fun K hK => ?_) AllReadyH.nil
        obtain ⟨z0, z1, z2⟩ := mcells_of (HQ6.out.at 1 rfl : t6.heap[ia]? = some (MBox 0 0 none 0 0))
        have fz := frzM (HQ6.out.at 1 rfl : t6.heap[ia]? = some (MBox 0 0 none 0 0))
        have HQ7 : Hid (FrQ w (StoM t6 ia rx cx ta n ca) [(ib, MBox 0 0 none 0 0), (ia, MBox rx cx ta n ca), (p1, BBox ry cy sb m kb), (p0, BBox rx cx sa n ka)] [fun W => FlM W tv p cv vs, fun W => FlM W tu q cu us, fun W => FlM W tb m cb ys, fun W => FlM W ta n ca xs]) := HQ6.out.sto 1 rfl
        obtain ⟨U7, hU7⟩ : ∃ X, Hid ((StoM t6 ia rx cx ta n ca) = X) := ⟨_, rfl⟩
        rw [hU7.out] at HQ7
        have hU7' := hU7.out
        unfold StoM at hU7'
        go_simp
        go_wp2_with fail
        have HQS := hid (HQ7.out.sub (.cons _ (.cons _ (.cons_cons _ (.cons_cons _ .slnil)))) (.cons _ (.cons _ (.cons _ (.cons _ .slnil)))))
        refine hK.out _ _ (HKT.out _ HQS) (fun hHeld7 => ?_)
        clear hK K HQS
        try simp only [Act.put, List.setIfInBounds_toArray, List.set_cons_zero, List.set_cons_succ]
        clear z0 z1 z2 fz
        refine wpAnyH_ready (rs := [11]) (by kernel_rfl) (by simp) ?_
        refine AllReadyH.cons (o := _) rfl (fun K hK => ?_) AllReadyH.nil
        obtain ⟨z0, z1, z2⟩ := mcells_of (HQ7.out.at 0 rfl : U7.heap[ib]? = some (MBox 0 0 none 0 0))
        have fz := frzM (HQ7.out.at 0 rfl : U7.heap[ib]? = some (MBox 0 0 none 0 0))
        have HQ8 : Hid (FrQ w (StoM U7 ib ry cy tb m cb) [(ib, MBox ry cy tb m cb), (ia, MBox rx cx ta n ca), (p1, BBox ry cy sb m kb), (p0, BBox rx cx sa n ka)] [fun W => FlM W tv p cv vs, fun W => FlM W tu q cu us, fun W => FlM W tb m cb ys, fun W => FlM W ta n ca xs]) := HQ7.out.sto 0 rfl
        obtain ⟨U8, hU8⟩ : ∃ X, Hid ((StoM U7 ib ry cy tb m cb) = X) := ⟨_, rfl⟩
        rw [hU8.out] at HQ8
        have hU8' := hU8.out
        unfold StoM at hU8'
        go_simp
        go_wp2_with fail
        have HQS := hid (HQ8.out.sub (.cons _ (.cons _ (.cons_cons _ (.cons_cons _ .slnil)))) (.cons _ (.cons _ (.cons _ (.cons _ .slnil)))))
        refine hK.out _ _ (HKT.out _ HQS) (fun hHeld8 => ?_)
        clear hK K HQS
        try simp only [Act.put, List.setIfInBounds_toArray, List.set_cons_zero, List.set_cons_succ]
        clear z0 z1 z2 fz
        refine take_at 12 13 (.slice tu q cu) rfl rfl (by kernel_rfl) (by kernel_rfl) (by kernel_rfl) (fun _ _ _ h => h) (Or.inl ⟨by rfl, fun w hSw => by (try dsimp only at hSw); go_simp⟩) (by assumption) ?_
        simp only [Act.put, List.setIfInBounds_toArray, List.set_cons_zero, List.set_cons_succ]
        refine take_at 13 14 (.slice tv p cv) rfl rfl (by kernel_rfl) (by kernel_rfl) (by kernel_rfl) (fun _ _ _ h => h) (Or.inl ⟨by rfl, fun w hSw => by (try dsimp only at hSw); go_simp⟩) (by assumption) ?_
        simp only [Act.put, List.setIfInBounds_toArray, List.set_cons_zero, List.set_cons_succ]
        refine wpAnyH_done (by kernel_rfl) ?_ _
        exact HR.out _ _ ⟨ta, ca, tb, cb, tu, cu, tv, cv, ia, ib, rfl, HQ8.out⟩
    · have HQ1 := hid (HQ0.out.alloc (MBox 0 0 none 0 0))
      go_simp
      go_wp2_with fail
      have HQS := hid (HQ1.out.sub (.cons _ (.cons_cons _ (.cons_cons _ .slnil))) .slnil)
      refine hK.out _ _ (HKT.out _ HQS) (fun hHeld1 => ?_)
      clear hK K HQS
      try simp only [Act.put, List.setIfInBounds_toArray, List.set_cons_zero, List.set_cons_succ]
      obtain ⟨t1, ht1⟩ : ∃ X, Hid (V.drew.alloc (MBox 0 0 none 0 0) = X) := ⟨_, rfl⟩
      obtain ⟨ib, hib⟩ : ∃ X, Hid (V.drew.heap.size = X) := ⟨_, rfl⟩
      rw [ht1.out, hib.out] at HQ1
      have hy1 : (V.alloc (.cells #[.int .i64 0, .int .i64 0, .slice none 0 0] 28)).drew = t1 := ht1.out
      have hy2 : V.heap.size = ib := hib.out
      rw [hy1]
      rw [hy2]
      clear hy1 hy2
      refine wpAnyH_ready (rs := [1, 8]) (by kernel_rfl) (by simp) ?_
      refine AllReadyH.cons (o := _) rfl (fun K hK => ?_) (AllReadyH.cons (o := _) rfl (fun K hK => ?_) AllReadyH.nil)
      · go_simp
        refine (HOX.out _ HQ1.out.bel).mono ?_
        rintro e t2 ⟨⟨ta, ca, rfl, hf⟩, hbq⟩
        have HQ2 := hid (HQ1.out.call hbq)
        have HQ2 := hid (HQ2.out.add (g := fun W => FlM W ta n ca xs) (kept_fl _ _ _ _) hf)
        clear hbq
        unfold MV
        go_wp2_with fail
        have HQS := hid (HQ2.out.sub (.cons _ (.cons_cons _ (.cons_cons _ .slnil))) (.cons _ .slnil))
        refine hK.out _ _ (HKT.out _ HQS) (fun hHeld2 => ?_)
        clear hK K HQS
        try simp only [Act.put, List.setIfInBounds_toArray, List.set_cons_zero, List.set_cons_succ]
        refine wpAnyH_ready (rs := [3, 8]) (by kernel_rfl) (by simp) ?_
        refine AllReadyH.cons (o := _) rfl (fun K hK => ?_) (AllReadyH.cons (o := _) rfl (fun K hK => ?_) AllReadyH.nil)
        · go_simp
          refine (HOY.out _ HQ2.out.bel).mono ?_
          rintro e t3 ⟨⟨tb, cb, rfl, hf⟩, hbq⟩
          have HQ3 := hid (HQ2.out.call hbq)
          have HQ3 := hid (HQ3.out.add (g := fun W => FlM W tb m cb ys) (kept_fl _ _ _ _) hf)
          clear hbq
          unfold MV
          go_wp2_with fail
          have HQS := hid (HQ3.out.sub (.cons _ (.cons_cons _ (.cons_cons _ .slnil))) (.cons _ (.cons _ .slnil)))
          refine hK.out _ _ (HKT.out _ HQS) (fun hHeld3 => ?_)
          clear hK K HQS
          try simp only [Act.put, List.setIfInBounds_toArray, List.set_cons_zero, List.set_cons_succ]
          refine wpAnyH_ready (rs := [5, 8]) (by kernel_rfl) (by simp) ?_
          refine AllReadyH.cons (o := _) rfl (fun K hK => ?_) (AllReadyH.cons (o := _) rfl (fun K hK => ?_) AllReadyH.nil)
          · go_simp
            refine (HLU.out _ HQ3.out.bel).mono ?_
            rintro e t4 ⟨⟨tu, cu, rfl, hf⟩, hbq⟩
            have HQ4 := hid (HQ3.out.call hbq)
            have HQ4 := hid (HQ4.out.add (g := fun W => FlM W tu q cu us) (kept_fl _ _ _ _) hf)
            clear hbq
            go_wp2_with fail
            have HQS := hid (HQ4.out.sub (.cons _ (.cons_cons _ (.cons_cons _ .slnil))) (.cons _ (.cons _ (.cons _ .slnil))))
            refine hK.out _ _ (HKT.out _ HQS) (fun hHeld4 => ?_)
            clear hK K HQS
            try simp only [Act.put, List.setIfInBounds_toArray, List.set_cons_zero, List.set_cons_succ]
            refine wpAnyH_ready (rs := [7, 8]) (by kernel_rfl) (by simp) ?_
            refine AllReadyH.cons (o := _) rfl (fun K hK => ?_) (AllReadyH.cons (o := _) rfl (fun K hK => ?_) AllReadyH.nil)
            · go_simp
              refine (HLV.out _ HQ4.out.bel).mono ?_
              rintro e t5 ⟨⟨tv, cv, rfl, hf⟩, hbq⟩
              have HQ5 := hid (HQ4.out.call hbq)
              have HQ5 := hid (HQ5.out.add (g := fun W => FlM W tv p cv vs) (kept_fl _ _ _ _) hf)
              clear hbq
              go_wp2_with fail
              have HQS := hid (HQ5.out.sub (.cons _ (.cons_cons _ (.cons_cons _ .slnil))) (.cons _ (.cons _ (.cons _ (.cons _ .slnil)))))
              refine hK.out _ _ (HKT.out _ HQS) (fun hHeld5 => ?_)
              clear hK K HQS
              try simp only [Act.put, List.setIfInBounds_toArray, List.set_cons_zero, List.set_cons_succ]
              refine wpAnyH_ready (rs := [8]) (by kernel_rfl) (by simp) ?_
              refine AllReadyH.cons (o := _) rfl (fun K hK => ?_) AllReadyH.nil
              have HQ6 := hid (HQ5.out.alloc (MBox 0 0 none 0 0))
              go_simp
              go_wp2_with fail
              have HQS := hid (HQ6.out.sub (.cons _ (.cons _ (.cons_cons _ (.cons_cons _ .slnil)))) (.cons _ (.cons _ (.cons _ (.cons _ .slnil)))))
              refine hK.out _ _ (HKT.out _ HQS) (fun hHeld6 => ?_)
              clear hK K HQS
              try simp only [Act.put, List.setIfInBounds_toArray, List.set_cons_zero, List.set_cons_succ]
              obtain ⟨t6, ht6⟩ : ∃ X, Hid (t5.alloc (MBox 0 0 none 0 0) = X) := ⟨_, rfl⟩
              obtain ⟨ia, hia⟩ : ∃ X, Hid (t5.heap.size = X) := ⟨_, rfl⟩
              rw [ht6.out, hia.out] at HQ6
              have hy1 : t5.alloc (.cells #[.int .i64 0, .int .i64 0, .slice none 0 0] 28) = t6 := ht6.out
              have hy2 := hia.out
              rw [hy1]
              rw [hy2]
              clear hy1 hy2
              refine wpAnyH_ready (rs := [10]) (by kernel_rfl) (by simp) ?_
              refine AllReadyH.cons (o := _) rfl (fun K hK => ?_) AllReadyH.nil
              obtain ⟨z0, z1, z2⟩ := mcells_of (HQ6.out.at 0 rfl : t6.heap[ia]? = some (MBox 0 0 none 0 0))
              have fz := frzM (HQ6.out.at 0 rfl : t6.heap[ia]? = some (MBox 0 0 none 0 0))
              have HQ7 : Hid (FrQ w (StoM t6 ia rx cx ta n ca) [(ia, MBox rx cx ta n ca), (ib, MBox 0 0 none 0 0), (p1, BBox ry cy sb m kb), (p0, BBox rx cx sa n ka)] [fun W => FlM W tv p cv vs, fun W => FlM W tu q cu us, fun W => FlM W tb m cb ys, fun W => FlM W ta n ca xs]) := HQ6.out.sto 0 rfl
              obtain ⟨U7, hU7⟩ : ∃ X, Hid ((StoM t6 ia rx cx ta n ca) = X) := ⟨_, rfl⟩
              rw [hU7.out] at HQ7
              have hU7' := hU7.out
              unfold StoM at hU7'
              go_simp
              go_wp2_with fail
              have HQS := hid (HQ7.out.sub (.cons _ (.cons _ (.cons_cons _ (.cons_cons _ .slnil)))) (.cons _ (.cons _ (.cons _ (.cons _ .slnil)))))
              refine hK.out _ _ (HKT.out _ HQS) (fun hHeld7 => ?_)
              clear hK K HQS
              try simp only [Act.put, List.setIfInBounds_toArray, List.set_cons_zero, List.set_cons_succ]
              clear z0 z1 z2 fz
              refine wpAnyH_ready (rs := [11]) (by kernel_rfl) (by simp) ?_
              refine AllReadyH.cons (o := _) rfl (fun K hK => ?_) AllReadyH.nil
              obtain ⟨z0, z1, z2⟩ := mcells_of (HQ7.out.at 1 rfl : U7.heap[ib]? = some (MBox 0 0 none 0 0))
              have fz := frzM (HQ7.out.at 1 rfl : U7.heap[ib]? = some (MBox 0 0 none 0 0))
              have HQ8 : Hid (FrQ w (StoM U7 ib ry cy tb m cb) [(ia, MBox rx cx ta n ca), (ib, MBox ry cy tb m cb), (p1, BBox ry cy sb m kb), (p0, BBox rx cx sa n ka)] [fun W => FlM W tv p cv vs, fun W => FlM W tu q cu us, fun W => FlM W tb m cb ys, fun W => FlM W ta n ca xs]) := HQ7.out.sto 1 rfl
              obtain ⟨U8, hU8⟩ : ∃ X, Hid ((StoM U7 ib ry cy tb m cb) = X) := ⟨_, rfl⟩
              rw [hU8.out] at HQ8
              have hU8' := hU8.out
              unfold StoM at hU8'
              go_simp
              go_wp2_with fail
              have HQS := hid (HQ8.out.sub (.cons _ (.cons _ (.cons_cons _ (.cons_cons _ .slnil)))) (.cons _ (.cons _ (.cons _ (.cons _ .slnil)))))
              refine hK.out _ _ (HKT.out _ HQS) (fun hHeld8 => ?_)
              clear hK K HQS
              try simp only [Act.put, List.setIfInBounds_toArray, List.set_cons_zero, List.set_cons_succ]
              clear z0 z1 z2 fz
              refine take_at 12 13 (.slice tu q cu) rfl rfl (by kernel_rfl) (by kernel_rfl) (by kernel_rfl) (fun _ _ _ h => h) (Or.inl ⟨by rfl, fun w hSw => by (try dsimp only at hSw); go_simp⟩) (by assumption) ?_
              simp only [Act.put, List.setIfInBounds_toArray, List.set_cons_zero, List.set_cons_succ]
              refine take_at 13 14 (.slice tv p cv) rfl rfl (by kernel_rfl) (by kernel_rfl) (by kernel_rfl) (fun _ _ _ h => h) (Or.inl ⟨by rfl, fun w hSw => by (try dsimp only at hSw); go_simp⟩) (by assumption) ?_
              simp only [Act.put, List.setIfInBounds_toArray, List.set_cons_zero, List.set_cons_succ]
              refine wpAnyH_done (by kernel_rfl) ?_ _
              have HQ8 : Hid (FrQ w U8 [(ib, MBox ry cy tb m cb), (ia, MBox rx cx ta n ca), (p1, BBox ry cy sb m kb), (p0, BBox rx cx sa n ka)] [fun W => FlM W tv p cv vs, fun W => FlM W tu q cu us, fun W => FlM W tb m cb ys, fun W => FlM W ta n ca xs]) := HQ8.out.swap
              exact HR.out _ _ ⟨ta, ca, tb, cb, tu, cu, tv, cv, ia, ib, rfl, HQ8.out⟩
            · have HQ5 := hid (HQ4.out.alloc (MBox 0 0 none 0 0))
              go_simp
              go_wp2_with fail
              have HQS := hid (HQ5.out.sub (.cons _ (.cons _ (.cons_cons _ (.cons_cons _ .slnil)))) (.cons _ (.cons _ (.cons _ .slnil))))
              refine hK.out _ _ (HKT.out _ HQS) (fun hHeld5 => ?_)
              clear hK K HQS
              try simp only [Act.put, List.setIfInBounds_toArray, List.set_cons_zero, List.set_cons_succ]
              obtain ⟨t5, ht5⟩ : ∃ X, Hid (t4.alloc (MBox 0 0 none 0 0) = X) := ⟨_, rfl⟩
              obtain ⟨ia, hia⟩ : ∃ X, Hid (t4.heap.size = X) := ⟨_, rfl⟩
              rw [ht5.out, hia.out] at HQ5
              have hy1 : t4.alloc (.cells #[.int .i64 0, .int .i64 0, .slice none 0 0] 28) = t5 := ht5.out
              have hy2 := hia.out
              rw [hy1]
              rw [hy2]
              clear hy1 hy2
              refine wpAnyH_ready (rs := [7]) (by kernel_rfl) (by simp) ?_
              refine AllReadyH.cons (o := _) rfl (fun K hK => ?_) AllReadyH.nil
              go_simp
              refine (HLV.out _ HQ5.out.bel).mono ?_
              rintro e t6 ⟨⟨tv, cv, rfl, hf⟩, hbq⟩
              have HQ6 := hid (HQ5.out.call hbq)
              have HQ6 := hid (HQ6.out.add (g := fun W => FlM W tv p cv vs) (kept_fl _ _ _ _) hf)
              clear hbq
              go_wp2_with fail
              have HQS := hid (HQ6.out.sub (.cons _ (.cons _ (.cons_cons _ (.cons_cons _ .slnil)))) (.cons _ (.cons _ (.cons _ (.cons _ .slnil)))))
              refine hK.out _ _ (HKT.out _ HQS) (fun hHeld6 => ?_)
              clear hK K HQS
              try simp only [Act.put, List.setIfInBounds_toArray, List.set_cons_zero, List.set_cons_succ]
              refine wpAnyH_ready (rs := [10]) (by kernel_rfl) (by simp) ?_
              refine AllReadyH.cons (o := _) rfl (fun K hK => ?_) AllReadyH.nil
              obtain ⟨z0, z1, z2⟩ := mcells_of (HQ6.out.at 0 rfl : t6.heap[ia]? = some (MBox 0 0 none 0 0))
              have fz := frzM (HQ6.out.at 0 rfl : t6.heap[ia]? = some (MBox 0 0 none 0 0))
              have HQ7 : Hid (FrQ w (StoM t6 ia rx cx ta n ca) [(ia, MBox rx cx ta n ca), (ib, MBox 0 0 none 0 0), (p1, BBox ry cy sb m kb), (p0, BBox rx cx sa n ka)] [fun W => FlM W tv p cv vs, fun W => FlM W tu q cu us, fun W => FlM W tb m cb ys, fun W => FlM W ta n ca xs]) := HQ6.out.sto 0 rfl
              obtain ⟨U7, hU7⟩ : ∃ X, Hid ((StoM t6 ia rx cx ta n ca) = X) := ⟨_, rfl⟩
              rw [hU7.out] at HQ7
              have hU7' := hU7.out
              unfold StoM at hU7'
              go_simp
              go_wp2_with fail
              have HQS := hid (HQ7.out.sub (.cons _ (.cons _ (.cons_cons _ (.cons_cons _ .slnil)))) (.cons _ (.cons _ (.cons _ (.cons _ .slnil)))))
              refine hK.out _ _ (HKT.out _ HQS) (fun hHeld7 => ?_)
              clear hK K HQS
              try simp only [Act.put, List.setIfInBounds_toArray, List.set_cons_zero, List.set_cons_succ]
              clear z0 z1 z2 fz
              refine wpAnyH_ready (rs := [11]) (by kernel_rfl) (by simp) ?_
              refine AllReadyH.cons (o := _) rfl (fun K hK => ?_) AllReadyH.nil
              obtain ⟨z0, z1, z2⟩ := mcells_of (HQ7.out.at 1 rfl : U7.heap[ib]? = some (MBox 0 0 none 0 0))
              have fz := frzM (HQ7.out.at 1 rfl : U7.heap[ib]? = some (MBox 0 0 none 0 0))
              have HQ8 : Hid (FrQ w (StoM U7 ib ry cy tb m cb) [(ia, MBox rx cx ta n ca), (ib, MBox ry cy tb m cb), (p1, BBox ry cy sb m kb), (p0, BBox rx cx sa n ka)] [fun W => FlM W tv p cv vs, fun W => FlM W tu q cu us, fun W => FlM W tb m cb ys, fun W => FlM W ta n ca xs]) := HQ7.out.sto 1 rfl
              obtain ⟨U8, hU8⟩ : ∃ X, Hid ((StoM U7 ib ry cy tb m cb) = X) := ⟨_, rfl⟩
              rw [hU8.out] at HQ8
              have hU8' := hU8.out
              unfold StoM at hU8'
              go_simp
              go_wp2_with fail
              have HQS := hid (HQ8.out.sub (.cons _ (.cons _ (.cons_cons _ (.cons_cons _ .slnil)))) (.cons _ (.cons _ (.cons _ (.cons _ .slnil)))))
              refine hK.out _ _ (HKT.out _ HQS) (fun hHeld8 => ?_)
              clear hK K HQS
              try simp only [Act.put, List.setIfInBounds_toArray, List.set_cons_zero, List.set_cons_succ]
              clear z0 z1 z2 fz
              refine take_at 12 13 (.slice tu q cu) rfl rfl (by kernel_rfl) (by kernel_rfl) (by kernel_rfl) (fun _ _ _ h => h) (Or.inl ⟨by rfl, fun w hSw => by (try dsimp only at hSw); go_simp⟩) (by assumption) ?_
              simp only [Act.put, List.setIfInBounds_toArray, List.set_cons_zero, List.set_cons_succ]
              refine take_at 13 14 (.slice tv p cv) rfl rfl (by kernel_rfl) (by kernel_rfl) (by kernel_rfl) (fun _ _ _ h => h) (Or.inl ⟨by rfl, fun w hSw => by (try dsimp only at hSw); go_simp⟩) (by assumption) ?_
              simp only [Act.put, List.setIfInBounds_toArray, List.set_cons_zero, List.set_cons_succ]
              refine wpAnyH_done (by kernel_rfl) ?_ _
              have HQ8 : Hid (FrQ w U8 [(ib, MBox ry cy tb m cb), (ia, MBox rx cx ta n ca), (p1, BBox ry cy sb m kb), (p0, BBox rx cx sa n ka)] [fun W => FlM W tv p cv vs, fun W => FlM W tu q cu us, fun W => FlM W tb m cb ys, fun W => FlM W ta n ca xs]) := HQ8.out.swap
              exact HR.out _ _ ⟨ta, ca, tb, cb, tu, cu, tv, cv, ia, ib, rfl, HQ8.out⟩
          · have HQ4 := hid (HQ3.out.alloc (MBox 0 0 none 0 0))
            go_simp
            go_wp2_with fail
            have HQS := hid (HQ4.out.sub (.cons _ (.cons _ (.cons_cons _ (.cons_cons _ .slnil)))) (.cons _ (.cons _ .slnil)))
            refine hK.out _ _ (HKT.out _ HQS) (fun hHeld4 => ?_)
            clear hK K HQS
            try simp only [Act.put, List.setIfInBounds_toArray, List.set_cons_zero, List.set_cons_succ]
            obtain ⟨t4, ht4⟩ : ∃ X, Hid (t3.alloc (MBox 0 0 none 0 0) = X) := ⟨_, rfl⟩
            obtain ⟨ia, hia⟩ : ∃ X, Hid (t3.heap.size = X) := ⟨_, rfl⟩
            rw [ht4.out, hia.out] at HQ4
            have hy1 : t3.alloc (.cells #[.int .i64 0, .int .i64 0, .slice none 0 0] 28) = t4 := ht4.out
            have hy2 := hia.out
            rw [hy1]
            rw [hy2]
            clear hy1 hy2
            refine wpAnyH_ready (rs := [5]) (by kernel_rfl) (by simp) ?_
            refine AllReadyH.cons (o := _) rfl (fun K hK => ?_) AllReadyH.nil
            go_simp
            refine (HLU.out _ HQ4.out.bel).mono ?_
            rintro e t5 ⟨⟨tu, cu, rfl, hf⟩, hbq⟩
            have HQ5 := hid (HQ4.out.call hbq)
            have HQ5 := hid (HQ5.out.add (g := fun W => FlM W tu q cu us) (kept_fl _ _ _ _) hf)
            clear hbq
            go_wp2_with fail
            have HQS := hid (HQ5.out.sub (.cons _ (.cons _ (.cons_cons _ (.cons_cons _ .slnil)))) (.cons _ (.cons _ (.cons _ .slnil))))
            refine hK.out _ _ (HKT.out _ HQS) (fun hHeld5 => ?_)
            clear hK K HQS
            try simp only [Act.put, List.setIfInBounds_toArray, List.set_cons_zero, List.set_cons_succ]
            refine wpAnyH_ready (rs := [7]) (by kernel_rfl) (by simp) ?_
            refine AllReadyH.cons (o := _) rfl (fun K hK => ?_) AllReadyH.nil
            go_simp
            refine (HLV.out _ HQ5.out.bel).mono ?_
            rintro e t6 ⟨⟨tv, cv, rfl, hf⟩, hbq⟩
            have HQ6 := hid (HQ5.out.call hbq)
            have HQ6 := hid (HQ6.out.add (g := fun W => FlM W tv p cv vs) (kept_fl _ _ _ _) hf)
            clear hbq
            go_wp2_with fail
            have HQS := hid (HQ6.out.sub (.cons _ (.cons _ (.cons_cons _ (.cons_cons _ .slnil)))) (.cons _ (.cons _ (.cons _ (.cons _ .slnil)))))
            refine hK.out _ _ (HKT.out _ HQS) (fun hHeld6 => ?_)
            clear hK K HQS
            try simp only [Act.put, List.setIfInBounds_toArray, List.set_cons_zero, List.set_cons_succ]
            refine wpAnyH_ready (rs := [10]) (by kernel_rfl) (by simp) ?_
            refine AllReadyH.cons (o := _) rfl (fun K hK => ?_) AllReadyH.nil
            obtain ⟨z0, z1, z2⟩ := mcells_of (HQ6.out.at 0 rfl : t6.heap[ia]? = some (MBox 0 0 none 0 0))
            have fz := frzM (HQ6.out.at 0 rfl : t6.heap[ia]? = some (MBox 0 0 none 0 0))
            have HQ7 : Hid (FrQ w (StoM t6 ia rx cx ta n ca) [(ia, MBox rx cx ta n ca), (ib, MBox 0 0 none 0 0), (p1, BBox ry cy sb m kb), (p0, BBox rx cx sa n ka)] [fun W => FlM W tv p cv vs, fun W => FlM W tu q cu us, fun W => FlM W tb m cb ys, fun W => FlM W ta n ca xs]) := HQ6.out.sto 0 rfl
            obtain ⟨U7, hU7⟩ : ∃ X, Hid ((StoM t6 ia rx cx ta n ca) = X) := ⟨_, rfl⟩
            rw [hU7.out] at HQ7
            have hU7' := hU7.out
            unfold StoM at hU7'
            go_simp
            go_wp2_with fail
            have HQS := hid (HQ7.out.sub (.cons _ (.cons _ (.cons_cons _ (.cons_cons _ .slnil)))) (.cons _ (.cons _ (.cons _ (.cons _ .slnil)))))
            refine hK.out _ _ (HKT.out _ HQS) (fun hHeld7 => ?_)
            clear hK K HQS
            try simp only [Act.put, List.setIfInBounds_toArray, List.set_cons_zero, List.set_cons_succ]
            clear z0 z1 z2 fz
            refine wpAnyH_ready (rs := [11]) (by kernel_rfl) (by simp) ?_
            refine AllReadyH.cons (o := _) rfl (fun K hK => ?_) AllReadyH.nil
            obtain ⟨z0, z1, z2⟩ := mcells_of (HQ7.out.at 1 rfl : U7.heap[ib]? = some (MBox 0 0 none 0 0))
            have fz := frzM (HQ7.out.at 1 rfl : U7.heap[ib]? = some (MBox 0 0 none 0 0))
            have HQ8 : Hid (FrQ w (StoM U7 ib ry cy tb m cb) [(ia, MBox rx cx ta n ca), (ib, MBox ry cy tb m cb), (p1, BBox ry cy sb m kb), (p0, BBox rx cx sa n ka)] [fun W => FlM W tv p cv vs, fun W => FlM W tu q cu us, fun W => FlM W tb m cb ys, fun W => FlM W ta n ca xs]) := HQ7.out.sto 1 rfl
            obtain ⟨U8, hU8⟩ : ∃ X, Hid ((StoM U7 ib ry cy tb m cb) = X) := ⟨_, rfl⟩
            rw [hU8.out] at HQ8
            have hU8' := hU8.out
            unfold StoM at hU8'
            go_simp
            go_wp2_with fail
            have HQS := hid (HQ8.out.sub (.cons _ (.cons _ (.cons_cons _ (.cons_cons _ .slnil)))) (.cons _ (.cons _ (.cons _ (.cons _ .slnil)))))
            refine hK.out _ _ (HKT.out _ HQS) (fun hHeld8 => ?_)
            clear hK K HQS
            try simp only [Act.put, List.setIfInBounds_toArray, List.set_cons_zero, List.set_cons_succ]
            clear z0 z1 z2 fz
            refine take_at 12 13 (.slice tu q cu) rfl rfl (by kernel_rfl) (by kernel_rfl) (by kernel_rfl) (fun _ _ _ h => h) (Or.inl ⟨by rfl, fun w hSw => by (try dsimp only at hSw); go_simp⟩) (by assumption) ?_
            simp only [Act.put, List.setIfInBounds_toArray, List.set_cons_zero, List.set_cons_succ]
            refine take_at 13 14 (.slice tv p cv) rfl rfl (by kernel_rfl) (by kernel_rfl) (by kernel_rfl) (fun _ _ _ h => h) (Or.inl ⟨by rfl, fun w hSw => by (try dsimp only at hSw); go_simp⟩) (by assumption) ?_
            simp only [Act.put, List.setIfInBounds_toArray, List.set_cons_zero, List.set_cons_succ]
            refine wpAnyH_done (by kernel_rfl) ?_ _
            have HQ8 : Hid (FrQ w U8 [(ib, MBox ry cy tb m cb), (ia, MBox rx cx ta n ca), (p1, BBox ry cy sb m kb), (p0, BBox rx cx sa n ka)] [fun W => FlM W tv p cv vs, fun W => FlM W tu q cu us, fun W => FlM W tb m cb ys, fun W => FlM W ta n ca xs]) := HQ8.out.swap
            exact HR.out _ _ ⟨ta, ca, tb, cb, tu, cu, tv, cv, ia, ib, rfl, HQ8.out⟩
        · have HQ3 := hid (HQ2.out.alloc (MBox 0 0 none 0 0))
          go_simp
          go_wp2_with fail
          have HQS := hid (HQ3.out.sub (.cons _ (.cons _ (.cons_cons _ (.cons_cons _ .slnil)))) (.cons _ .slnil))
          refine hK.out _ _ (HKT.out _ HQS) (fun hHeld3 => ?_)
          clear hK K HQS
          try simp only [Act.put, List.setIfInBounds_toArray, List.set_cons_zero, List.set_cons_succ]
          obtain ⟨t3, ht3⟩ : ∃ X, Hid (t2.alloc (MBox 0 0 none 0 0) = X) := ⟨_, rfl⟩
          obtain ⟨ia, hia⟩ : ∃ X, Hid (t2.heap.size = X) := ⟨_, rfl⟩
          rw [ht3.out, hia.out] at HQ3
          have hy1 : t2.alloc (.cells #[.int .i64 0, .int .i64 0, .slice none 0 0] 28) = t3 := ht3.out
          have hy2 := hia.out
          rw [hy1]
          rw [hy2]
          clear hy1 hy2
          refine wpAnyH_ready (rs := [3]) (by kernel_rfl) (by simp) ?_
          refine AllReadyH.cons (o := _) rfl (fun K hK => ?_) AllReadyH.nil
          go_simp
          refine (HOY.out _ HQ3.out.bel).mono ?_
          rintro e t4 ⟨⟨tb, cb, rfl, hf⟩, hbq⟩
          have HQ4 := hid (HQ3.out.call hbq)
          have HQ4 := hid (HQ4.out.add (g := fun W => FlM W tb m cb ys) (kept_fl _ _ _ _) hf)
          clear hbq
          unfold MV
          go_wp2_with fail
          have HQS := hid (HQ4.out.sub (.cons _ (.cons _ (.cons_cons _ (.cons_cons _ .slnil)))) (.cons _ (.cons _ .slnil)))
          refine hK.out _ _ (HKT.out _ HQS) (fun hHeld4 => ?_)
          clear hK K HQS
          try simp only [Act.put, List.setIfInBounds_toArray, List.set_cons_zero, List.set_cons_succ]
          refine wpAnyH_ready (rs := [5]) (by kernel_rfl) (by simp) ?_
          refine AllReadyH.cons (o := _) rfl (fun K hK => ?_) AllReadyH.nil
          go_simp
          refine (HLU.out _ HQ4.out.bel).mono ?_
          rintro e t5 ⟨⟨tu, cu, rfl, hf⟩, hbq⟩
          have HQ5 := hid (HQ4.out.call hbq)
          have HQ5 := hid (HQ5.out.add (g := fun W => FlM W tu q cu us) (kept_fl _ _ _ _) hf)
          clear hbq
          go_wp2_with fail
          have HQS := hid (HQ5.out.sub (.cons _ (.cons _ (.cons_cons _ (.cons_cons _ .slnil)))) (.cons _ (.cons _ (.cons _ .slnil))))
          refine hK.out _ _ (HKT.out _ HQS) (fun hHeld5 => ?_)
          clear hK K HQS
          try simp only [Act.put, List.setIfInBounds_toArray, List.set_cons_zero, List.set_cons_succ]
          refine wpAnyH_ready (rs := [7]) (by kernel_rfl) (by simp) ?_
          refine AllReadyH.cons (o := _) rfl (fun K hK => ?_) AllReadyH.nil
          go_simp
          refine (HLV.out _ HQ5.out.bel).mono ?_
          rintro e t6 ⟨⟨tv, cv, rfl, hf⟩, hbq⟩
          have HQ6 := hid (HQ5.out.call hbq)
          have HQ6 := hid (HQ6.out.add (g := fun W => FlM W tv p cv vs) (kept_fl _ _ _ _) hf)
          clear hbq
          go_wp2_with fail
          have HQS := hid (HQ6.out.sub (.cons _ (.cons _ (.cons_cons _ (.cons_cons _ .slnil)))) (.cons _ (.cons _ (.cons _ (.cons _ .slnil)))))
          refine hK.out _ _ (HKT.out _ HQS) (fun hHeld6 => ?_)
          clear hK K HQS
          try simp only [Act.put, List.setIfInBounds_toArray, List.set_cons_zero, List.set_cons_succ]
          refine wpAnyH_ready (rs := [10]) (by kernel_rfl) (by simp) ?_
          refine AllReadyH.cons (o := _) rfl (fun K hK => ?_) AllReadyH.nil
          obtain ⟨z0, z1, z2⟩ := mcells_of (HQ6.out.at 0 rfl : t6.heap[ia]? = some (MBox 0 0 none 0 0))
          have fz := frzM (HQ6.out.at 0 rfl : t6.heap[ia]? = some (MBox 0 0 none 0 0))
          have HQ7 : Hid (FrQ w (StoM t6 ia rx cx ta n ca) [(ia, MBox rx cx ta n ca), (ib, MBox 0 0 none 0 0), (p1, BBox ry cy sb m kb), (p0, BBox rx cx sa n ka)] [fun W => FlM W tv p cv vs, fun W => FlM W tu q cu us, fun W => FlM W tb m cb ys, fun W => FlM W ta n ca xs]) := HQ6.out.sto 0 rfl
          obtain ⟨U7, hU7⟩ : ∃ X, Hid ((StoM t6 ia rx cx ta n ca) = X) := ⟨_, rfl⟩
          rw [hU7.out] at HQ7
          have hU7' := hU7.out
          unfold StoM at hU7'
          go_simp
          go_wp2_with fail
          have HQS := hid (HQ7.out.sub (.cons _ (.cons _ (.cons_cons _ (.cons_cons _ .slnil)))) (.cons _ (.cons _ (.cons _ (.cons _ .slnil)))))
          refine hK.out _ _ (HKT.out _ HQS) (fun hHeld7 => ?_)
          clear hK K HQS
          try simp only [Act.put, List.setIfInBounds_toArray, List.set_cons_zero, List.set_cons_succ]
          clear z0 z1 z2 fz
          refine wpAnyH_ready (rs := [11]) (by kernel_rfl) (by simp) ?_
          refine AllReadyH.cons (o := _) rfl (fun K hK => ?_) AllReadyH.nil
          obtain ⟨z0, z1, z2⟩ := mcells_of (HQ7.out.at 1 rfl : U7.heap[ib]? = some (MBox 0 0 none 0 0))
          have fz := frzM (HQ7.out.at 1 rfl : U7.heap[ib]? = some (MBox 0 0 none 0 0))
          have HQ8 : Hid (FrQ w (StoM U7 ib ry cy tb m cb) [(ia, MBox rx cx ta n ca), (ib, MBox ry cy tb m cb), (p1, BBox ry cy sb m kb), (p0, BBox rx cx sa n ka)] [fun W => FlM W tv p cv vs, fun W => FlM W tu q cu us, fun W => FlM W tb m cb ys, fun W => FlM W ta n ca xs]) := HQ7.out.sto 1 rfl
          obtain ⟨U8, hU8⟩ : ∃ X, Hid ((StoM U7 ib ry cy tb m cb) = X) := ⟨_, rfl⟩
          rw [hU8.out] at HQ8
          have hU8' := hU8.out
          unfold StoM at hU8'
          go_simp
          go_wp2_with fail
          have HQS := hid (HQ8.out.sub (.cons _ (.cons _ (.cons_cons _ (.cons_cons _ .slnil)))) (.cons _ (.cons _ (.cons _ (.cons _ .slnil)))))
          refine hK.out _ _ (HKT.out _ HQS) (fun hHeld8 => ?_)
          clear hK K HQS
          try simp only [Act.put, List.setIfInBounds_toArray, List.set_cons_zero, List.set_cons_succ]
          clear z0 z1 z2 fz
          refine take_at 12 13 (.slice tu q cu) rfl rfl (by kernel_rfl) (by kernel_rfl) (by kernel_rfl) (fun _ _ _ h => h) (Or.inl ⟨by rfl, fun w hSw => by (try dsimp only at hSw); go_simp⟩) (by assumption) ?_
          simp only [Act.put, List.setIfInBounds_toArray, List.set_cons_zero, List.set_cons_succ]
          refine take_at 13 14 (.slice tv p cv) rfl rfl (by kernel_rfl) (by kernel_rfl) (by kernel_rfl) (fun _ _ _ h => h) (Or.inl ⟨by rfl, fun w hSw => by (try dsimp only at hSw); go_simp⟩) (by assumption) ?_
          simp only [Act.put, List.setIfInBounds_toArray, List.set_cons_zero, List.set_cons_succ]
          refine wpAnyH_done (by kernel_rfl) ?_ _
          have HQ8 : Hid (FrQ w U8 [(ib, MBox ry cy tb m cb), (ia, MBox rx cx ta n ca), (p1, BBox ry cy sb m kb), (p0, BBox rx cx sa n ka)] [fun W => FlM W tv p cv vs, fun W => FlM W tu q cu us, fun W => FlM W tb m cb ys, fun W => FlM W ta n ca xs]) := HQ8.out.swap
          exact HR.out _ _ ⟨ta, ca, tb, cb, tu, cu, tv, cv, ia, ib, rfl, HQ8.out⟩
      · have HQ2 := hid (HQ1.out.alloc (MBox 0 0 none 0 0))
        go_simp
        go_wp2_with fail
        have HQS := hid (HQ2.out.sub (.cons _ (.cons _ (.cons_cons _ (.cons_cons _ .slnil)))) .slnil)
        refine hK.out _ _ (HKT.out _ HQS) (fun hHeld2 => ?_)
        clear hK K HQS
        try simp only [Act.put, List.setIfInBounds_toArray, List.set_cons_zero, List.set_cons_succ]
        obtain ⟨t2, ht2⟩ : ∃ X, Hid (t1.alloc (MBox 0 0 none 0 0) = X) := ⟨_, rfl⟩
        obtain ⟨ia, hia⟩ : ∃ X, Hid (t1.heap.size = X) := ⟨_, rfl⟩
        rw [ht2.out, hia.out] at HQ2
        have hy1 : t1.alloc (.cells #[.int .i64 0, .int .i64 0, .slice none 0 0] 28) = t2 := ht2.out
        have hy2 := hia.out
        rw [hy1]
        rw [hy2]
        clear hy1 hy2
        refine wpAnyH_ready (rs := [1]) (by kernel_rfl) (by simp) ?_
        refine AllReadyH.cons (o := _) rfl (fun K hK => ?_) AllReadyH.nil
        go_simp
        refine (HOX.out _ HQ2.out.bel).mono ?_
        rintro e t3 ⟨⟨ta, ca, rfl, hf⟩, hbq⟩
        have HQ3 := hid (HQ2.out.call hbq)
        have HQ3 := hid (HQ3.out.add (g := fun W => FlM W ta n ca xs) (kept_fl _ _ _ _) hf)
        clear hbq
        unfold MV
        go_wp2_with fail
        have HQS := hid (HQ3.out.sub (.cons _ (.cons _ (.cons_cons _ (.cons_cons _ .slnil)))) (.cons _ .slnil))
        refine hK.out _ _ (HKT.out _ HQS) (fun hHeld3 => ?_)
        clear hK K HQS
        try simp only [Act.put, List.setIfInBounds_toArray, List.set_cons_zero, List.set_cons_succ]
        refine wpAnyH_ready (rs := [3]) (by kernel_rfl) (by simp) ?_
        refine AllReadyH.cons (o := _) rfl (fun K hK => ?_) AllReadyH.nil
        go_simp
        refine (HOY.out _ HQ3.out.bel).mono ?_
        rintro e t4 ⟨⟨tb, cb, rfl, hf⟩, hbq⟩
        have HQ4 := hid (HQ3.out.call hbq)
        have HQ4 := hid (HQ4.out.add (g := fun W => FlM W tb m cb ys) (kept_fl _ _ _ _) hf)
        clear hbq
        unfold MV
        go_wp2_with fail
        have HQS := hid (HQ4.out.sub (.cons _ (.cons _ (.cons_cons _ (.cons_cons _ .slnil)))) (.cons _ (.cons _ .slnil)))
        refine hK.out _ _ (HKT.out _ HQS) (fun hHeld4 => ?_)
        clear hK K HQS
        try simp only [Act.put, List.setIfInBounds_toArray, List.set_cons_zero, List.set_cons_succ]
        refine wpAnyH_ready (rs := [5]) (by kernel_rfl) (by simp) ?_
        refine AllReadyH.cons (o := _) rfl (fun K hK => ?_) AllReadyH.nil
        go_simp
        refine (HLU.out _ HQ4.out.bel).mono ?_
        rintro e t5 ⟨⟨tu, cu, rfl, hf⟩, hbq⟩
        have HQ5 := hid (HQ4.out.call hbq)
        have HQ5 := hid (HQ5.out.add (g := fun W => FlM W tu q cu us) (kept_fl _ _ _ _) hf)
        clear hbq
        go_wp2_with fail
        have HQS := hid (HQ5.out.sub (.cons _ (.cons _ (.cons_cons _ (.cons_cons _ .slnil)))) (.cons _ (.cons _ (.cons _ .slnil))))
        refine hK.out _ _ (HKT.out _ HQS) (fun hHeld5 => ?_)
        clear hK K HQS
        try simp only [Act.put, List.setIfInBounds_toArray, List.set_cons_zero, List.set_cons_succ]
        refine wpAnyH_ready (rs := [7]) (by kernel_rfl) (by simp) ?_
        refine AllReadyH.cons (o := _) rfl (fun K hK => ?_) AllReadyH.nil
        go_simp
        refine (HLV.out _ HQ5.out.bel).mono ?_
        rintro e t6 ⟨⟨tv, cv, rfl, hf⟩, hbq⟩
        have HQ6 := hid (HQ5.out.call hbq)
        have HQ6 := hid (HQ6.out.add (g := fun W => FlM W tv p cv vs) (kept_fl _ _ _ _) hf)
        clear hbq
        go_wp2_with fail
        have HQS := hid (HQ6.out.sub (.cons _ (.cons _ (.cons_cons _ (.cons_cons _ .slnil)))) (.cons _ (.cons _ (.cons _ (.cons _ .slnil)))))
        refine hK.out _ _ (HKT.out _ HQS) (fun hHeld6 => ?_)
        clear hK K HQS
        try simp only [Act.put, List.setIfInBounds_toArray, List.set_cons_zero, List.set_cons_succ]
        refine wpAnyH_ready (rs := [10]) (by kernel_rfl) (by simp) ?_
        refine AllReadyH.cons (o := _) rfl (fun K hK => ?_) AllReadyH.nil
        obtain ⟨z0, z1, z2⟩ := mcells_of (HQ6.out.at 0 rfl : t6.heap[ia]? = some (MBox 0 0 none 0 0))
        have fz := frzM (HQ6.out.at 0 rfl : t6.heap[ia]? = some (MBox 0 0 none 0 0))
        have HQ7 : Hid (FrQ w (StoM t6 ia rx cx ta n ca) [(ia, MBox rx cx ta n ca), (ib, MBox 0 0 none 0 0), (p1, BBox ry cy sb m kb), (p0, BBox rx cx sa n ka)] [fun W => FlM W tv p cv vs, fun W => FlM W tu q cu us, fun W => FlM W tb m cb ys, fun W => FlM W ta n ca xs]) := HQ6.out.sto 0 rfl
        obtain ⟨U7, hU7⟩ : ∃ X, Hid ((StoM t6 ia rx cx ta n ca) = X) := ⟨_, rfl⟩
        rw [hU7.out] at HQ7
        have hU7' := hU7.out
        unfold StoM at hU7'
        go_simp
        go_wp2_with fail
        have HQS := hid (HQ7.out.sub (.cons _ (.cons _ (.cons_cons _ (.cons_cons _ .slnil)))) (.cons _ (.cons _ (.cons _ (.cons _ .slnil)))))
        refine hK.out _ _ (HKT.out _ HQS) (fun hHeld7 => ?_)
        clear hK K HQS
        try simp only [Act.put, List.setIfInBounds_toArray, List.set_cons_zero, List.set_cons_succ]
        clear z0 z1 z2 fz
        refine wpAnyH_ready (rs := [11]) (by kernel_rfl) (by simp) ?_
        refine AllReadyH.cons (o := _) rfl (fun K hK => ?_) AllReadyH.nil
        obtain ⟨z0, z1, z2⟩ := mcells_of (HQ7.out.at 1 rfl : U7.heap[ib]? = some (MBox 0 0 none 0 0))
        have fz := frzM (HQ7.out.at 1 rfl : U7.heap[ib]? = some (MBox 0 0 none 0 0))
        have HQ8 : Hid (FrQ w (StoM U7 ib ry cy tb m cb) [(ia, MBox rx cx ta n ca), (ib, MBox ry cy tb m cb), (p1, BBox ry cy sb m kb), (p0, BBox rx cx sa n ka)] [fun W => FlM W tv p cv vs, fun W => FlM W tu q cu us, fun W => FlM W tb m cb ys, fun W => FlM W ta n ca xs]) := HQ7.out.sto 1 rfl
        obtain ⟨U8, hU8⟩ : ∃ X, Hid ((StoM U7 ib ry cy tb m cb) = X) := ⟨_, rfl⟩
        rw [hU8.out] at HQ8
        have hU8' := hU8.out
        unfold StoM at hU8'
        go_simp
        go_wp2_with fail
        have HQS := hid (HQ8.out.sub (.cons _ (.cons _ (.cons_cons _ (.cons_cons _ .slnil)))) (.cons _ (.cons _ (.cons _ (.cons _ .slnil)))))
        refine hK.out _ _ (HKT.out _ HQS) (fun hHeld8 => ?_)
        clear hK K HQS
        try simp only [Act.put, List.setIfInBounds_toArray, List.set_cons_zero, List.set_cons_succ]
        clear z0 z1 z2 fz
        refine take_at 12 13 (.slice tu q cu) rfl rfl (by kernel_rfl) (by kernel_rfl) (by kernel_rfl) (fun _ _ _ h => h) (Or.inl ⟨by rfl, fun w hSw => by (try dsimp only at hSw); go_simp⟩) (by assumption) ?_
        simp only [Act.put, List.setIfInBounds_toArray, List.set_cons_zero, List.set_cons_succ]
        refine take_at 13 14 (.slice tv p cv) rfl rfl (by kernel_rfl) (by kernel_rfl) (by kernel_rfl) (fun _ _ _ h => h) (Or.inl ⟨by rfl, fun w hSw => by (try dsimp only at hSw); go_simp⟩) (by assumption) ?_
        simp only [Act.put, List.setIfInBounds_toArray, List.set_cons_zero, List.set_cons_succ]
        refine wpAnyH_done (by kernel_rfl) ?_ _
        have HQ8 : Hid (FrQ w U8 [(ib, MBox ry cy tb m cb), (ia, MBox rx cx ta n ca), (p1, BBox ry cy sb m kb), (p0, BBox rx cx sa n ka)] [fun W => FlM W tv p cv vs, fun W => FlM W tu q cu us, fun W => FlM W tb m cb ys, fun W => FlM W ta n ca xs]) := HQ8.out.swap
        exact HR.out _ _ ⟨ta, ca, tb, cb, tu, cu, tv, cv, ia, ib, rfl, HQ8.out⟩
  · rintro a' w1 ⟨ta, ca, tb, cb, tu, cu, tv, cv, ia, ib, rfl, hF⟩
    simp only [Act.put, List.setIfInBounds_toArray, List.set_cons_zero, List.set_cons_succ]
    have HF : Hid (FrQ w w1 [(ib, MBox ry cy tb m cb), (ia, MBox rx cx ta n ca), (p1, BBox ry cy sb m kb), (p0, BBox rx cx sa n ka)] [fun W => FlM W tv p cv vs, fun W => FlM W tu q cu us, fun W => FlM W tb m cb ys, fun W => FlM W ta n ca xs]) := hF
    clear hF HKT HQ0 HQS0
    have HCA := hid (fun W (h : FlM W ta n ca xs) => rCheck_any rx cx ta n ca xs W h HNM.out.1)
    have HCB := hid (fun W (h : FlM W tb m cb ys) => rCheck_any ry cy tb m cb ys W h HNM.out.2.1)
    have HFT := hid (fun b W h => First_two b (chkM rx cx n xs) (chkM ry cy m ys) W h)
    have HFL := hid (fun b W h => First_two b (lstE q us) (lstE p vs) W h)
    rw [first_two2] at HFT HFL
    have HLI := hid (fun W (h : FlM W tu q cu us) => rList_any tu q cu us W h HNM.out.2.2.1)
    have HLJ := hid (fun W (h : FlM W tv p cv vs) => rList_any tv p cv vs W h HNM.out.2.2.2)
    have HRA := hid (fun W (h : FlM W ta n ca xs) (h2 : FlM W tb m cb ys) hz => rAdd_tot rx cx ta n ca xs ry cy tb m cb ys W h h2 hz)
    have HPA := hid (fun W s k t l (h : FlM W s n k xs) (h2 : FlM W t m l ys) => Add_tot rx cx s n k xs ry cy t m l ys W h h2 HNM.out.1 HNM.out.2.1)
    have HNA : Hid (first2 (chkM rx cx n xs) (chkM ry cy m ys) ≠ 0 → addT .add rx cx n xs ry cy m ys = first2 (chkM rx cx n xs) (chkM ry cy m ys)) := fun h => by unfold addT; rw [if_neg h]
    have HRS := hid (fun W (h : FlM W ta n ca xs) (h2 : FlM W tb m cb ys) hz => rSub_tot rx cx ta n ca xs ry cy tb m cb ys W h h2 hz)
    have HPS := hid (fun W s k t l (h : FlM W s n k xs) (h2 : FlM W t m l ys) => Sub_tot rx cx s n k xs ry cy t m l ys W h h2 HNM.out.1 HNM.out.2.1)
    have HNS : Hid (first2 (chkM rx cx n xs) (chkM ry cy m ys) ≠ 0 → addT .sub rx cx n xs ry cy m ys = first2 (chkM rx cx n xs) (chkM ry cy m ys)) := fun h => by unfold addT; rw [if_neg h]
    have HPC := hid (fun W s k (h : FlM W s n k xs) => Scale_tot rx cx s n k xs sn W h HNM.out.1 HSL.out)
    have HRC := hid (fun W (h : FlM W ta n ca xs) hz => rScale_tot rx cx ta n ca xs sn W h HSL.out hz)
    have HNC : Hid (withE (chkM rx cx n xs) sn ≠ 0 → sclT rx cx n xs sn = withE (chkM rx cx n xs) sn) := fun h => by unfold sclT; rw [if_neg h]
    have HWE := hid (with_first (chkM rx cx n xs) sn)
    have HPO := hid (fun W s k t l (h : FlM W s q k us) (h2 : FlM W t p l vs) => Outer_tot q p k l s t us vs W h h2 HNM.out.2.2.1 HNM.out.2.2.2)
    have HRO := hid (fun W (h : FlM W tu q cu us) (h2 : FlM W tv p cv vs) hz => rOuter_tot q p cu cv tu tv us vs W h h2 hz)
    have HNO : Hid (first2 (lstE q us) (lstE p vs) ≠ 0 → outT q us p vs = first2 (lstE q us) (lstE p vs)) := fun h => by unfold outT; rw [if_neg h]
    have HPD := hid (fun W s k t l (h : FlM W s q k us) (h2 : FlM W t p l vs) => Dot_tot q p k l s t us vs W h h2 HNM.out.2.2.1 HNM.out.2.2.2)
    have HDE : Hid (dotE q us p vs = firstL [first2 (lstE q us) (lstE p vs), eqE q p]) := by show _ = _; rw [first_two2]; rfl
    have HDN : Hid (dotE q us p vs ≠ 0 → dotT q us p vs = dotE q us p vs ∧ dotD q us p vs = 0) := dot_no q us p vs
    have HDY : Hid (dotE q us p vs = 0 → q = p ∧ (finB (dotW us vs q) = true → dotT q us p vs = 0 ∧ dotD q us p vs = dotW us vs q) ∧ (finB (dotW us vs q) = false → dotT q us p vs = 5 ∧ dotD q us p vs = 0)) := dot_yes q us p vs
    have HRDO : Hid (∀ W, FlM W tu q cu us → FlM W tv p cv vs → q = p → Calls Try.prog 23 #[.slice tu q cu, .slice tv p cv] W fun e w' => ∃ z : Nat, e = .returned (.float .f64 z) ∧ (z < 18446744073709551616 ∧ canonOf z = dotW us vs q) ∧ Below W.heap.size W w') := fun W h h2 hz => by
      subst hz
      exact rDot_any tu tv q cu cv _ _ W HNM.out.2.2.1 h.fn h2.fn
    have HIF4 := hid (fun W => If_any (!(finB sn)) 4 W)
    have HIF3 := hid (fun W => If_any ((q : Int) != (p : Int)) 3 W)
    rw [show (if ((q : Int) != (p : Int)) = true then (3 : Int) else 0) = eqE q p from if_eqE q p] at HIF3
    rw [show (if (!(finB sn)) = true then (4 : Int) else 0) = if finB sn = true then 0 else 4 from by cases finB sn <;> rfl] at HIF4
    obtain ⟨T2, hT2⟩ : ∃ t, Hid (first2 (chkM rx cx n xs) (chkM ry cy m ys) = t) := ⟨_, rfl⟩
    rw [hT2.out] at HFT HRA HRS HNA HNS
    obtain ⟨LS, hLS⟩ : ∃ t, Hid (first2 (lstE q us) (lstE p vs) = t) := ⟨_, rfl⟩
    rw [hLS.out] at HFL HRO HNO HDE
    obtain ⟨AT, hAT⟩ : ∃ t, Hid (addT .add rx cx n xs ry cy m ys = t) := ⟨_, rfl⟩
    rw [hAT.out] at HRA HPA HNA
    obtain ⟨UT, hUT⟩ : ∃ t, Hid (addT .sub rx cx n xs ry cy m ys = t) := ⟨_, rfl⟩
    rw [hUT.out] at HRS HPS HNS
    obtain ⟨OT, hOT⟩ : ∃ t, Hid (outT q us p vs = t) := ⟨_, rfl⟩
    rw [hOT.out] at HPO HRO HNO
    obtain ⟨CT, hCT⟩ : ∃ t, Hid (sclT rx cx n xs sn = t) := ⟨_, rfl⟩
    rw [hCT.out] at HPC HRC HNC
    obtain ⟨SE, hSE⟩ : ∃ t, Hid (withE (chkM rx cx n xs) sn = t) := ⟨_, rfl⟩
    rw [hSE.out] at HRC HNC HWE
    obtain ⟨DE, hDE⟩ : ∃ t, Hid (dotE q us p vs = t) := ⟨_, rfl⟩
    rw [hDE.out] at HDE HDN HDY
    obtain ⟨DT, hDT⟩ : ∃ t, Hid (dotT q us p vs = t) := ⟨_, rfl⟩
    rw [hDT.out] at HPD HDN HDY
    obtain ⟨DD, hDD⟩ : ∃ t, Hid (dotD q us p vs = t) := ⟨_, rfl⟩
    rw [hDD.out] at HPD HDN HDY
    obtain ⟨DW, hDW⟩ : ∃ t, Hid (dotW us vs q = t) := ⟨_, rfl⟩
    rw [hDW.out] at HDY HRDO
    have HFS := hid (fun b W h => First_two b (chkM rx cx n xs) (if finB sn = true then 0 else 4) W h)
    rw [← HWE.out] at HFS
    have HFD := hid (fun b W h => First_two b LS (eqE q p) W h)
    rw [← HDE.out] at HFD
    obtain ⟨NE, hNE⟩ : ∃ t, Hid ((if finB sn = true then 0 else 4 : Int) = t) := ⟨_, rfl⟩
    rw [hNE.out] at HFS HIF4
    obtain ⟨QE, hQE⟩ : ∃ t, Hid (eqE q p = t) := ⟨_, rfl⟩
    rw [hQE.out] at HFD HIF3
    obtain ⟨EA, hEA⟩ : ∃ t, Hid (chkM rx cx n xs = t) := ⟨_, rfl⟩
    rw [hEA.out] at HCA HFT HFS
    obtain ⟨EB, hEB⟩ : ∃ t, Hid (chkM ry cy m ys = t) := ⟨_, rfl⟩
    rw [hEB.out] at HCB HFT
    obtain ⟨EU, hEU⟩ : ∃ t, Hid (lstE q us = t) := ⟨_, rfl⟩
    rw [hEU.out] at HLI HFL
    obtain ⟨EV, hEV⟩ : ∃ t, Hid (lstE p vs = t) := ⟨_, rfl⟩
    rw [hEV.out] at HLJ HFL
    obtain ⟨R, hR⟩ : ∃ t, Hid (rx.toNat = t) := ⟨_, rfl⟩
    rw [hR.out] at HRA HPA HRS HPS HPC HRC
    obtain ⟨C, hC⟩ : ∃ t, Hid (cx.toNat = t) := ⟨_, rfl⟩
    rw [hC.out] at HRA HPA HRS HPS HPC HRC
    obtain ⟨av, hav⟩ : ∃ t, Hid (addV .add xs ys C = t) := ⟨_, rfl⟩
    rw [hav.out] at HRA HPA
    obtain ⟨uv, huv⟩ : ∃ t, Hid (addV .sub xs ys C = t) := ⟨_, rfl⟩
    rw [huv.out] at HRS HPS
    obtain ⟨ov, hov⟩ : ∃ t, Hid (outV us vs = t) := ⟨_, rfl⟩
    rw [hov.out] at HPO HRO
    obtain ⟨cv2, hcv2⟩ : ∃ t, Hid (sclV xs sn C = t) := ⟨_, rfl⟩
    rw [hcv2.out] at HPC HRC
    obtain ⟨fb, hfb⟩ : ∃ t, Hid (finB sn = t) := ⟨_, rfl⟩
    rw [hfb.out] at HFINS HIF4
    obtain ⟨c00, c01, c02⟩ := mcells_of (HF.out.at 1 rfl : w1.heap[ia]? = some (MBox rx cx ta n ca))
    go_wp2_with fail
    refine (HCA.out _ (HF.out.get (g := fun W => FlM W ta n ca xs) 3 rfl)).mono ?_
    rintro e u2 ⟨rfl, hb⟩
    have HF : Hid (FrQ w u2 [(ib, MBox ry cy tb m cb), (ia, MBox rx cx ta n ca), (p1, BBox ry cy sb m kb), (p0, BBox rx cx sa n ka)] [fun W => FlM W tv p cv vs, fun W => FlM W tu q cu us, fun W => FlM W tb m cb ys, fun W => FlM W ta n ca xs]) := HF.out.call hb
    clear hb
    obtain ⟨c00, c01, c02⟩ := mcells_of (HF.out.at 0 rfl : u2.heap[ib]? = some (MBox ry cy tb m cb))
    go_wp2_with fail
    refine (HCB.out _ (HF.out.get (g := fun W => FlM W tb m cb ys) 2 rfl)).mono ?_
    rintro e u3 ⟨rfl, hb⟩
    have HF : Hid (FrQ w u3 [(ib, MBox ry cy tb m cb), (ia, MBox rx cx ta n ca), (p1, BBox ry cy sb m kb), (p0, BBox rx cx sa n ka)] [fun W => FlM W tv p cv vs, fun W => FlM W tu q cu us, fun W => FlM W tb m cb ys, fun W => FlM W ta n ca xs]) := HF.out.call hb
    clear hb
    go_wp2_with fail
    refine (HFT.out _ _ (nblkM _ _)).mono ?_
    rintro e ww ⟨rfl, hw⟩
    have HF : Hid (FrQ w (u3.alloc (I2 EA EB)) [(ib, MBox ry cy tb m cb), (ia, MBox rx cx ta n ca), (p1, BBox ry cy sb m kb), (p0, BBox rx cx sa n ka)] [fun W => FlM W tv p cv vs, fun W => FlM W tu q cu us, fun W => FlM W tb m cb ys, fun W => FlM W ta n ca xs]) := HF.out.call ((Below.refl _ _).alloc (Nat.le_refl _) _)
    obtain ⟨V4, hV4⟩ : ∃ V, Hid (u3.alloc (I2 EA EB) = V) := ⟨_, rfl⟩
    rw [hw, hV4.out]
    rw [hV4.out] at HF
    clear hw
    go_wp2_with fail
    refine (HLI.out _ (HF.out.get (g := fun W => FlM W tu q cu us) 1 rfl)).mono ?_
    rintro e ww ⟨rfl, hw⟩
    rw [hw]
    clear hw
    go_wp2_with fail
    refine (HLJ.out _ (HF.out.get (g := fun W => FlM W tv p cv vs) 0 rfl)).mono ?_
    rintro e ww ⟨rfl, hw⟩
    rw [hw]
    clear hw
    go_wp2_with fail
    refine (HFL.out _ _ (nblkM _ _)).mono ?_
    rintro e ww ⟨rfl, hw⟩
    have HF : Hid (FrQ w (V4.alloc (I2 EU EV)) [(ib, MBox ry cy tb m cb), (ia, MBox rx cx ta n ca), (p1, BBox ry cy sb m kb), (p0, BBox rx cx sa n ka)] [fun W => FlM W tv p cv vs, fun W => FlM W tu q cu us, fun W => FlM W tb m cb ys, fun W => FlM W ta n ca xs]) := HF.out.call ((Below.refl _ _).alloc (Nat.le_refl _) _)
    obtain ⟨V5, hV5⟩ : ∃ V, Hid (V4.alloc (I2 EU EV) = V) := ⟨_, rfl⟩
    rw [hw, hV5.out]
    rw [hV5.out] at HF
    clear hw
    go_wp2_with fail
    go_loopw [18] (fun kv wr => ∃ k : Nat, k ≤ 2 ∧ kv = .int .i64 k ∧ Hid (FrQ w wr [(ib, MBox ry cy tb m cb), (ia, MBox rx cx ta n ca), (p1, BBox ry cy sb m kb), (p0, BBox rx cx sa n ka)] [fun W => FlM W tv p cv vs, fun W => FlM W tu q cu us, fun W => FlM W tb m cb ys, fun W => FlM W ta n ca xs])) (fun kv _ => 2 - (intOf kv).toNat)
    case atStart => exact ⟨0, by omega, rfl, HF⟩
    case round =>
      obtain ⟨k, hk, rfl, HF⟩ := hrel
      by_cases hlt : k < 2
      · have hkI : (k : Int) < 2 := by omega
        have HLT := hid hlt
        clear hlt
        have HKT : Hid (∀ W, Hid (FrQ w W [(ib, MBox ry cy tb m cb), (ia, MBox rx cx ta n ca), (p1, BBox ry cy sb m kb), (p0, BBox rx cx sa n ka)] [fun W => FlM W tv p cv vs, fun W => FlM W tu q cu us, fun W => FlM W tb m cb ys, fun W => FlM W ta n ca xs]) → (W.cell? ⟨p0, 0, none⟩ = some (.int .i64 rx) ∧ W.cell? ⟨p0, 1, none⟩ = some (.int .i64 cx) ∧ W.cell? ⟨p0, 2, none⟩ = some (.slice sa n ka) ∧ W.cell? ⟨p1, 0, none⟩ = some (.int .i64 ry) ∧ W.cell? ⟨p1, 1, none⟩ = some (.int .i64 cy) ∧ W.cell? ⟨p1, 2, none⟩ = some (.slice sb m kb)) ∧ Hid (FrQ w W [(ib, MBox ry cy tb m cb), (ia, MBox rx cx ta n ca), (p1, BBox ry cy sb m kb), (p0, BBox rx cx sa n ka)] [fun W => FlM W tv p cv vs, fun W => FlM W tu q cu us, fun W => FlM W tb m cb ys, fun W => FlM W ta n ca xs])) := fun W hW => by
          obtain ⟨a00, a01, a02⟩ := bcells_of (hW.out.at 3 rfl : W.heap[p0]? = some (BBox rx cx sa n ka))
          obtain ⟨a10, a11, a12⟩ := bcells_of (hW.out.at 2 rfl : W.heap[p1]? = some (BBox ry cy sb m kb))
          exact ⟨⟨a00, a01, a02, a10, a11, a12⟩, hW⟩
        have HQ0 : Hid (FrQ w wr.drew [(ib, MBox ry cy tb m cb), (ia, MBox rx cx ta n ca), (p1, BBox ry cy sb m kb), (p0, BBox rx cx sa n ka)] [fun W => FlM W tv p cv vs, fun W => FlM W tu q cu us, fun W => FlM W tb m cb ys, fun W => FlM W ta n ca xs]) := HF.out.drew
        have HQS0 : Hid (FrQ w wr.drew [(ib, MBox ry cy tb m cb), (ia, MBox rx cx ta n ca), (p1, BBox ry cy sb m kb), (p0, BBox rx cx sa n ka)] [fun W => FlM W tv p cv vs, fun W => FlM W tu q cu us, fun W => FlM W tb m cb ys, fun W => FlM W ta n ca xs]) := HQ0.out.sub (.cons_cons _ (.cons_cons _ (.cons_cons _ (.cons_cons _ .slnil)))) (.cons_cons _ (.cons_cons _ (.cons_cons _ (.cons_cons _ .slnil))))
        go_wp2_with fail
        refine region_merge2 (fun a0 a' w' => ∃ (tx : Option Addr) (kx : Nat) (ty : Option Addr) (ky : Nat) (X0 X1 : Int) (X2 : Option Addr) (X3 X4 ig : Nat), a' = Act.put (Act.put (Act.put (Act.put (Act.put (Act.put (Act.put (Act.put (Act.put (Act.put (a0) (some 55) (.agg #[.int .i64 rx, .int .i64 cx, .slice sa n ka])) (some 57) (.agg #[.int .i64 ry, .int .i64 cy, .slice sb m kb])) (some 56) (.agg #[.int .i64 rx, .int .i64 cx, .slice tx n kx])) (some 58) (.agg #[.int .i64 ry, .int .i64 cy, .slice ty m ky])) (some 59) (.tuple #[.agg #[.int .i64 X0, .int .i64 X1, .slice X2 X3 X4], .int .i64 AT])) (some 54) (.tuple #[.agg #[.int .i64 X0, .int .i64 X1, .slice X2 X3 X4], .int .i64 AT])) (some 60) (.agg #[.int .i64 X0, .int .i64 X1, .slice X2 X3 X4])) (some 61) (.int .i64 AT)) (some 19) (.pointer (some ⟨ig, 0, none⟩))) (some 20) (.int .i64 AT) ∧ FrQ w w' [(ig, MBox X0 X1 X2 X3 X4), (ib, MBox ry cy tb m cb), (ia, MBox rx cx ta n ca), (p1, BBox ry cy sb m kb), (p0, BBox rx cx sa n ka)] [fun W => ResM AT R C av W X0 X1 X2 X3 X4, fun W => FlM W ty m ky ys, fun W => FlM W tx n kx xs, fun W => FlM W tv p cv vs, fun W => FlM W tu q cu us, fun W => FlM W tb m cb ys, fun W => FlM W ta n ca xs]) (fun HR => ?_) ?_
        · simp only [Act.put, List.setIfInBounds_toArray, List.set_cons_zero, List.set_cons_succ] at HR
          refine wp_region_held_drew (S := fun W => (W.cell? ⟨p0, 0, none⟩ = some (.int .i64 rx) ∧ W.cell? ⟨p0, 1, none⟩ = some (.int .i64 cx) ∧ W.cell? ⟨p0, 2, none⟩ = some (.slice sa n ka) ∧ W.cell? ⟨p1, 0, none⟩ = some (.int .i64 ry) ∧ W.cell? ⟨p1, 1, none⟩ = some (.int .i64 cy) ∧ W.cell? ⟨p1, 2, none⟩ = some (.slice sb m kb)) ∧ Hid (FrQ w W [(ib, MBox ry cy tb m cb), (ia, MBox rx cx ta n ca), (p1, BBox ry cy sb m kb), (p0, BBox rx cx sa n ka)] [fun W => FlM W tv p cv vs, fun W => FlM W tu q cu us, fun W => FlM W tb m cb ys, fun W => FlM W ta n ca xs])) (by kernel_rfl) (HKT.out _ HQS0) (fun hHeld => ?_)
          refine take_at 0 55 (.agg #[.int .i64 rx, .int .i64 cx, .slice sa n ka]) rfl rfl (by kernel_rfl) (by kernel_rfl) (by kernel_rfl) (fun _ _ _ h => h) (Or.inl ⟨by rfl, fun w hSw => by (try dsimp only at hSw); go_simp⟩) (by assumption) ?_
          simp only [Act.put, List.setIfInBounds_toArray, List.set_cons_zero, List.set_cons_succ]
          refine take_at 2 57 (.agg #[.int .i64 ry, .int .i64 cy, .slice sb m kb]) rfl rfl (by kernel_rfl) (by kernel_rfl) (by kernel_rfl) (fun _ _ _ h => h) (Or.inl ⟨by rfl, fun w hSw => by (try dsimp only at hSw); go_simp⟩) (by assumption) ?_
          simp only [Act.put, List.setIfInBounds_toArray, List.set_cons_zero, List.set_cons_succ]
          refine wpAnyH_ready (rs := [1, 8]) (by kernel_rfl) (by simp) ?_
          refine AllReadyH.cons (o := _) rfl (fun K hK => ?_) (AllReadyH.cons (o := _) rfl (fun K hK => ?_) AllReadyH.nil)
          · go_simp
            refine (HOX.out _ HQ0.out.bel).mono ?_
            rintro e t1 ⟨⟨tx, kx, rfl, hf⟩, hbq⟩
            have HQ1 := hid (HQ0.out.call hbq)
            have HQ1 := hid (HQ1.out.add (g := fun W => FlM W tx n kx xs) (kept_fl _ _ _ _) hf)
            clear hbq
            unfold MV
            go_wp2_with fail
            have HQS := hid (HQ1.out.sub (.cons_cons _ (.cons_cons _ (.cons_cons _ (.cons_cons _ .slnil)))) (.cons _ (.cons_cons _ (.cons_cons _ (.cons_cons _ (.cons_cons _ .slnil))))))
            refine hK.out _ _ (HKT.out _ HQS) (fun hHeld1 => ?_)
            clear hK K HQS
            try simp only [Act.put, List.setIfInBounds_toArray, List.set_cons_zero, List.set_cons_succ]
            refine wpAnyH_ready (rs := [3, 8]) (by kernel_rfl) (by simp) ?_
            refine AllReadyH.cons (o := _) rfl (fun K hK => ?_) (AllReadyH.cons (o := _) rfl (fun K hK => ?_) AllReadyH.nil)
            · go_simp
              refine (HOY.out _ HQ1.out.bel).mono ?_
              rintro e t2 ⟨⟨ty, ky, rfl, hf⟩, hbq⟩
              have HQ2 := hid (HQ1.out.call hbq)
              have HQ2 := hid (HQ2.out.add (g := fun W => FlM W ty m ky ys) (kept_fl _ _ _ _) hf)
              clear hbq
              unfold MV
              go_wp2_with fail
              have HQS := hid (HQ2.out.sub (.cons_cons _ (.cons_cons _ (.cons_cons _ (.cons_cons _ .slnil)))) (.cons _ (.cons _ (.cons_cons _ (.cons_cons _ (.cons_cons _ (.cons_cons _ .slnil)))))))
              refine hK.out _ _ (HKT.out _ HQS) (fun hHeld2 => ?_)
              clear hK K HQS
              try simp only [Act.put, List.setIfInBounds_toArray, List.set_cons_zero, List.set_cons_succ]
              refine wpAnyH_ready (rs := [4, 8]) (by kernel_rfl) (by simp) ?_
              refine AllReadyH.cons (o := _) rfl (fun K hK => ?_) (AllReadyH.cons (o := _) rfl (fun K hK => ?_) AllReadyH.nil)
              · go_simp
                refine (HPA.out _ _ _ _ _ (HQ2.out.get (g := fun W => FlM W tx n kx xs) 1 rfl) (HQ2.out.get (g := fun W => FlM W ty m ky ys) 0 rfl)).mono ?_
                rintro e t3 ⟨⟨X0, X1, X2, X3, X4, rfl, hres⟩, hbq⟩
                have HQ3 := hid (HQ2.out.call hbq)
                have HQ3 := hid (HQ3.out.add (g := fun W => ResM AT R C av W X0 X1 X2 X3 X4) (kept_res _ _ _ _ _ _ _ _ _) hres)
                clear hbq
                clear hres
                go_wp2_with fail
                have HQS := hid (HQ3.out.sub (.cons_cons _ (.cons_cons _ (.cons_cons _ (.cons_cons _ .slnil)))) (.cons _ (.cons _ (.cons _ (.cons_cons _ (.cons_cons _ (.cons_cons _ (.cons_cons _ .slnil))))))))
                refine hK.out _ _ (HKT.out _ HQS) (fun hHeld3 => ?_)
                clear hK K HQS
                try simp only [Act.put, List.setIfInBounds_toArray, List.set_cons_zero, List.set_cons_succ]
                refine take_at 5 54 (.tuple #[.agg #[.int .i64 X0, .int .i64 X1, .slice X2 X3 X4], .int .i64 AT]) rfl rfl (by kernel_rfl) (by kernel_rfl) (by kernel_rfl) (fun _ _ _ h => h) (Or.inl ⟨by rfl, fun w hSw => by (try dsimp only at hSw); go_simp⟩) (by assumption) ?_
                simp only [Act.put, List.setIfInBounds_toArray, List.set_cons_zero, List.set_cons_succ]
                refine take_at 6 60 (.agg #[.int .i64 X0, .int .i64 X1, .slice X2 X3 X4]) rfl rfl (by kernel_rfl) (by kernel_rfl) (by kernel_rfl) (fun _ _ _ h => h) (Or.inl ⟨by rfl, fun w hSw => by (try dsimp only at hSw); go_simp⟩) (by assumption) ?_
                simp only [Act.put, List.setIfInBounds_toArray, List.set_cons_zero, List.set_cons_succ]
                refine take_at 7 61 (.int .i64 AT) rfl rfl (by kernel_rfl) (by kernel_rfl) (by kernel_rfl) (fun _ _ _ h => h) (Or.inl ⟨by rfl, fun w hSw => by (try dsimp only at hSw); go_simp⟩) (by assumption) ?_
                simp only [Act.put, List.setIfInBounds_toArray, List.set_cons_zero, List.set_cons_succ]
                refine wpAnyH_ready (rs := [8]) (by kernel_rfl) (by simp) ?_
                refine AllReadyH.cons (o := _) rfl (fun K hK => ?_) AllReadyH.nil
                have HQ4 := hid (HQ3.out.alloc (MBox 0 0 none 0 0))
                go_simp
                go_wp2_with fail
                have HQS := hid (HQ4.out.sub (.cons _ (.cons_cons _ (.cons_cons _ (.cons_cons _ (.cons_cons _ .slnil))))) (.cons _ (.cons _ (.cons _ (.cons_cons _ (.cons_cons _ (.cons_cons _ (.cons_cons _ .slnil))))))))
                refine hK.out _ _ (HKT.out _ HQS) (fun hHeld4 => ?_)
                clear hK K HQS
                try simp only [Act.put, List.setIfInBounds_toArray, List.set_cons_zero, List.set_cons_succ]
                obtain ⟨t4, ht4⟩ : ∃ X, Hid (t3.alloc (MBox 0 0 none 0 0) = X) := ⟨_, rfl⟩
                obtain ⟨ig, hig⟩ : ∃ X, Hid (t3.heap.size = X) := ⟨_, rfl⟩
                rw [ht4.out, hig.out] at HQ4
                have hy1 : t3.alloc (.cells #[.int .i64 0, .int .i64 0, .slice none 0 0] 28) = t4 := ht4.out
                have hy2 := hig.out
                rw [hy1]
                rw [hy2]
                clear hy1 hy2
                refine wpAnyH_ready (rs := [9]) (by kernel_rfl) (by simp) ?_
                refine AllReadyH.cons (o := _) rfl (fun K hK => ?_) AllReadyH.nil
                obtain ⟨z0, z1, z2⟩ := mcells_of (HQ4.out.at 0 rfl : t4.heap[ig]? = some (MBox 0 0 none 0 0))
                have fz := frzM (HQ4.out.at 0 rfl : t4.heap[ig]? = some (MBox 0 0 none 0 0))
                have HQ5 : Hid (FrQ w (StoM t4 ig X0 X1 X2 X3 X4) [(ig, MBox X0 X1 X2 X3 X4), (ib, MBox ry cy tb m cb), (ia, MBox rx cx ta n ca), (p1, BBox ry cy sb m kb), (p0, BBox rx cx sa n ka)] [fun W => ResM AT R C av W X0 X1 X2 X3 X4, fun W => FlM W ty m ky ys, fun W => FlM W tx n kx xs, fun W => FlM W tv p cv vs, fun W => FlM W tu q cu us, fun W => FlM W tb m cb ys, fun W => FlM W ta n ca xs]) := HQ4.out.sto 0 rfl
                obtain ⟨U5, hU5⟩ : ∃ X, Hid ((StoM t4 ig X0 X1 X2 X3 X4) = X) := ⟨_, rfl⟩
                rw [hU5.out] at HQ5
                have hU5' := hU5.out
                unfold StoM at hU5'
                go_simp
                go_wp2_with fail
                have HQS := hid (HQ5.out.sub (.cons _ (.cons_cons _ (.cons_cons _ (.cons_cons _ (.cons_cons _ .slnil))))) (.cons _ (.cons _ (.cons _ (.cons_cons _ (.cons_cons _ (.cons_cons _ (.cons_cons _ .slnil))))))))
                refine hK.out _ _ (HKT.out _ HQS) (fun hHeld5 => ?_)
                clear hK K HQS
                try simp only [Act.put, List.setIfInBounds_toArray, List.set_cons_zero, List.set_cons_succ]
                clear z0 z1 z2 fz
                refine take_at 10 20 (.int .i64 AT) rfl rfl (by kernel_rfl) (by kernel_rfl) (by kernel_rfl) (fun _ _ _ h => h) (Or.inl ⟨by rfl, fun w hSw => by (try dsimp only at hSw); go_simp⟩) (by assumption) ?_
                simp only [Act.put, List.setIfInBounds_toArray, List.set_cons_zero, List.set_cons_succ]
                refine wpAnyH_done (by kernel_rfl) ?_ _
                exact HR.out _ _ ⟨tx, kx, ty, ky, X0, X1, X2, X3, X4, ig, rfl, HQ5.out⟩
              · have HQ3 := hid (HQ2.out.alloc (MBox 0 0 none 0 0))
                go_simp
                go_wp2_with fail
                have HQS := hid (HQ3.out.sub (.cons _ (.cons_cons _ (.cons_cons _ (.cons_cons _ (.cons_cons _ .slnil))))) (.cons _ (.cons _ (.cons_cons _ (.cons_cons _ (.cons_cons _ (.cons_cons _ .slnil)))))))
                refine hK.out _ _ (HKT.out _ HQS) (fun hHeld3 => ?_)
                clear hK K HQS
                try simp only [Act.put, List.setIfInBounds_toArray, List.set_cons_zero, List.set_cons_succ]
                obtain ⟨t3, ht3⟩ : ∃ X, Hid (t2.alloc (MBox 0 0 none 0 0) = X) := ⟨_, rfl⟩
                obtain ⟨ig, hig⟩ : ∃ X, Hid (t2.heap.size = X) := ⟨_, rfl⟩
                rw [ht3.out, hig.out] at HQ3
                have hy1 : t2.alloc (.cells #[.int .i64 0, .int .i64 0, .slice none 0 0] 28) = t3 := ht3.out
                have hy2 := hig.out
                rw [hy1]
                rw [hy2]
                clear hy1 hy2
                refine wpAnyH_ready (rs := [4]) (by kernel_rfl) (by simp) ?_
                refine AllReadyH.cons (o := _) rfl (fun K hK => ?_) AllReadyH.nil
                go_simp
                refine (HPA.out _ _ _ _ _ (HQ3.out.get (g := fun W => FlM W tx n kx xs) 1 rfl) (HQ3.out.get (g := fun W => FlM W ty m ky ys) 0 rfl)).mono ?_
                rintro e t4 ⟨⟨X0, X1, X2, X3, X4, rfl, hres⟩, hbq⟩
                have HQ4 := hid (HQ3.out.call hbq)
                have HQ4 := hid (HQ4.out.add (g := fun W => ResM AT R C av W X0 X1 X2 X3 X4) (kept_res _ _ _ _ _ _ _ _ _) hres)
                clear hbq
                clear hres
                go_wp2_with fail
                have HQS := hid (HQ4.out.sub (.cons _ (.cons_cons _ (.cons_cons _ (.cons_cons _ (.cons_cons _ .slnil))))) (.cons _ (.cons _ (.cons _ (.cons_cons _ (.cons_cons _ (.cons_cons _ (.cons_cons _ .slnil))))))))
                refine hK.out _ _ (HKT.out _ HQS) (fun hHeld4 => ?_)
                clear hK K HQS
                try simp only [Act.put, List.setIfInBounds_toArray, List.set_cons_zero, List.set_cons_succ]
                refine take_at 5 54 (.tuple #[.agg #[.int .i64 X0, .int .i64 X1, .slice X2 X3 X4], .int .i64 AT]) rfl rfl (by kernel_rfl) (by kernel_rfl) (by kernel_rfl) (fun _ _ _ h => h) (Or.inl ⟨by rfl, fun w hSw => by (try dsimp only at hSw); go_simp⟩) (by assumption) ?_
                simp only [Act.put, List.setIfInBounds_toArray, List.set_cons_zero, List.set_cons_succ]
                refine take_at 6 60 (.agg #[.int .i64 X0, .int .i64 X1, .slice X2 X3 X4]) rfl rfl (by kernel_rfl) (by kernel_rfl) (by kernel_rfl) (fun _ _ _ h => h) (Or.inl ⟨by rfl, fun w hSw => by (try dsimp only at hSw); go_simp⟩) (by assumption) ?_
                simp only [Act.put, List.setIfInBounds_toArray, List.set_cons_zero, List.set_cons_succ]
                refine take_at 7 61 (.int .i64 AT) rfl rfl (by kernel_rfl) (by kernel_rfl) (by kernel_rfl) (fun _ _ _ h => h) (Or.inl ⟨by rfl, fun w hSw => by (try dsimp only at hSw); go_simp⟩) (by assumption) ?_
                simp only [Act.put, List.setIfInBounds_toArray, List.set_cons_zero, List.set_cons_succ]
                refine wpAnyH_ready (rs := [9]) (by kernel_rfl) (by simp) ?_
                refine AllReadyH.cons (o := _) rfl (fun K hK => ?_) AllReadyH.nil
                obtain ⟨z0, z1, z2⟩ := mcells_of (HQ4.out.at 0 rfl : t4.heap[ig]? = some (MBox 0 0 none 0 0))
                have fz := frzM (HQ4.out.at 0 rfl : t4.heap[ig]? = some (MBox 0 0 none 0 0))
                have HQ5 : Hid (FrQ w (StoM t4 ig X0 X1 X2 X3 X4) [(ig, MBox X0 X1 X2 X3 X4), (ib, MBox ry cy tb m cb), (ia, MBox rx cx ta n ca), (p1, BBox ry cy sb m kb), (p0, BBox rx cx sa n ka)] [fun W => ResM AT R C av W X0 X1 X2 X3 X4, fun W => FlM W ty m ky ys, fun W => FlM W tx n kx xs, fun W => FlM W tv p cv vs, fun W => FlM W tu q cu us, fun W => FlM W tb m cb ys, fun W => FlM W ta n ca xs]) := HQ4.out.sto 0 rfl
                obtain ⟨U5, hU5⟩ : ∃ X, Hid ((StoM t4 ig X0 X1 X2 X3 X4) = X) := ⟨_, rfl⟩
                rw [hU5.out] at HQ5
                have hU5' := hU5.out
                unfold StoM at hU5'
                go_simp
                go_wp2_with fail
                have HQS := hid (HQ5.out.sub (.cons _ (.cons_cons _ (.cons_cons _ (.cons_cons _ (.cons_cons _ .slnil))))) (.cons _ (.cons _ (.cons _ (.cons_cons _ (.cons_cons _ (.cons_cons _ (.cons_cons _ .slnil))))))))
                refine hK.out _ _ (HKT.out _ HQS) (fun hHeld5 => ?_)
                clear hK K HQS
                try simp only [Act.put, List.setIfInBounds_toArray, List.set_cons_zero, List.set_cons_succ]
                clear z0 z1 z2 fz
                refine take_at 10 20 (.int .i64 AT) rfl rfl (by kernel_rfl) (by kernel_rfl) (by kernel_rfl) (fun _ _ _ h => h) (Or.inl ⟨by rfl, fun w hSw => by (try dsimp only at hSw); go_simp⟩) (by assumption) ?_
                simp only [Act.put, List.setIfInBounds_toArray, List.set_cons_zero, List.set_cons_succ]
                refine wpAnyH_done (by kernel_rfl) ?_ _
                exact HR.out _ _ ⟨tx, kx, ty, ky, X0, X1, X2, X3, X4, ig, rfl, HQ5.out⟩
            · have HQ2 := hid (HQ1.out.alloc (MBox 0 0 none 0 0))
              go_simp
              go_wp2_with fail
              have HQS := hid (HQ2.out.sub (.cons _ (.cons_cons _ (.cons_cons _ (.cons_cons _ (.cons_cons _ .slnil))))) (.cons _ (.cons_cons _ (.cons_cons _ (.cons_cons _ (.cons_cons _ .slnil))))))
              refine hK.out _ _ (HKT.out _ HQS) (fun hHeld2 => ?_)
              clear hK K HQS
              try simp only [Act.put, List.setIfInBounds_toArray, List.set_cons_zero, List.set_cons_succ]
              obtain ⟨t2, ht2⟩ : ∃ X, Hid (t1.alloc (MBox 0 0 none 0 0) = X) := ⟨_, rfl⟩
              obtain ⟨ig, hig⟩ : ∃ X, Hid (t1.heap.size = X) := ⟨_, rfl⟩
              rw [ht2.out, hig.out] at HQ2
              have hy1 : t1.alloc (.cells #[.int .i64 0, .int .i64 0, .slice none 0 0] 28) = t2 := ht2.out
              have hy2 := hig.out
              rw [hy1]
              rw [hy2]
              clear hy1 hy2
              refine wpAnyH_ready (rs := [3]) (by kernel_rfl) (by simp) ?_
              refine AllReadyH.cons (o := _) rfl (fun K hK => ?_) AllReadyH.nil
              go_simp
              refine (HOY.out _ HQ2.out.bel).mono ?_
              rintro e t3 ⟨⟨ty, ky, rfl, hf⟩, hbq⟩
              have HQ3 := hid (HQ2.out.call hbq)
              have HQ3 := hid (HQ3.out.add (g := fun W => FlM W ty m ky ys) (kept_fl _ _ _ _) hf)
              clear hbq
              unfold MV
              go_wp2_with fail
              have HQS := hid (HQ3.out.sub (.cons _ (.cons_cons _ (.cons_cons _ (.cons_cons _ (.cons_cons _ .slnil))))) (.cons _ (.cons _ (.cons_cons _ (.cons_cons _ (.cons_cons _ (.cons_cons _ .slnil)))))))
              refine hK.out _ _ (HKT.out _ HQS) (fun hHeld3 => ?_)
              clear hK K HQS
              try simp only [Act.put, List.setIfInBounds_toArray, List.set_cons_zero, List.set_cons_succ]
              refine wpAnyH_ready (rs := [4]) (by kernel_rfl) (by simp) ?_
              refine AllReadyH.cons (o := _) rfl (fun K hK => ?_) AllReadyH.nil
              go_simp
              refine (HPA.out _ _ _ _ _ (HQ3.out.get (g := fun W => FlM W tx n kx xs) 1 rfl) (HQ3.out.get (g := fun W => FlM W ty m ky ys) 0 rfl)).mono ?_
              rintro e t4 ⟨⟨X0, X1, X2, X3, X4, rfl, hres⟩, hbq⟩
              have HQ4 := hid (HQ3.out.call hbq)
              have HQ4 := hid (HQ4.out.add (g := fun W => ResM AT R C av W X0 X1 X2 X3 X4) (kept_res _ _ _ _ _ _ _ _ _) hres)
              clear hbq
              clear hres
              go_wp2_with fail
              have HQS := hid (HQ4.out.sub (.cons _ (.cons_cons _ (.cons_cons _ (.cons_cons _ (.cons_cons _ .slnil))))) (.cons _ (.cons _ (.cons _ (.cons_cons _ (.cons_cons _ (.cons_cons _ (.cons_cons _ .slnil))))))))
              refine hK.out _ _ (HKT.out _ HQS) (fun hHeld4 => ?_)
              clear hK K HQS
              try simp only [Act.put, List.setIfInBounds_toArray, List.set_cons_zero, List.set_cons_succ]
              refine take_at 5 54 (.tuple #[.agg #[.int .i64 X0, .int .i64 X1, .slice X2 X3 X4], .int .i64 AT]) rfl rfl (by kernel_rfl) (by kernel_rfl) (by kernel_rfl) (fun _ _ _ h => h) (Or.inl ⟨by rfl, fun w hSw => by (try dsimp only at hSw); go_simp⟩) (by assumption) ?_
              simp only [Act.put, List.setIfInBounds_toArray, List.set_cons_zero, List.set_cons_succ]
              refine take_at 6 60 (.agg #[.int .i64 X0, .int .i64 X1, .slice X2 X3 X4]) rfl rfl (by kernel_rfl) (by kernel_rfl) (by kernel_rfl) (fun _ _ _ h => h) (Or.inl ⟨by rfl, fun w hSw => by (try dsimp only at hSw); go_simp⟩) (by assumption) ?_
              simp only [Act.put, List.setIfInBounds_toArray, List.set_cons_zero, List.set_cons_succ]
              refine take_at 7 61 (.int .i64 AT) rfl rfl (by kernel_rfl) (by kernel_rfl) (by kernel_rfl) (fun _ _ _ h => h) (Or.inl ⟨by rfl, fun w hSw => by (try dsimp only at hSw); go_simp⟩) (by assumption) ?_
              simp only [Act.put, List.setIfInBounds_toArray, List.set_cons_zero, List.set_cons_succ]
              refine wpAnyH_ready (rs := [9]) (by kernel_rfl) (by simp) ?_
              refine AllReadyH.cons (o := _) rfl (fun K hK => ?_) AllReadyH.nil
              obtain ⟨z0, z1, z2⟩ := mcells_of (HQ4.out.at 0 rfl : t4.heap[ig]? = some (MBox 0 0 none 0 0))
              have fz := frzM (HQ4.out.at 0 rfl : t4.heap[ig]? = some (MBox 0 0 none 0 0))
              have HQ5 : Hid (FrQ w (StoM t4 ig X0 X1 X2 X3 X4) [(ig, MBox X0 X1 X2 X3 X4), (ib, MBox ry cy tb m cb), (ia, MBox rx cx ta n ca), (p1, BBox ry cy sb m kb), (p0, BBox rx cx sa n ka)] [fun W => ResM AT R C av W X0 X1 X2 X3 X4, fun W => FlM W ty m ky ys, fun W => FlM W tx n kx xs, fun W => FlM W tv p cv vs, fun W => FlM W tu q cu us, fun W => FlM W tb m cb ys, fun W => FlM W ta n ca xs]) := HQ4.out.sto 0 rfl
              obtain ⟨U5, hU5⟩ : ∃ X, Hid ((StoM t4 ig X0 X1 X2 X3 X4) = X) := ⟨_, rfl⟩
              rw [hU5.out] at HQ5
              have hU5' := hU5.out
              unfold StoM at hU5'
              go_simp
              go_wp2_with fail
              have HQS := hid (HQ5.out.sub (.cons _ (.cons_cons _ (.cons_cons _ (.cons_cons _ (.cons_cons _ .slnil))))) (.cons _ (.cons _ (.cons _ (.cons_cons _ (.cons_cons _ (.cons_cons _ (.cons_cons _ .slnil))))))))
              refine hK.out _ _ (HKT.out _ HQS) (fun hHeld5 => ?_)
              clear hK K HQS
              try simp only [Act.put, List.setIfInBounds_toArray, List.set_cons_zero, List.set_cons_succ]
              clear z0 z1 z2 fz
              refine take_at 10 20 (.int .i64 AT) rfl rfl (by kernel_rfl) (by kernel_rfl) (by kernel_rfl) (fun _ _ _ h => h) (Or.inl ⟨by rfl, fun w hSw => by (try dsimp only at hSw); go_simp⟩) (by assumption) ?_
              simp only [Act.put, List.setIfInBounds_toArray, List.set_cons_zero, List.set_cons_succ]
              refine wpAnyH_done (by kernel_rfl) ?_ _
              exact HR.out _ _ ⟨tx, kx, ty, ky, X0, X1, X2, X3, X4, ig, rfl, HQ5.out⟩
          · have HQ1 := hid (HQ0.out.alloc (MBox 0 0 none 0 0))
            go_simp
            go_wp2_with fail
            have HQS := hid (HQ1.out.sub (.cons _ (.cons_cons _ (.cons_cons _ (.cons_cons _ (.cons_cons _ .slnil))))) (.cons_cons _ (.cons_cons _ (.cons_cons _ (.cons_cons _ .slnil)))))
            refine hK.out _ _ (HKT.out _ HQS) (fun hHeld1 => ?_)
            clear hK K HQS
            try simp only [Act.put, List.setIfInBounds_toArray, List.set_cons_zero, List.set_cons_succ]
            obtain ⟨t1, ht1⟩ : ∃ X, Hid (wr.drew.alloc (MBox 0 0 none 0 0) = X) := ⟨_, rfl⟩
            obtain ⟨ig, hig⟩ : ∃ X, Hid (wr.drew.heap.size = X) := ⟨_, rfl⟩
            rw [ht1.out, hig.out] at HQ1
            have hy1 : (wr.alloc (.cells #[.int .i64 0, .int .i64 0, .slice none 0 0] 28)).drew = t1 := ht1.out
            have hy2 : wr.heap.size = ig := hig.out
            rw [hy1]
            rw [hy2]
            clear hy1 hy2
            refine wpAnyH_ready (rs := [1]) (by kernel_rfl) (by simp) ?_
            refine AllReadyH.cons (o := _) rfl (fun K hK => ?_) AllReadyH.nil
            go_simp
            refine (HOX.out _ HQ1.out.bel).mono ?_
            rintro e t2 ⟨⟨tx, kx, rfl, hf⟩, hbq⟩
            have HQ2 := hid (HQ1.out.call hbq)
            have HQ2 := hid (HQ2.out.add (g := fun W => FlM W tx n kx xs) (kept_fl _ _ _ _) hf)
            clear hbq
            unfold MV
            go_wp2_with fail
            have HQS := hid (HQ2.out.sub (.cons _ (.cons_cons _ (.cons_cons _ (.cons_cons _ (.cons_cons _ .slnil))))) (.cons _ (.cons_cons _ (.cons_cons _ (.cons_cons _ (.cons_cons _ .slnil))))))
            refine hK.out _ _ (HKT.out _ HQS) (fun hHeld2 => ?_)
            clear hK K HQS
            try simp only [Act.put, List.setIfInBounds_toArray, List.set_cons_zero, List.set_cons_succ]
            refine wpAnyH_ready (rs := [3]) (by kernel_rfl) (by simp) ?_
            refine AllReadyH.cons (o := _) rfl (fun K hK => ?_) AllReadyH.nil
            go_simp
            refine (HOY.out _ HQ2.out.bel).mono ?_
            rintro e t3 ⟨⟨ty, ky, rfl, hf⟩, hbq⟩
            have HQ3 := hid (HQ2.out.call hbq)
            have HQ3 := hid (HQ3.out.add (g := fun W => FlM W ty m ky ys) (kept_fl _ _ _ _) hf)
            clear hbq
            unfold MV
            go_wp2_with fail
            have HQS := hid (HQ3.out.sub (.cons _ (.cons_cons _ (.cons_cons _ (.cons_cons _ (.cons_cons _ .slnil))))) (.cons _ (.cons _ (.cons_cons _ (.cons_cons _ (.cons_cons _ (.cons_cons _ .slnil)))))))
            refine hK.out _ _ (HKT.out _ HQS) (fun hHeld3 => ?_)
            clear hK K HQS
            try simp only [Act.put, List.setIfInBounds_toArray, List.set_cons_zero, List.set_cons_succ]
            refine wpAnyH_ready (rs := [4]) (by kernel_rfl) (by simp) ?_
            refine AllReadyH.cons (o := _) rfl (fun K hK => ?_) AllReadyH.nil
            go_simp
            refine (HPA.out _ _ _ _ _ (HQ3.out.get (g := fun W => FlM W tx n kx xs) 1 rfl) (HQ3.out.get (g := fun W => FlM W ty m ky ys) 0 rfl)).mono ?_
            rintro e t4 ⟨⟨X0, X1, X2, X3, X4, rfl, hres⟩, hbq⟩
            have HQ4 := hid (HQ3.out.call hbq)
            have HQ4 := hid (HQ4.out.add (g := fun W => ResM AT R C av W X0 X1 X2 X3 X4) (kept_res _ _ _ _ _ _ _ _ _) hres)
            clear hbq
            clear hres
            go_wp2_with fail
            have HQS := hid (HQ4.out.sub (.cons _ (.cons_cons _ (.cons_cons _ (.cons_cons _ (.cons_cons _ .slnil))))) (.cons _ (.cons _ (.cons _ (.cons_cons _ (.cons_cons _ (.cons_cons _ (.cons_cons _ .slnil))))))))
            refine hK.out _ _ (HKT.out _ HQS) (fun hHeld4 => ?_)
            clear hK K HQS
            try simp only [Act.put, List.setIfInBounds_toArray, List.set_cons_zero, List.set_cons_succ]
            refine take_at 5 54 (.tuple #[.agg #[.int .i64 X0, .int .i64 X1, .slice X2 X3 X4], .int .i64 AT]) rfl rfl (by kernel_rfl) (by kernel_rfl) (by kernel_rfl) (fun _ _ _ h => h) (Or.inl ⟨by rfl, fun w hSw => by (try dsimp only at hSw); go_simp⟩) (by assumption) ?_
            simp only [Act.put, List.setIfInBounds_toArray, List.set_cons_zero, List.set_cons_succ]
            refine take_at 6 60 (.agg #[.int .i64 X0, .int .i64 X1, .slice X2 X3 X4]) rfl rfl (by kernel_rfl) (by kernel_rfl) (by kernel_rfl) (fun _ _ _ h => h) (Or.inl ⟨by rfl, fun w hSw => by (try dsimp only at hSw); go_simp⟩) (by assumption) ?_
            simp only [Act.put, List.setIfInBounds_toArray, List.set_cons_zero, List.set_cons_succ]
            refine take_at 7 61 (.int .i64 AT) rfl rfl (by kernel_rfl) (by kernel_rfl) (by kernel_rfl) (fun _ _ _ h => h) (Or.inl ⟨by rfl, fun w hSw => by (try dsimp only at hSw); go_simp⟩) (by assumption) ?_
            simp only [Act.put, List.setIfInBounds_toArray, List.set_cons_zero, List.set_cons_succ]
            refine wpAnyH_ready (rs := [9]) (by kernel_rfl) (by simp) ?_
            refine AllReadyH.cons (o := _) rfl (fun K hK => ?_) AllReadyH.nil
            obtain ⟨z0, z1, z2⟩ := mcells_of (HQ4.out.at 0 rfl : t4.heap[ig]? = some (MBox 0 0 none 0 0))
            have fz := frzM (HQ4.out.at 0 rfl : t4.heap[ig]? = some (MBox 0 0 none 0 0))
            have HQ5 : Hid (FrQ w (StoM t4 ig X0 X1 X2 X3 X4) [(ig, MBox X0 X1 X2 X3 X4), (ib, MBox ry cy tb m cb), (ia, MBox rx cx ta n ca), (p1, BBox ry cy sb m kb), (p0, BBox rx cx sa n ka)] [fun W => ResM AT R C av W X0 X1 X2 X3 X4, fun W => FlM W ty m ky ys, fun W => FlM W tx n kx xs, fun W => FlM W tv p cv vs, fun W => FlM W tu q cu us, fun W => FlM W tb m cb ys, fun W => FlM W ta n ca xs]) := HQ4.out.sto 0 rfl
            obtain ⟨U5, hU5⟩ : ∃ X, Hid ((StoM t4 ig X0 X1 X2 X3 X4) = X) := ⟨_, rfl⟩
            rw [hU5.out] at HQ5
            have hU5' := hU5.out
            unfold StoM at hU5'
            go_simp
            go_wp2_with fail
            have HQS := hid (HQ5.out.sub (.cons _ (.cons_cons _ (.cons_cons _ (.cons_cons _ (.cons_cons _ .slnil))))) (.cons _ (.cons _ (.cons _ (.cons_cons _ (.cons_cons _ (.cons_cons _ (.cons_cons _ .slnil))))))))
            refine hK.out _ _ (HKT.out _ HQS) (fun hHeld5 => ?_)
            clear hK K HQS
            try simp only [Act.put, List.setIfInBounds_toArray, List.set_cons_zero, List.set_cons_succ]
            clear z0 z1 z2 fz
            refine take_at 10 20 (.int .i64 AT) rfl rfl (by kernel_rfl) (by kernel_rfl) (by kernel_rfl) (fun _ _ _ h => h) (Or.inl ⟨by rfl, fun w hSw => by (try dsimp only at hSw); go_simp⟩) (by assumption) ?_
            simp only [Act.put, List.setIfInBounds_toArray, List.set_cons_zero, List.set_cons_succ]
            refine wpAnyH_done (by kernel_rfl) ?_ _
            exact HR.out _ _ ⟨tx, kx, ty, ky, X0, X1, X2, X3, X4, ig, rfl, HQ5.out⟩
        · rintro a' w6 ⟨tx, kx, ty, ky, X0, X1, X2, X3, X4, ig, rfl, hF⟩
          simp only [Act.put, List.setIfInBounds_toArray, List.set_cons_zero, List.set_cons_succ]
          have HF : Hid (FrQ w w6 [(ig, MBox X0 X1 X2 X3 X4), (ib, MBox ry cy tb m cb), (ia, MBox rx cx ta n ca), (p1, BBox ry cy sb m kb), (p0, BBox rx cx sa n ka)] [fun W => ResM AT R C av W X0 X1 X2 X3 X4, fun W => FlM W ty m ky ys, fun W => FlM W tx n kx xs, fun W => FlM W tv p cv vs, fun W => FlM W tu q cu us, fun W => FlM W tb m cb ys, fun W => FlM W ta n ca xs]) := hF
          clear hF HKT HQ0 HQS0
          have HF : Hid (FrQ w w6 [(ig, MBox X0 X1 X2 X3 X4), (ib, MBox ry cy tb m cb), (ia, MBox rx cx ta n ca), (p1, BBox ry cy sb m kb), (p0, BBox rx cx sa n ka)] [fun W => ResM AT R C av W X0 X1 X2 X3 X4, fun W => FlM W tv p cv vs, fun W => FlM W tu q cu us, fun W => FlM W tb m cb ys, fun W => FlM W ta n ca xs]) := HF.out.sub (.cons_cons _ (.cons_cons _ (.cons_cons _ (.cons_cons _ (.cons_cons _ .slnil))))) (.cons_cons _ (.cons _ (.cons _ (.cons_cons _ (.cons_cons _ (.cons_cons _ (.cons_cons _ .slnil)))))))
          by_cases hk1 : k = 1
          · have hkb : ((k : Int) == 1) = true := by simp; omega
            have HK1 := hid hk1
            clear hk1
            have HKT : Hid (∀ W, Hid (FrQ w W [(ib, MBox ry cy tb m cb), (ia, MBox rx cx ta n ca), (p1, BBox ry cy sb m kb), (p0, BBox rx cx sa n ka)] [fun W => ResM AT R C av W X0 X1 X2 X3 X4, fun W => FlM W tv p cv vs, fun W => FlM W tu q cu us, fun W => FlM W tb m cb ys, fun W => FlM W ta n ca xs]) → (W.cell? ⟨p0, 0, none⟩ = some (.int .i64 rx) ∧ W.cell? ⟨p0, 1, none⟩ = some (.int .i64 cx) ∧ W.cell? ⟨p0, 2, none⟩ = some (.slice sa n ka) ∧ W.cell? ⟨p1, 0, none⟩ = some (.int .i64 ry) ∧ W.cell? ⟨p1, 1, none⟩ = some (.int .i64 cy) ∧ W.cell? ⟨p1, 2, none⟩ = some (.slice sb m kb)) ∧ Hid (FrQ w W [(ib, MBox ry cy tb m cb), (ia, MBox rx cx ta n ca), (p1, BBox ry cy sb m kb), (p0, BBox rx cx sa n ka)] [fun W => ResM AT R C av W X0 X1 X2 X3 X4, fun W => FlM W tv p cv vs, fun W => FlM W tu q cu us, fun W => FlM W tb m cb ys, fun W => FlM W ta n ca xs])) := fun W hW => by
              obtain ⟨a00, a01, a02⟩ := bcells_of (hW.out.at 3 rfl : W.heap[p0]? = some (BBox rx cx sa n ka))
              obtain ⟨a10, a11, a12⟩ := bcells_of (hW.out.at 2 rfl : W.heap[p1]? = some (BBox ry cy sb m kb))
              exact ⟨⟨a00, a01, a02, a10, a11, a12⟩, hW⟩
            have HQ0 : Hid (FrQ w w6.drew [(ig, MBox X0 X1 X2 X3 X4), (ib, MBox ry cy tb m cb), (ia, MBox rx cx ta n ca), (p1, BBox ry cy sb m kb), (p0, BBox rx cx sa n ka)] [fun W => ResM AT R C av W X0 X1 X2 X3 X4, fun W => FlM W tv p cv vs, fun W => FlM W tu q cu us, fun W => FlM W tb m cb ys, fun W => FlM W ta n ca xs]) := HF.out.drew
            have HQS0 : Hid (FrQ w w6.drew [(ib, MBox ry cy tb m cb), (ia, MBox rx cx ta n ca), (p1, BBox ry cy sb m kb), (p0, BBox rx cx sa n ka)] [fun W => ResM AT R C av W X0 X1 X2 X3 X4, fun W => FlM W tv p cv vs, fun W => FlM W tu q cu us, fun W => FlM W tb m cb ys, fun W => FlM W ta n ca xs]) := HQ0.out.sub (.cons _ (.cons_cons _ (.cons_cons _ (.cons_cons _ (.cons_cons _ .slnil))))) (.cons_cons _ (.cons_cons _ (.cons_cons _ (.cons_cons _ (.cons_cons _ .slnil)))))
            go_wp2_with fail
            refine wp_region_held_drew (S := fun W => (W.cell? ⟨p0, 0, none⟩ = some (.int .i64 rx) ∧ W.cell? ⟨p0, 1, none⟩ = some (.int .i64 cx) ∧ W.cell? ⟨p0, 2, none⟩ = some (.slice sa n ka) ∧ W.cell? ⟨p1, 0, none⟩ = some (.int .i64 ry) ∧ W.cell? ⟨p1, 1, none⟩ = some (.int .i64 cy) ∧ W.cell? ⟨p1, 2, none⟩ = some (.slice sb m kb)) ∧ Hid (FrQ w W [(ib, MBox ry cy tb m cb), (ia, MBox rx cx ta n ca), (p1, BBox ry cy sb m kb), (p0, BBox rx cx sa n ka)] [fun W => ResM AT R C av W X0 X1 X2 X3 X4, fun W => FlM W tv p cv vs, fun W => FlM W tu q cu us, fun W => FlM W tb m cb ys, fun W => FlM W ta n ca xs])) (by kernel_rfl) (HKT.out _ HQS0) (fun hHeld => ?_)
            refine take_at 0 65 (.agg #[.int .i64 rx, .int .i64 cx, .slice sa n ka]) rfl rfl (by kernel_rfl) (by kernel_rfl) (by kernel_rfl) (fun _ _ _ h => h) (Or.inl ⟨by rfl, fun w hSw => by (try dsimp only at hSw); go_simp⟩) (by assumption) ?_
            simp only [Act.put, List.setIfInBounds_toArray, List.set_cons_zero, List.set_cons_succ]
            refine take_at 2 67 (.agg #[.int .i64 ry, .int .i64 cy, .slice sb m kb]) rfl rfl (by kernel_rfl) (by kernel_rfl) (by kernel_rfl) (fun _ _ _ h => h) (Or.inl ⟨by rfl, fun w hSw => by (try dsimp only at hSw); go_simp⟩) (by assumption) ?_
            simp only [Act.put, List.setIfInBounds_toArray, List.set_cons_zero, List.set_cons_succ]
            refine wpAnyH_ready (rs := [1]) (by kernel_rfl) (by simp) ?_
            refine AllReadyH.cons (o := _) rfl (fun K hK => ?_) AllReadyH.nil
            go_simp
            refine (HOX.out _ HQ0.out.bel).mono ?_
            rintro e t1 ⟨⟨tq, kq, rfl, hf⟩, hbq⟩
            have HQ1 := hid (HQ0.out.call hbq)
            have HQ1 := hid (HQ1.out.add (g := fun W => FlM W tq n kq xs) (kept_fl _ _ _ _) hf)
            clear hbq
            unfold MV
            go_wp2_with fail
            have HQS := hid (HQ1.out.sub (.cons _ (.cons_cons _ (.cons_cons _ (.cons_cons _ (.cons_cons _ .slnil))))) (.cons _ (.cons_cons _ (.cons_cons _ (.cons_cons _ (.cons_cons _ (.cons_cons _ .slnil)))))))
            refine hK.out _ _ (HKT.out _ HQS) (fun hHeld1 => ?_)
            clear hK K HQS
            try simp only [Act.put, List.setIfInBounds_toArray, List.set_cons_zero, List.set_cons_succ]
            refine wpAnyH_ready (rs := [3]) (by kernel_rfl) (by simp) ?_
            refine AllReadyH.cons (o := _) rfl (fun K hK => ?_) AllReadyH.nil
            go_simp
            refine (HOY.out _ HQ1.out.bel).mono ?_
            rintro e t2 ⟨⟨tr, kr, rfl, hf⟩, hbq⟩
            have HQ2 := hid (HQ1.out.call hbq)
            have HQ2 := hid (HQ2.out.add (g := fun W => FlM W tr m kr ys) (kept_fl _ _ _ _) hf)
            clear hbq
            unfold MV
            go_wp2_with fail
            have HQS := hid (HQ2.out.sub (.cons _ (.cons_cons _ (.cons_cons _ (.cons_cons _ (.cons_cons _ .slnil))))) (.cons _ (.cons _ (.cons_cons _ (.cons_cons _ (.cons_cons _ (.cons_cons _ (.cons_cons _ .slnil))))))))
            refine hK.out _ _ (HKT.out _ HQS) (fun hHeld2 => ?_)
            clear hK K HQS
            try simp only [Act.put, List.setIfInBounds_toArray, List.set_cons_zero, List.set_cons_succ]
            refine wpAnyH_ready (rs := [4]) (by kernel_rfl) (by simp) ?_
            refine AllReadyH.cons (o := _) rfl (fun K hK => ?_) AllReadyH.nil
            go_simp
            refine (HPS.out _ _ _ _ _ (HQ2.out.get (g := fun W => FlM W tq n kq xs) 1 rfl) (HQ2.out.get (g := fun W => FlM W tr m kr ys) 0 rfl)).mono ?_
            rintro e t3 ⟨⟨J0, J1, J2, J3, J4, rfl, hres⟩, hbq⟩
            have HQ3 := hid (HQ2.out.call hbq)
            have HQ3 := hid (HQ3.out.add (g := fun W => ResM UT R C uv W J0 J1 J2 J3 J4) (kept_res _ _ _ _ _ _ _ _ _) hres)
            clear hbq
            clear hres
            go_wp2_with fail
            have HQS := hid (HQ3.out.sub (.cons _ (.cons_cons _ (.cons_cons _ (.cons_cons _ (.cons_cons _ .slnil))))) (.cons _ (.cons _ (.cons _ (.cons_cons _ (.cons_cons _ (.cons_cons _ (.cons_cons _ (.cons_cons _ .slnil)))))))))
            refine hK.out _ _ (HKT.out _ HQS) (fun hHeld3 => ?_)
            clear hK K HQS
            try simp only [Act.put, List.setIfInBounds_toArray, List.set_cons_zero, List.set_cons_succ]
            refine take_at 5 64 (.tuple #[.agg #[.int .i64 J0, .int .i64 J1, .slice J2 J3 J4], .int .i64 UT]) rfl rfl (by kernel_rfl) (by kernel_rfl) (by kernel_rfl) (fun _ _ _ h => h) (Or.inl ⟨by rfl, fun w hSw => by (try dsimp only at hSw); go_simp⟩) (by assumption) ?_
            simp only [Act.put, List.setIfInBounds_toArray, List.set_cons_zero, List.set_cons_succ]
            refine take_at 6 70 (.agg #[.int .i64 J0, .int .i64 J1, .slice J2 J3 J4]) rfl rfl (by kernel_rfl) (by kernel_rfl) (by kernel_rfl) (fun _ _ _ h => h) (Or.inl ⟨by rfl, fun w hSw => by (try dsimp only at hSw); go_simp⟩) (by assumption) ?_
            simp only [Act.put, List.setIfInBounds_toArray, List.set_cons_zero, List.set_cons_succ]
            refine take_at 7 71 (.int .i64 UT) rfl rfl (by kernel_rfl) (by kernel_rfl) (by kernel_rfl) (fun _ _ _ h => h) (Or.inl ⟨by rfl, fun w hSw => by (try dsimp only at hSw); go_simp⟩) (by assumption) ?_
            simp only [Act.put, List.setIfInBounds_toArray, List.set_cons_zero, List.set_cons_succ]
            refine wpAnyH_ready (rs := [8]) (by kernel_rfl) (by simp) ?_
            refine AllReadyH.cons (o := _) rfl (fun K hK => ?_) AllReadyH.nil
            obtain ⟨z0, z1, z2⟩ := mcells_of (HQ3.out.at 0 rfl : t3.heap[ig]? = some (MBox X0 X1 X2 X3 X4))
            have fz := frzM (HQ3.out.at 0 rfl : t3.heap[ig]? = some (MBox X0 X1 X2 X3 X4))
            have HQ4 : Hid (FrQ w (StoM t3 ig J0 J1 J2 J3 J4) [(ig, MBox J0 J1 J2 J3 J4), (ib, MBox ry cy tb m cb), (ia, MBox rx cx ta n ca), (p1, BBox ry cy sb m kb), (p0, BBox rx cx sa n ka)] [fun W => ResM UT R C uv W J0 J1 J2 J3 J4, fun W => FlM W tr m kr ys, fun W => FlM W tq n kq xs, fun W => ResM AT R C av W X0 X1 X2 X3 X4, fun W => FlM W tv p cv vs, fun W => FlM W tu q cu us, fun W => FlM W tb m cb ys, fun W => FlM W ta n ca xs]) := HQ3.out.sto 0 rfl
            obtain ⟨U4, hU4⟩ : ∃ X, Hid ((StoM t3 ig J0 J1 J2 J3 J4) = X) := ⟨_, rfl⟩
            rw [hU4.out] at HQ4
            have hU4' := hU4.out
            unfold StoM at hU4'
            go_simp
            go_wp2_with fail
            have HQS := hid (HQ4.out.sub (.cons _ (.cons_cons _ (.cons_cons _ (.cons_cons _ (.cons_cons _ .slnil))))) (.cons _ (.cons _ (.cons _ (.cons_cons _ (.cons_cons _ (.cons_cons _ (.cons_cons _ (.cons_cons _ .slnil)))))))))
            refine hK.out _ _ (HKT.out _ HQS) (fun hHeld4 => ?_)
            clear hK K HQS
            try simp only [Act.put, List.setIfInBounds_toArray, List.set_cons_zero, List.set_cons_succ]
            clear z0 z1 z2 fz
            refine take_at 9 20 (.int .i64 UT) rfl rfl (by kernel_rfl) (by kernel_rfl) (by kernel_rfl) (fun _ _ _ h => h) (Or.inl ⟨by rfl, fun w hSw => by (try dsimp only at hSw); go_simp⟩) (by assumption) ?_
            simp only [Act.put, List.setIfInBounds_toArray, List.set_cons_zero, List.set_cons_succ]
            refine wpAnyH_done (by kernel_rfl) ?_ _
            have HF : Hid (FrQ w U4 [(ig, MBox J0 J1 J2 J3 J4), (ib, MBox ry cy tb m cb), (ia, MBox rx cx ta n ca), (p1, BBox ry cy sb m kb), (p0, BBox rx cx sa n ka)] [fun W => ResM UT R C uv W J0 J1 J2 J3 J4, fun W => FlM W tr m kr ys, fun W => FlM W tq n kq xs, fun W => ResM AT R C av W X0 X1 X2 X3 X4, fun W => FlM W tv p cv vs, fun W => FlM W tu q cu us, fun W => FlM W tb m cb ys, fun W => FlM W ta n ca xs]) := HQ4.out
            clear HKT HQ0 HQS0
            have HF : Hid (FrQ w U4 [(ig, MBox J0 J1 J2 J3 J4), (ib, MBox ry cy tb m cb), (ia, MBox rx cx ta n ca), (p1, BBox ry cy sb m kb), (p0, BBox rx cx sa n ka)] [fun W => ResM UT R C uv W J0 J1 J2 J3 J4, fun W => ResM AT R C av W X0 X1 X2 X3 X4, fun W => FlM W tv p cv vs, fun W => FlM W tu q cu us, fun W => FlM W tb m cb ys, fun W => FlM W ta n ca xs]) := HF.out.sub (.cons_cons _ (.cons_cons _ (.cons_cons _ (.cons_cons _ (.cons_cons _ .slnil))))) (.cons_cons _ (.cons _ (.cons _ (.cons_cons _ (.cons_cons _ (.cons_cons _ (.cons_cons _ (.cons_cons _ .slnil))))))))
            have HF : Hid (FrQ w (U4.alloc (MBox 0 0 none 0 0)) [(U4.heap.size, MBox 0 0 none 0 0), (ig, MBox J0 J1 J2 J3 J4), (ib, MBox ry cy tb m cb), (ia, MBox rx cx ta n ca), (p1, BBox ry cy sb m kb), (p0, BBox rx cx sa n ka)] [fun W => ResM UT R C uv W J0 J1 J2 J3 J4, fun W => ResM AT R C av W X0 X1 X2 X3 X4, fun W => FlM W tv p cv vs, fun W => FlM W tu q cu us, fun W => FlM W tb m cb ys, fun W => FlM W ta n ca xs]) := HF.out.alloc _
            obtain ⟨V7, hV7⟩ : ∃ V, Hid (U4.alloc (MBox 0 0 none 0 0) = V) := ⟨_, rfl⟩
            obtain ⟨ih, hih⟩ : ∃ t, Hid (U4.heap.size = t) := ⟨_, rfl⟩
            rw [hV7.out, hih.out] at HF
            have hV7' := hV7.out
            unfold MBox at hV7'
            have hih' := hih.out
            by_cases hT0 : T2 = 0
            · have HRZ := hid (fun W h h2 => HRS.out W h h2 hT0)
              subst hT0
              obtain ⟨c00, c01, c02⟩ := mcells_of (HF.out.at 3 rfl : V7.heap[ia]? = some (MBox rx cx ta n ca))
              obtain ⟨c10, c11, c12⟩ := mcells_of (HF.out.at 2 rfl : V7.heap[ib]? = some (MBox ry cy tb m cb))
              go_wp2_with fail
              refine (HRZ.out _ (HF.out.get (g := fun W => FlM W ta n ca xs) 5 rfl) (HF.out.get (g := fun W => FlM W tb m cb ys) 4 rfl)).mono ?_
              rintro e u8 ⟨⟨D0, D1, D2, D3, D4, rfl, hres⟩, hb⟩
              have HF : Hid (FrQ w u8 [(ih, MBox 0 0 none 0 0), (ig, MBox J0 J1 J2 J3 J4), (ib, MBox ry cy tb m cb), (ia, MBox rx cx ta n ca), (p1, BBox ry cy sb m kb), (p0, BBox rx cx sa n ka)] [fun W => ResM UT R C uv W J0 J1 J2 J3 J4, fun W => ResM AT R C av W X0 X1 X2 X3 X4, fun W => FlM W tv p cv vs, fun W => FlM W tu q cu us, fun W => FlM W tb m cb ys, fun W => FlM W ta n ca xs]) := HF.out.call hb
              have HF : Hid (FrQ w u8 [(ih, MBox 0 0 none 0 0), (ig, MBox J0 J1 J2 J3 J4), (ib, MBox ry cy tb m cb), (ia, MBox rx cx ta n ca), (p1, BBox ry cy sb m kb), (p0, BBox rx cx sa n ka)] [fun W => ResM UT R C uv W D0 D1 D2 D3 D4, fun W => ResM UT R C uv W J0 J1 J2 J3 J4, fun W => ResM AT R C av W X0 X1 X2 X3 X4, fun W => FlM W tv p cv vs, fun W => FlM W tu q cu us, fun W => FlM W tb m cb ys, fun W => FlM W ta n ca xs]) := HF.out.add (kept_res _ _ _ _ _ _ _ _ _) hres
              clear hb
              clear hres HRZ
              obtain ⟨z0, z1, z2⟩ := mcells_of (HF.out.at 0 rfl : u8.heap[ih]? = some (MBox 0 0 none 0 0))
              have fz := frzM (HF.out.at 0 rfl : u8.heap[ih]? = some (MBox 0 0 none 0 0))
              have HF : Hid (FrQ w (StoM u8 ih D0 D1 D2 D3 D4) [(ih, MBox D0 D1 D2 D3 D4), (ig, MBox J0 J1 J2 J3 J4), (ib, MBox ry cy tb m cb), (ia, MBox rx cx ta n ca), (p1, BBox ry cy sb m kb), (p0, BBox rx cx sa n ka)] [fun W => ResM UT R C uv W D0 D1 D2 D3 D4, fun W => ResM UT R C uv W J0 J1 J2 J3 J4, fun W => ResM AT R C av W X0 X1 X2 X3 X4, fun W => FlM W tv p cv vs, fun W => FlM W tu q cu us, fun W => FlM W tb m cb ys, fun W => FlM W ta n ca xs]) := HF.out.sto 0 rfl
              obtain ⟨U9, hU9⟩ : ∃ V, Hid ((StoM u8 ih D0 D1 D2 D3 D4) = V) := ⟨_, rfl⟩
              rw [hU9.out] at HF
              have hU9' := hU9.out
              unfold StoM at hU9'
              obtain ⟨c00, c01, c02⟩ := mcells_of (HF.out.at 1 rfl : U9.heap[ig]? = some (MBox J0 J1 J2 J3 J4))
              obtain ⟨c10, c11, c12⟩ := mcells_of (HF.out.at 0 rfl : U9.heap[ih]? = some (MBox D0 D1 D2 D3 D4))
              go_wp2_with fail
              refine (told_res UT R C uv _ _ _ _ _ _ _ _ _ _ _ (HF.out.get (g := fun W => ResM UT R C uv W J0 J1 J2 J3 J4) 1 rfl) (fun _ => (HF.out.get (g := fun W => ResM UT R C uv W D0 D1 D2 D3 D4) 0 rfl))).mono ?_
              rintro e u10 ⟨rfl, hb⟩
              have HF : Hid (FrQ w u10 [(ih, MBox D0 D1 D2 D3 D4), (ig, MBox J0 J1 J2 J3 J4), (ib, MBox ry cy tb m cb), (ia, MBox rx cx ta n ca), (p1, BBox ry cy sb m kb), (p0, BBox rx cx sa n ka)] [fun W => ResM UT R C uv W D0 D1 D2 D3 D4, fun W => ResM UT R C uv W J0 J1 J2 J3 J4, fun W => ResM AT R C av W X0 X1 X2 X3 X4, fun W => FlM W tv p cv vs, fun W => FlM W tu q cu us, fun W => FlM W tb m cb ys, fun W => FlM W ta n ca xs]) := HF.out.call hb
              clear hb
              have HF : Hid (FrQ w u10 [(ib, MBox ry cy tb m cb), (ia, MBox rx cx ta n ca), (p1, BBox ry cy sb m kb), (p0, BBox rx cx sa n ka)] [fun W => FlM W tv p cv vs, fun W => FlM W tu q cu us, fun W => FlM W tb m cb ys, fun W => FlM W ta n ca xs]) := HF.out.sub (.cons _ (.cons _ (.cons_cons _ (.cons_cons _ (.cons_cons _ (.cons_cons _ .slnil)))))) (.cons _ (.cons _ (.cons _ (.cons_cons _ (.cons_cons _ (.cons_cons _ (.cons_cons _ .slnil)))))))
              go_wp2_with fail
              have hlk := HLT.out
              refine ⟨⟨k + 1, by omega, by go_num, HF⟩, ?_⟩
              simp [intOf]; omega
            · have hne : (T2 == 0) = false := by simpa using hT0
              have hmn := HNS.out hT0
              have HNZ := hid hT0
              clear hT0
              subst hmn
              obtain ⟨c00, c01, c02⟩ := mcells_of (HF.out.at 1 rfl : V7.heap[ig]? = some (MBox J0 J1 J2 J3 J4))
              obtain ⟨c10, c11, c12⟩ := mcells_of (HF.out.at 0 rfl : V7.heap[ih]? = some (MBox 0 0 none 0 0))
              go_wp2_with fail
              refine (told_res UT R C uv _ _ _ _ _ _ _ _ _ _ _ (HF.out.get (g := fun W => ResM UT R C uv W J0 J1 J2 J3 J4) 0 rfl) (fun h => absurd h HNZ.out)).mono ?_
              rintro e u8 ⟨rfl, hb⟩
              have HF : Hid (FrQ w u8 [(ih, MBox 0 0 none 0 0), (ig, MBox J0 J1 J2 J3 J4), (ib, MBox ry cy tb m cb), (ia, MBox rx cx ta n ca), (p1, BBox ry cy sb m kb), (p0, BBox rx cx sa n ka)] [fun W => ResM UT R C uv W J0 J1 J2 J3 J4, fun W => ResM AT R C av W X0 X1 X2 X3 X4, fun W => FlM W tv p cv vs, fun W => FlM W tu q cu us, fun W => FlM W tb m cb ys, fun W => FlM W ta n ca xs]) := HF.out.call hb
              clear hb
              have HF : Hid (FrQ w u8 [(ib, MBox ry cy tb m cb), (ia, MBox rx cx ta n ca), (p1, BBox ry cy sb m kb), (p0, BBox rx cx sa n ka)] [fun W => FlM W tv p cv vs, fun W => FlM W tu q cu us, fun W => FlM W tb m cb ys, fun W => FlM W ta n ca xs]) := HF.out.sub (.cons _ (.cons _ (.cons_cons _ (.cons_cons _ (.cons_cons _ (.cons_cons _ .slnil)))))) (.cons _ (.cons _ (.cons_cons _ (.cons_cons _ (.cons_cons _ (.cons_cons _ .slnil))))))
              go_wp2_with fail
              have hlk := HLT.out
              refine ⟨⟨k + 1, by omega, by go_num, HF⟩, ?_⟩
              simp [intOf]; omega
          · have hkb : ((k : Int) == 1) = false := by simp; omega
            have HK1 := hid hk1
            clear hk1
            have HF : Hid (FrQ w (w6.alloc (MBox 0 0 none 0 0)) [(w6.heap.size, MBox 0 0 none 0 0), (ig, MBox X0 X1 X2 X3 X4), (ib, MBox ry cy tb m cb), (ia, MBox rx cx ta n ca), (p1, BBox ry cy sb m kb), (p0, BBox rx cx sa n ka)] [fun W => ResM AT R C av W X0 X1 X2 X3 X4, fun W => FlM W tv p cv vs, fun W => FlM W tu q cu us, fun W => FlM W tb m cb ys, fun W => FlM W ta n ca xs]) := HF.out.alloc _
            obtain ⟨V7, hV7⟩ : ∃ V, Hid (w6.alloc (MBox 0 0 none 0 0) = V) := ⟨_, rfl⟩
            obtain ⟨ih, hih⟩ : ∃ t, Hid (w6.heap.size = t) := ⟨_, rfl⟩
            rw [hV7.out, hih.out] at HF
            have hV7' := hV7.out
            unfold MBox at hV7'
            have hih' := hih.out
            by_cases hT0 : T2 = 0
            · have HRZ := hid (fun W h h2 => HRA.out W h h2 hT0)
              subst hT0
              obtain ⟨c00, c01, c02⟩ := mcells_of (HF.out.at 3 rfl : V7.heap[ia]? = some (MBox rx cx ta n ca))
              obtain ⟨c10, c11, c12⟩ := mcells_of (HF.out.at 2 rfl : V7.heap[ib]? = some (MBox ry cy tb m cb))
              go_wp2_with fail
              refine (HRZ.out _ (HF.out.get (g := fun W => FlM W ta n ca xs) 4 rfl) (HF.out.get (g := fun W => FlM W tb m cb ys) 3 rfl)).mono ?_
              rintro e u8 ⟨⟨D0, D1, D2, D3, D4, rfl, hres⟩, hb⟩
              have HF : Hid (FrQ w u8 [(ih, MBox 0 0 none 0 0), (ig, MBox X0 X1 X2 X3 X4), (ib, MBox ry cy tb m cb), (ia, MBox rx cx ta n ca), (p1, BBox ry cy sb m kb), (p0, BBox rx cx sa n ka)] [fun W => ResM AT R C av W X0 X1 X2 X3 X4, fun W => FlM W tv p cv vs, fun W => FlM W tu q cu us, fun W => FlM W tb m cb ys, fun W => FlM W ta n ca xs]) := HF.out.call hb
              have HF : Hid (FrQ w u8 [(ih, MBox 0 0 none 0 0), (ig, MBox X0 X1 X2 X3 X4), (ib, MBox ry cy tb m cb), (ia, MBox rx cx ta n ca), (p1, BBox ry cy sb m kb), (p0, BBox rx cx sa n ka)] [fun W => ResM AT R C av W D0 D1 D2 D3 D4, fun W => ResM AT R C av W X0 X1 X2 X3 X4, fun W => FlM W tv p cv vs, fun W => FlM W tu q cu us, fun W => FlM W tb m cb ys, fun W => FlM W ta n ca xs]) := HF.out.add (kept_res _ _ _ _ _ _ _ _ _) hres
              clear hb
              clear hres HRZ
              obtain ⟨z0, z1, z2⟩ := mcells_of (HF.out.at 0 rfl : u8.heap[ih]? = some (MBox 0 0 none 0 0))
              have fz := frzM (HF.out.at 0 rfl : u8.heap[ih]? = some (MBox 0 0 none 0 0))
              have HF : Hid (FrQ w (StoM u8 ih D0 D1 D2 D3 D4) [(ih, MBox D0 D1 D2 D3 D4), (ig, MBox X0 X1 X2 X3 X4), (ib, MBox ry cy tb m cb), (ia, MBox rx cx ta n ca), (p1, BBox ry cy sb m kb), (p0, BBox rx cx sa n ka)] [fun W => ResM AT R C av W D0 D1 D2 D3 D4, fun W => ResM AT R C av W X0 X1 X2 X3 X4, fun W => FlM W tv p cv vs, fun W => FlM W tu q cu us, fun W => FlM W tb m cb ys, fun W => FlM W ta n ca xs]) := HF.out.sto 0 rfl
              obtain ⟨U9, hU9⟩ : ∃ V, Hid ((StoM u8 ih D0 D1 D2 D3 D4) = V) := ⟨_, rfl⟩
              rw [hU9.out] at HF
              have hU9' := hU9.out
              unfold StoM at hU9'
              obtain ⟨c00, c01, c02⟩ := mcells_of (HF.out.at 1 rfl : U9.heap[ig]? = some (MBox X0 X1 X2 X3 X4))
              obtain ⟨c10, c11, c12⟩ := mcells_of (HF.out.at 0 rfl : U9.heap[ih]? = some (MBox D0 D1 D2 D3 D4))
              go_wp2_with fail
              refine (told_res AT R C av _ _ _ _ _ _ _ _ _ _ _ (HF.out.get (g := fun W => ResM AT R C av W X0 X1 X2 X3 X4) 1 rfl) (fun _ => (HF.out.get (g := fun W => ResM AT R C av W D0 D1 D2 D3 D4) 0 rfl))).mono ?_
              rintro e u10 ⟨rfl, hb⟩
              have HF : Hid (FrQ w u10 [(ih, MBox D0 D1 D2 D3 D4), (ig, MBox X0 X1 X2 X3 X4), (ib, MBox ry cy tb m cb), (ia, MBox rx cx ta n ca), (p1, BBox ry cy sb m kb), (p0, BBox rx cx sa n ka)] [fun W => ResM AT R C av W D0 D1 D2 D3 D4, fun W => ResM AT R C av W X0 X1 X2 X3 X4, fun W => FlM W tv p cv vs, fun W => FlM W tu q cu us, fun W => FlM W tb m cb ys, fun W => FlM W ta n ca xs]) := HF.out.call hb
              clear hb
              have HF : Hid (FrQ w u10 [(ib, MBox ry cy tb m cb), (ia, MBox rx cx ta n ca), (p1, BBox ry cy sb m kb), (p0, BBox rx cx sa n ka)] [fun W => FlM W tv p cv vs, fun W => FlM W tu q cu us, fun W => FlM W tb m cb ys, fun W => FlM W ta n ca xs]) := HF.out.sub (.cons _ (.cons _ (.cons_cons _ (.cons_cons _ (.cons_cons _ (.cons_cons _ .slnil)))))) (.cons _ (.cons _ (.cons_cons _ (.cons_cons _ (.cons_cons _ (.cons_cons _ .slnil))))))
              go_wp2_with fail
              have hlk := HLT.out
              refine ⟨⟨k + 1, by omega, by go_num, HF⟩, ?_⟩
              simp [intOf]; omega
            · have hne : (T2 == 0) = false := by simpa using hT0
              have hmn := HNA.out hT0
              have HNZ := hid hT0
              clear hT0
              subst hmn
              obtain ⟨c00, c01, c02⟩ := mcells_of (HF.out.at 1 rfl : V7.heap[ig]? = some (MBox X0 X1 X2 X3 X4))
              obtain ⟨c10, c11, c12⟩ := mcells_of (HF.out.at 0 rfl : V7.heap[ih]? = some (MBox 0 0 none 0 0))
              go_wp2_with fail
              refine (told_res AT R C av _ _ _ _ _ _ _ _ _ _ _ (HF.out.get (g := fun W => ResM AT R C av W X0 X1 X2 X3 X4) 0 rfl) (fun h => absurd h HNZ.out)).mono ?_
              rintro e u8 ⟨rfl, hb⟩
              have HF : Hid (FrQ w u8 [(ih, MBox 0 0 none 0 0), (ig, MBox X0 X1 X2 X3 X4), (ib, MBox ry cy tb m cb), (ia, MBox rx cx ta n ca), (p1, BBox ry cy sb m kb), (p0, BBox rx cx sa n ka)] [fun W => ResM AT R C av W X0 X1 X2 X3 X4, fun W => FlM W tv p cv vs, fun W => FlM W tu q cu us, fun W => FlM W tb m cb ys, fun W => FlM W ta n ca xs]) := HF.out.call hb
              clear hb
              have HF : Hid (FrQ w u8 [(ib, MBox ry cy tb m cb), (ia, MBox rx cx ta n ca), (p1, BBox ry cy sb m kb), (p0, BBox rx cx sa n ka)] [fun W => FlM W tv p cv vs, fun W => FlM W tu q cu us, fun W => FlM W tb m cb ys, fun W => FlM W ta n ca xs]) := HF.out.sub (.cons _ (.cons _ (.cons_cons _ (.cons_cons _ (.cons_cons _ (.cons_cons _ .slnil)))))) (.cons _ (.cons_cons _ (.cons_cons _ (.cons_cons _ (.cons_cons _ .slnil)))))
              go_wp2_with fail
              have hlk := HLT.out
              refine ⟨⟨k + 1, by omega, by go_num, HF⟩, ?_⟩
              simp [intOf]; omega
      · obtain rfl : k = 2 := by omega
        clear hk
        have HF : Hid (FrQ w (wr.alloc (MBox 0 0 none 0 0)) [(wr.heap.size, MBox 0 0 none 0 0), (ib, MBox ry cy tb m cb), (ia, MBox rx cx ta n ca), (p1, BBox ry cy sb m kb), (p0, BBox rx cx sa n ka)] [fun W => FlM W tv p cv vs, fun W => FlM W tu q cu us, fun W => FlM W tb m cb ys, fun W => FlM W ta n ca xs]) := HF.out.alloc _
        obtain ⟨V6, hV6⟩ : ∃ V, Hid (wr.alloc (MBox 0 0 none 0 0) = V) := ⟨_, rfl⟩
        obtain ⟨ih, hih⟩ : ∃ t, Hid (wr.heap.size = t) := ⟨_, rfl⟩
        rw [hV6.out, hih.out] at HF
        have hV6' := hV6.out
        unfold MBox at hV6'
        have hih' := hih.out
        go_wp2_with fail
        refine (fq_any sn _).mono ?_
        rintro e ww ⟨rfl, hw⟩
        rw [hw]
        clear hw
        go_wp2_with fail
        refine (HFINS.out _).mono ?_
        rintro e ww ⟨rfl, hw⟩
        rw [hw]
        clear hw
        go_wp2_with fail
        refine (HIF4.out _).mono ?_
        rintro e ww ⟨rfl, hw⟩
        rw [hw]
        clear hw
        go_wp2_with fail
        refine (HFS.out _ _ (nblkM _ _)).mono ?_
        rintro e ww ⟨rfl, hw⟩
        have HF : Hid (FrQ w (V6.alloc (I2 EA NE)) [(ih, MBox 0 0 none 0 0), (ib, MBox ry cy tb m cb), (ia, MBox rx cx ta n ca), (p1, BBox ry cy sb m kb), (p0, BBox rx cx sa n ka)] [fun W => FlM W tv p cv vs, fun W => FlM W tu q cu us, fun W => FlM W tb m cb ys, fun W => FlM W ta n ca xs]) := HF.out.call ((Below.refl _ _).alloc (Nat.le_refl _) _)
        obtain ⟨V7, hV7⟩ : ∃ V, Hid (V6.alloc (I2 EA NE) = V) := ⟨_, rfl⟩
        rw [hw, hV7.out]
        rw [hV7.out] at HF
        clear hw
        go_upto_if 98 with fail
        go_cut [24] from 29 (fun s24 W => s24 = .int .i64 CT ∧ ∃ (Z0 Z1 : Int) (Z2 : Option Addr) (Z3 Z4 : Nat), Hid (FrQ w W [(ih, MBox Z0 Z1 Z2 Z3 Z4), (ib, MBox ry cy tb m cb), (ia, MBox rx cx ta n ca), (p1, BBox ry cy sb m kb), (p0, BBox rx cx sa n ka)] [fun W => CT = 0 → ResM CT R C cv2 W Z0 Z1 Z2 Z3 Z4, fun W => FlM W tv p cv vs, fun W => FlM W tu q cu us, fun W => FlM W tb m cb ys, fun W => FlM W ta n ca xs]))
        case first =>
          by_cases hT0 : SE = 0
          · have HRZ := hid (fun W h => HRC.out W h hT0)
            subst hT0
            have HKT : Hid (∀ W, Hid (FrQ w W [(ib, MBox ry cy tb m cb), (ia, MBox rx cx ta n ca), (p1, BBox ry cy sb m kb), (p0, BBox rx cx sa n ka)] [fun W => FlM W tv p cv vs, fun W => FlM W tu q cu us, fun W => FlM W tb m cb ys, fun W => FlM W ta n ca xs]) → (W.cell? ⟨ia, 0, none⟩ = some (.int .i64 rx) ∧ W.cell? ⟨ia, 1, none⟩ = some (.int .i64 cx) ∧ W.cell? ⟨ia, 2, none⟩ = some (.slice ta n ca)) ∧ Hid (FrQ w W [(ib, MBox ry cy tb m cb), (ia, MBox rx cx ta n ca), (p1, BBox ry cy sb m kb), (p0, BBox rx cx sa n ka)] [fun W => FlM W tv p cv vs, fun W => FlM W tu q cu us, fun W => FlM W tb m cb ys, fun W => FlM W ta n ca xs])) := fun W hW => by
              obtain ⟨a00, a01, a02⟩ := mcells_of (hW.out.at 1 rfl : W.heap[ia]? = some (MBox rx cx ta n ca))
              exact ⟨⟨a00, a01, a02⟩, hW⟩
            have HQ0 : Hid (FrQ w V7.drew [(ih, MBox 0 0 none 0 0), (ib, MBox ry cy tb m cb), (ia, MBox rx cx ta n ca), (p1, BBox ry cy sb m kb), (p0, BBox rx cx sa n ka)] [fun W => FlM W tv p cv vs, fun W => FlM W tu q cu us, fun W => FlM W tb m cb ys, fun W => FlM W ta n ca xs]) := HF.out.drew
            have HQS0 : Hid (FrQ w V7.drew [(ib, MBox ry cy tb m cb), (ia, MBox rx cx ta n ca), (p1, BBox ry cy sb m kb), (p0, BBox rx cx sa n ka)] [fun W => FlM W tv p cv vs, fun W => FlM W tu q cu us, fun W => FlM W tb m cb ys, fun W => FlM W ta n ca xs]) := HQ0.out.sub (.cons _ (.cons_cons _ (.cons_cons _ (.cons_cons _ (.cons_cons _ .slnil))))) (.cons_cons _ (.cons_cons _ (.cons_cons _ (.cons_cons _ .slnil))))
            go_wp2_with fail
            refine wp_region_held_drew (S := fun W => (W.cell? ⟨ia, 0, none⟩ = some (.int .i64 rx) ∧ W.cell? ⟨ia, 1, none⟩ = some (.int .i64 cx) ∧ W.cell? ⟨ia, 2, none⟩ = some (.slice ta n ca)) ∧ Hid (FrQ w W [(ib, MBox ry cy tb m cb), (ia, MBox rx cx ta n ca), (p1, BBox ry cy sb m kb), (p0, BBox rx cx sa n ka)] [fun W => FlM W tv p cv vs, fun W => FlM W tu q cu us, fun W => FlM W tb m cb ys, fun W => FlM W ta n ca xs])) (by kernel_rfl) (HKT.out _ HQS0) (fun hHeld => ?_)
            refine take_at 0 100 (.agg #[.int .i64 rx, .int .i64 cx, .slice ta n ca]) rfl rfl (by kernel_rfl) (by kernel_rfl) (by kernel_rfl) (fun _ _ _ h => h) (Or.inl ⟨by rfl, fun w hSw => by (try dsimp only at hSw); go_simp⟩) (by assumption) ?_
            simp only [Act.put, List.setIfInBounds_toArray, List.set_cons_zero, List.set_cons_succ]
            refine take_at 1 101 (.int .u64 sn) rfl rfl (by kernel_rfl) (by kernel_rfl) (by kernel_rfl) (fun _ _ _ h => h) (Or.inl ⟨by rfl, fun w hSw => by (try dsimp only at hSw); go_simp⟩) (by assumption) ?_
            simp only [Act.put, List.setIfInBounds_toArray, List.set_cons_zero, List.set_cons_succ]
            refine wpAnyH_ready (rs := [2]) (by kernel_rfl) (by simp) ?_
            refine AllReadyH.cons (o := _) rfl (fun K hK => ?_) AllReadyH.nil
            go_simp
            refine (fq_any sn _).mono ?_
            rintro e ww ⟨rfl, hw⟩
            rw [hw]
            clear hw
            go_wp2_with fail
            have HQS := hid (HQ0.out.sub (.cons _ (.cons_cons _ (.cons_cons _ (.cons_cons _ (.cons_cons _ .slnil))))) (.cons_cons _ (.cons_cons _ (.cons_cons _ (.cons_cons _ .slnil)))))
            refine hK.out _ _ (HKT.out _ HQS) (fun hHeld1 => ?_)
            clear hK K HQS
            try simp only [Act.put, List.setIfInBounds_toArray, List.set_cons_zero, List.set_cons_succ]
            refine wpAnyH_ready (rs := [3]) (by kernel_rfl) (by simp) ?_
            refine AllReadyH.cons (o := _) rfl (fun K hK => ?_) AllReadyH.nil
            go_simp
            refine (HRZ.out _ (HQ0.out.get (g := fun W => FlM W ta n ca xs) 3 rfl)).mono ?_
            rintro e t2 ⟨⟨D0, D1, D2, D3, D4, rfl, hres⟩, hbq⟩
            have HQ2 := hid (HQ0.out.call hbq)
            have HQ2 := hid (HQ2.out.add (g := fun W => CT = 0 → ResM CT R C cv2 W D0 D1 D2 D3 D4) (kept_resi _ _ _ _ _ _ _ _ _) (fun _ => hres))
            clear hbq
            clear hres
            go_wp2_with fail
            have HQS := hid (HQ2.out.sub (.cons _ (.cons_cons _ (.cons_cons _ (.cons_cons _ (.cons_cons _ .slnil))))) (.cons _ (.cons_cons _ (.cons_cons _ (.cons_cons _ (.cons_cons _ .slnil))))))
            refine hK.out _ _ (HKT.out _ HQS) (fun hHeld2 => ?_)
            clear hK K HQS
            try simp only [Act.put, List.setIfInBounds_toArray, List.set_cons_zero, List.set_cons_succ]
            refine take_at 4 99 (.tuple #[.agg #[.int .i64 D0, .int .i64 D1, .slice D2 D3 D4], .int .i64 CT]) rfl rfl (by kernel_rfl) (by kernel_rfl) (by kernel_rfl) (fun _ _ _ h => h) (Or.inl ⟨by rfl, fun w hSw => by (try dsimp only at hSw); go_simp⟩) (by assumption) ?_
            simp only [Act.put, List.setIfInBounds_toArray, List.set_cons_zero, List.set_cons_succ]
            refine take_at 5 104 (.agg #[.int .i64 D0, .int .i64 D1, .slice D2 D3 D4]) rfl rfl (by kernel_rfl) (by kernel_rfl) (by kernel_rfl) (fun _ _ _ h => h) (Or.inl ⟨by rfl, fun w hSw => by (try dsimp only at hSw); go_simp⟩) (by assumption) ?_
            simp only [Act.put, List.setIfInBounds_toArray, List.set_cons_zero, List.set_cons_succ]
            refine take_at 6 105 (.int .i64 CT) rfl rfl (by kernel_rfl) (by kernel_rfl) (by kernel_rfl) (fun _ _ _ h => h) (Or.inl ⟨by rfl, fun w hSw => by (try dsimp only at hSw); go_simp⟩) (by assumption) ?_
            simp only [Act.put, List.setIfInBounds_toArray, List.set_cons_zero, List.set_cons_succ]
            refine wpAnyH_ready (rs := [7]) (by kernel_rfl) (by simp) ?_
            refine AllReadyH.cons (o := _) rfl (fun K hK => ?_) AllReadyH.nil
            obtain ⟨z0, z1, z2⟩ := mcells_of (HQ2.out.at 0 rfl : t2.heap[ih]? = some (MBox 0 0 none 0 0))
            have fz := frzM (HQ2.out.at 0 rfl : t2.heap[ih]? = some (MBox 0 0 none 0 0))
            have HQ3 : Hid (FrQ w (StoM t2 ih D0 D1 D2 D3 D4) [(ih, MBox D0 D1 D2 D3 D4), (ib, MBox ry cy tb m cb), (ia, MBox rx cx ta n ca), (p1, BBox ry cy sb m kb), (p0, BBox rx cx sa n ka)] [fun W => CT = 0 → ResM CT R C cv2 W D0 D1 D2 D3 D4, fun W => FlM W tv p cv vs, fun W => FlM W tu q cu us, fun W => FlM W tb m cb ys, fun W => FlM W ta n ca xs]) := HQ2.out.sto 0 rfl
            obtain ⟨U3, hU3⟩ : ∃ X, Hid ((StoM t2 ih D0 D1 D2 D3 D4) = X) := ⟨_, rfl⟩
            rw [hU3.out] at HQ3
            have hU3' := hU3.out
            unfold StoM at hU3'
            go_simp
            go_wp2_with fail
            have HQS := hid (HQ3.out.sub (.cons _ (.cons_cons _ (.cons_cons _ (.cons_cons _ (.cons_cons _ .slnil))))) (.cons _ (.cons_cons _ (.cons_cons _ (.cons_cons _ (.cons_cons _ .slnil))))))
            refine hK.out _ _ (HKT.out _ HQS) (fun hHeld3 => ?_)
            clear hK K HQS
            try simp only [Act.put, List.setIfInBounds_toArray, List.set_cons_zero, List.set_cons_succ]
            clear z0 z1 z2 fz
            refine take_at 8 24 (.int .i64 CT) rfl rfl (by kernel_rfl) (by kernel_rfl) (by kernel_rfl) (fun _ _ _ h => h) (Or.inl ⟨by rfl, fun w hSw => by (try dsimp only at hSw); go_simp⟩) (by assumption) ?_
            simp only [Act.put, List.setIfInBounds_toArray, List.set_cons_zero, List.set_cons_succ]
            refine wpAnyH_done (by kernel_rfl) ?_ _
            have HF : Hid (FrQ w U3 [(ih, MBox D0 D1 D2 D3 D4), (ib, MBox ry cy tb m cb), (ia, MBox rx cx ta n ca), (p1, BBox ry cy sb m kb), (p0, BBox rx cx sa n ka)] [fun W => CT = 0 → ResM CT R C cv2 W D0 D1 D2 D3 D4, fun W => FlM W tv p cv vs, fun W => FlM W tu q cu us, fun W => FlM W tb m cb ys, fun W => FlM W ta n ca xs]) := HQ3.out
            clear HKT HQ0 HQS0
            go_wp2_with fail
            go_meet
            exact ⟨rfl, _, _, _, _, _, HF⟩
          · have hne : (SE == 0) = false := by simpa using hT0
            have hmn := HNC.out hT0
            have HNZ := hid hT0
            clear hT0
            have HF : Hid (FrQ w V7 [(ih, MBox 0 0 none 0 0), (ib, MBox ry cy tb m cb), (ia, MBox rx cx ta n ca), (p1, BBox ry cy sb m kb), (p0, BBox rx cx sa n ka)] [fun W => CT = 0 → ResM CT R C cv2 W 0 0 none 0 0, fun W => FlM W tv p cv vs, fun W => FlM W tu q cu us, fun W => FlM W tb m cb ys, fun W => FlM W ta n ca xs]) := HF.out.add (kept_resi _ _ _ _ _ _ _ _ _) (fun h => absurd (hmn.symm.trans h) HNZ.out)
            go_wp2_with fail
            go_meet
            exact ⟨by rw [hmn], _, _, _, _, _, HF⟩
        case rest =>
          obtain ⟨rfl, Z0, Z1, Z2, Z3, Z4, HF⟩ := hcut
          obtain ⟨c00, c01, c02⟩ := bcells_of (HF.out.at 4 rfl : wc.heap[p0]? = some (BBox rx cx sa n ka))
          go_wp2_with fail
          refine (HOX.out _ HF.out.bel).mono ?_
          rintro e u8 ⟨⟨tx, kx, rfl, hf⟩, hb⟩
          have HF : Hid (FrQ w u8 [(ih, MBox Z0 Z1 Z2 Z3 Z4), (ib, MBox ry cy tb m cb), (ia, MBox rx cx ta n ca), (p1, BBox ry cy sb m kb), (p0, BBox rx cx sa n ka)] [fun W => CT = 0 → ResM CT R C cv2 W Z0 Z1 Z2 Z3 Z4, fun W => FlM W tv p cv vs, fun W => FlM W tu q cu us, fun W => FlM W tb m cb ys, fun W => FlM W ta n ca xs]) := HF.out.call hb
          have HF : Hid (FrQ w u8 [(ih, MBox Z0 Z1 Z2 Z3 Z4), (ib, MBox ry cy tb m cb), (ia, MBox rx cx ta n ca), (p1, BBox ry cy sb m kb), (p0, BBox rx cx sa n ka)] [fun W => FlM W tx n kx xs, fun W => CT = 0 → ResM CT R C cv2 W Z0 Z1 Z2 Z3 Z4, fun W => FlM W tv p cv vs, fun W => FlM W tu q cu us, fun W => FlM W tb m cb ys, fun W => FlM W ta n ca xs]) := HF.out.add (kept_fl _ _ _ _) hf
          clear hb
          unfold MV
          clear hf
          go_wp2_with fail
          refine (fq_any sn _).mono ?_
          rintro e ww ⟨rfl, hw⟩
          rw [hw]
          clear hw
          go_wp2_with fail
          refine (HPC.out _ _ _ (HF.out.get (g := fun W => FlM W tx n kx xs) 0 rfl)).mono ?_
          rintro e u9 ⟨⟨X0, X1, X2, X3, X4, rfl, hres⟩, hb⟩
          have HF : Hid (FrQ w u9 [(ih, MBox Z0 Z1 Z2 Z3 Z4), (ib, MBox ry cy tb m cb), (ia, MBox rx cx ta n ca), (p1, BBox ry cy sb m kb), (p0, BBox rx cx sa n ka)] [fun W => FlM W tx n kx xs, fun W => CT = 0 → ResM CT R C cv2 W Z0 Z1 Z2 Z3 Z4, fun W => FlM W tv p cv vs, fun W => FlM W tu q cu us, fun W => FlM W tb m cb ys, fun W => FlM W ta n ca xs]) := HF.out.call hb
          have HF : Hid (FrQ w u9 [(ih, MBox Z0 Z1 Z2 Z3 Z4), (ib, MBox ry cy tb m cb), (ia, MBox rx cx ta n ca), (p1, BBox ry cy sb m kb), (p0, BBox rx cx sa n ka)] [fun W => ResM CT R C cv2 W X0 X1 X2 X3 X4, fun W => FlM W tx n kx xs, fun W => CT = 0 → ResM CT R C cv2 W Z0 Z1 Z2 Z3 Z4, fun W => FlM W tv p cv vs, fun W => FlM W tu q cu us, fun W => FlM W tb m cb ys, fun W => FlM W ta n ca xs]) := HF.out.add (kept_res _ _ _ _ _ _ _ _ _) hres
          clear hb
          clear hres
          have HF : Hid (FrQ w (u9.alloc (MBox X0 X1 X2 X3 X4)) [(u9.heap.size, MBox X0 X1 X2 X3 X4), (ih, MBox Z0 Z1 Z2 Z3 Z4), (ib, MBox ry cy tb m cb), (ia, MBox rx cx ta n ca), (p1, BBox ry cy sb m kb), (p0, BBox rx cx sa n ka)] [fun W => ResM CT R C cv2 W X0 X1 X2 X3 X4, fun W => FlM W tx n kx xs, fun W => CT = 0 → ResM CT R C cv2 W Z0 Z1 Z2 Z3 Z4, fun W => FlM W tv p cv vs, fun W => FlM W tu q cu us, fun W => FlM W tb m cb ys, fun W => FlM W ta n ca xs]) := HF.out.alloc _
          obtain ⟨V10, hV10⟩ : ∃ V, Hid (u9.alloc (MBox X0 X1 X2 X3 X4) = V) := ⟨_, rfl⟩
          obtain ⟨ig, hig⟩ : ∃ t, Hid (u9.heap.size = t) := ⟨_, rfl⟩
          rw [hV10.out, hig.out] at HF
          have hV10' := hV10.out
          unfold MBox at hV10'
          have hig' := hig.out
          have HF : Hid (FrQ w V10 [(ig, MBox X0 X1 X2 X3 X4), (ih, MBox Z0 Z1 Z2 Z3 Z4), (ib, MBox ry cy tb m cb), (ia, MBox rx cx ta n ca), (p1, BBox ry cy sb m kb), (p0, BBox rx cx sa n ka)] [fun W => ResM CT R C cv2 W X0 X1 X2 X3 X4, fun W => CT = 0 → ResM CT R C cv2 W Z0 Z1 Z2 Z3 Z4, fun W => FlM W tv p cv vs, fun W => FlM W tu q cu us, fun W => FlM W tb m cb ys, fun W => FlM W ta n ca xs]) := HF.out.sub (.cons_cons _ (.cons_cons _ (.cons_cons _ (.cons_cons _ (.cons_cons _ (.cons_cons _ .slnil)))))) (.cons_cons _ (.cons _ (.cons_cons _ (.cons_cons _ (.cons_cons _ (.cons_cons _ (.cons_cons _ .slnil)))))))
          obtain ⟨c00, c01, c02⟩ := mcells_of (HF.out.at 0 rfl : V10.heap[ig]? = some (MBox X0 X1 X2 X3 X4))
          obtain ⟨c10, c11, c12⟩ := mcells_of (HF.out.at 1 rfl : V10.heap[ih]? = some (MBox Z0 Z1 Z2 Z3 Z4))
          go_wp2_with fail
          refine (told_res CT R C cv2 _ _ _ _ _ _ _ _ _ _ _ (HF.out.get (g := fun W => ResM CT R C cv2 W X0 X1 X2 X3 X4) 0 rfl) (HF.out.get (g := fun W => CT = 0 → ResM CT R C cv2 W Z0 Z1 Z2 Z3 Z4) 1 rfl)).mono ?_
          rintro e u11 ⟨rfl, hb⟩
          have HF : Hid (FrQ w u11 [(ig, MBox X0 X1 X2 X3 X4), (ih, MBox Z0 Z1 Z2 Z3 Z4), (ib, MBox ry cy tb m cb), (ia, MBox rx cx ta n ca), (p1, BBox ry cy sb m kb), (p0, BBox rx cx sa n ka)] [fun W => ResM CT R C cv2 W X0 X1 X2 X3 X4, fun W => CT = 0 → ResM CT R C cv2 W Z0 Z1 Z2 Z3 Z4, fun W => FlM W tv p cv vs, fun W => FlM W tu q cu us, fun W => FlM W tb m cb ys, fun W => FlM W ta n ca xs]) := HF.out.call hb
          clear hb
          go_wp2_with fail
          refine (awake8_any _).mono ?_
          rintro e u12 ⟨rfl, hb⟩
          have HF : Hid (FrQ w u12 [(ig, MBox X0 X1 X2 X3 X4), (ih, MBox Z0 Z1 Z2 Z3 Z4), (ib, MBox ry cy tb m cb), (ia, MBox rx cx ta n ca), (p1, BBox ry cy sb m kb), (p0, BBox rx cx sa n ka)] [fun W => ResM CT R C cv2 W X0 X1 X2 X3 X4, fun W => CT = 0 → ResM CT R C cv2 W Z0 Z1 Z2 Z3 Z4, fun W => FlM W tv p cv vs, fun W => FlM W tu q cu us, fun W => FlM W tb m cb ys, fun W => FlM W ta n ca xs]) := HF.out.call hb
          clear hb
          have HF : Hid (FrQ w u12 [(ig, MBox X0 X1 X2 X3 X4), (ih, MBox Z0 Z1 Z2 Z3 Z4), (ib, MBox ry cy tb m cb), (ia, MBox rx cx ta n ca), (p1, BBox ry cy sb m kb), (p0, BBox rx cx sa n ka)] [fun W => FlM W tv p cv vs, fun W => FlM W tu q cu us, fun W => FlM W tb m cb ys, fun W => FlM W ta n ca xs]) := HF.out.sub (.cons_cons _ (.cons_cons _ (.cons_cons _ (.cons_cons _ (.cons_cons _ (.cons_cons _ .slnil)))))) (.cons _ (.cons _ (.cons_cons _ (.cons_cons _ (.cons_cons _ (.cons_cons _ .slnil))))))
          go_upto_if 126 with fail
          go_cut [24] from 29 (fun s24 W => s24 = .int .i64 OT ∧ ∃ (Q0 Q1 : Int) (Q2 : Option Addr) (Q3 Q4 : Nat), Hid (FrQ w W [(ig, MBox X0 X1 X2 X3 X4), (ih, MBox Q0 Q1 Q2 Q3 Q4), (ib, MBox ry cy tb m cb), (ia, MBox rx cx ta n ca), (p1, BBox ry cy sb m kb), (p0, BBox rx cx sa n ka)] [fun W => OT = 0 → ResM OT q p ov W Q0 Q1 Q2 Q3 Q4, fun W => FlM W tv p cv vs, fun W => FlM W tu q cu us, fun W => FlM W tb m cb ys, fun W => FlM W ta n ca xs]))
          case first =>
            by_cases hT0 : LS = 0
            · have HRZ := hid (fun W h h2 => HRO.out W h h2 hT0)
              subst hT0
              go_wp2_with fail
              refine (HRZ.out _ (HF.out.get (g := fun W => FlM W tu q cu us) 1 rfl) (HF.out.get (g := fun W => FlM W tv p cv vs) 0 rfl)).mono ?_
              rintro e u13 ⟨⟨D0, D1, D2, D3, D4, rfl, hres⟩, hb⟩
              have HF : Hid (FrQ w u13 [(ig, MBox X0 X1 X2 X3 X4), (ih, MBox Z0 Z1 Z2 Z3 Z4), (ib, MBox ry cy tb m cb), (ia, MBox rx cx ta n ca), (p1, BBox ry cy sb m kb), (p0, BBox rx cx sa n ka)] [fun W => FlM W tv p cv vs, fun W => FlM W tu q cu us, fun W => FlM W tb m cb ys, fun W => FlM W ta n ca xs]) := HF.out.call hb
              have HF : Hid (FrQ w u13 [(ig, MBox X0 X1 X2 X3 X4), (ih, MBox Z0 Z1 Z2 Z3 Z4), (ib, MBox ry cy tb m cb), (ia, MBox rx cx ta n ca), (p1, BBox ry cy sb m kb), (p0, BBox rx cx sa n ka)] [fun W => OT = 0 → ResM OT q p ov W D0 D1 D2 D3 D4, fun W => FlM W tv p cv vs, fun W => FlM W tu q cu us, fun W => FlM W tb m cb ys, fun W => FlM W ta n ca xs]) := HF.out.add (kept_resi _ _ _ _ _ _ _ _ _) (fun _ => hres)
              clear hb
              clear hres HRZ
              obtain ⟨z0, z1, z2⟩ := mcells_of (HF.out.at 1 rfl : u13.heap[ih]? = some (MBox Z0 Z1 Z2 Z3 Z4))
              have fz := frzM (HF.out.at 1 rfl : u13.heap[ih]? = some (MBox Z0 Z1 Z2 Z3 Z4))
              have HF : Hid (FrQ w (StoM u13 ih D0 D1 D2 D3 D4) [(ig, MBox X0 X1 X2 X3 X4), (ih, MBox D0 D1 D2 D3 D4), (ib, MBox ry cy tb m cb), (ia, MBox rx cx ta n ca), (p1, BBox ry cy sb m kb), (p0, BBox rx cx sa n ka)] [fun W => OT = 0 → ResM OT q p ov W D0 D1 D2 D3 D4, fun W => FlM W tv p cv vs, fun W => FlM W tu q cu us, fun W => FlM W tb m cb ys, fun W => FlM W ta n ca xs]) := HF.out.sto 1 rfl
              obtain ⟨U14, hU14⟩ : ∃ V, Hid ((StoM u13 ih D0 D1 D2 D3 D4) = V) := ⟨_, rfl⟩
              rw [hU14.out] at HF
              have hU14' := hU14.out
              unfold StoM at hU14'
              go_wp2_with fail
              go_meet
              exact ⟨rfl, _, _, _, _, _, HF⟩
            · have hne : (LS == 0) = false := by simpa using hT0
              have hmn := HNO.out hT0
              have HNZ := hid hT0
              clear hT0
              have HF : Hid (FrQ w u12 [(ig, MBox X0 X1 X2 X3 X4), (ih, MBox Z0 Z1 Z2 Z3 Z4), (ib, MBox ry cy tb m cb), (ia, MBox rx cx ta n ca), (p1, BBox ry cy sb m kb), (p0, BBox rx cx sa n ka)] [fun W => OT = 0 → ResM OT q p ov W Z0 Z1 Z2 Z3 Z4, fun W => FlM W tv p cv vs, fun W => FlM W tu q cu us, fun W => FlM W tb m cb ys, fun W => FlM W ta n ca xs]) := HF.out.add (kept_resi _ _ _ _ _ _ _ _ _) (fun h => absurd (hmn.symm.trans h) HNZ.out)
              go_wp2_with fail
              go_meet
              exact ⟨by rw [hmn], _, _, _, _, _, HF⟩
          case rest =>
            obtain ⟨rfl, Q0, Q1, Q2, Q3, Q4, HF⟩ := hcut
            go_wp2_with fail
            refine (HLU.out _ HF.out.bel).mono ?_
            rintro e u13 ⟨⟨tx, kx, rfl, hf⟩, hb⟩
            have HF : Hid (FrQ w u13 [(ig, MBox X0 X1 X2 X3 X4), (ih, MBox Q0 Q1 Q2 Q3 Q4), (ib, MBox ry cy tb m cb), (ia, MBox rx cx ta n ca), (p1, BBox ry cy sb m kb), (p0, BBox rx cx sa n ka)] [fun W => OT = 0 → ResM OT q p ov W Q0 Q1 Q2 Q3 Q4, fun W => FlM W tv p cv vs, fun W => FlM W tu q cu us, fun W => FlM W tb m cb ys, fun W => FlM W ta n ca xs]) := HF.out.call hb
            have HF : Hid (FrQ w u13 [(ig, MBox X0 X1 X2 X3 X4), (ih, MBox Q0 Q1 Q2 Q3 Q4), (ib, MBox ry cy tb m cb), (ia, MBox rx cx ta n ca), (p1, BBox ry cy sb m kb), (p0, BBox rx cx sa n ka)] [fun W => FlM W tx q kx us, fun W => OT = 0 → ResM OT q p ov W Q0 Q1 Q2 Q3 Q4, fun W => FlM W tv p cv vs, fun W => FlM W tu q cu us, fun W => FlM W tb m cb ys, fun W => FlM W ta n ca xs]) := HF.out.add (kept_fl _ _ _ _) hf
            clear hb
            clear hf
            go_wp2_with fail
            refine (HLV.out _ HF.out.bel).mono ?_
            rintro e u14 ⟨⟨ty, ky, rfl, hf⟩, hb⟩
            have HF : Hid (FrQ w u14 [(ig, MBox X0 X1 X2 X3 X4), (ih, MBox Q0 Q1 Q2 Q3 Q4), (ib, MBox ry cy tb m cb), (ia, MBox rx cx ta n ca), (p1, BBox ry cy sb m kb), (p0, BBox rx cx sa n ka)] [fun W => FlM W tx q kx us, fun W => OT = 0 → ResM OT q p ov W Q0 Q1 Q2 Q3 Q4, fun W => FlM W tv p cv vs, fun W => FlM W tu q cu us, fun W => FlM W tb m cb ys, fun W => FlM W ta n ca xs]) := HF.out.call hb
            have HF : Hid (FrQ w u14 [(ig, MBox X0 X1 X2 X3 X4), (ih, MBox Q0 Q1 Q2 Q3 Q4), (ib, MBox ry cy tb m cb), (ia, MBox rx cx ta n ca), (p1, BBox ry cy sb m kb), (p0, BBox rx cx sa n ka)] [fun W => FlM W ty p ky vs, fun W => FlM W tx q kx us, fun W => OT = 0 → ResM OT q p ov W Q0 Q1 Q2 Q3 Q4, fun W => FlM W tv p cv vs, fun W => FlM W tu q cu us, fun W => FlM W tb m cb ys, fun W => FlM W ta n ca xs]) := HF.out.add (kept_fl _ _ _ _) hf
            clear hb
            clear hf
            go_wp2_with fail
            refine (HPO.out _ _ _ _ _ (HF.out.get (g := fun W => FlM W tx q kx us) 1 rfl) (HF.out.get (g := fun W => FlM W ty p ky vs) 0 rfl)).mono ?_
            rintro e u15 ⟨⟨J0, J1, J2, J3, J4, rfl, hres⟩, hb⟩
            have HF : Hid (FrQ w u15 [(ig, MBox X0 X1 X2 X3 X4), (ih, MBox Q0 Q1 Q2 Q3 Q4), (ib, MBox ry cy tb m cb), (ia, MBox rx cx ta n ca), (p1, BBox ry cy sb m kb), (p0, BBox rx cx sa n ka)] [fun W => FlM W ty p ky vs, fun W => FlM W tx q kx us, fun W => OT = 0 → ResM OT q p ov W Q0 Q1 Q2 Q3 Q4, fun W => FlM W tv p cv vs, fun W => FlM W tu q cu us, fun W => FlM W tb m cb ys, fun W => FlM W ta n ca xs]) := HF.out.call hb
            have HF : Hid (FrQ w u15 [(ig, MBox X0 X1 X2 X3 X4), (ih, MBox Q0 Q1 Q2 Q3 Q4), (ib, MBox ry cy tb m cb), (ia, MBox rx cx ta n ca), (p1, BBox ry cy sb m kb), (p0, BBox rx cx sa n ka)] [fun W => ResM OT q p ov W J0 J1 J2 J3 J4, fun W => FlM W ty p ky vs, fun W => FlM W tx q kx us, fun W => OT = 0 → ResM OT q p ov W Q0 Q1 Q2 Q3 Q4, fun W => FlM W tv p cv vs, fun W => FlM W tu q cu us, fun W => FlM W tb m cb ys, fun W => FlM W ta n ca xs]) := HF.out.add (kept_res _ _ _ _ _ _ _ _ _) hres
            clear hb
            clear hres
            obtain ⟨z0, z1, z2⟩ := mcells_of (HF.out.at 0 rfl : u15.heap[ig]? = some (MBox X0 X1 X2 X3 X4))
            have fz := frzM (HF.out.at 0 rfl : u15.heap[ig]? = some (MBox X0 X1 X2 X3 X4))
            have HF : Hid (FrQ w (StoM u15 ig J0 J1 J2 J3 J4) [(ig, MBox J0 J1 J2 J3 J4), (ih, MBox Q0 Q1 Q2 Q3 Q4), (ib, MBox ry cy tb m cb), (ia, MBox rx cx ta n ca), (p1, BBox ry cy sb m kb), (p0, BBox rx cx sa n ka)] [fun W => ResM OT q p ov W J0 J1 J2 J3 J4, fun W => FlM W ty p ky vs, fun W => FlM W tx q kx us, fun W => OT = 0 → ResM OT q p ov W Q0 Q1 Q2 Q3 Q4, fun W => FlM W tv p cv vs, fun W => FlM W tu q cu us, fun W => FlM W tb m cb ys, fun W => FlM W ta n ca xs]) := HF.out.sto 0 rfl
            obtain ⟨U16, hU16⟩ : ∃ V, Hid ((StoM u15 ig J0 J1 J2 J3 J4) = V) := ⟨_, rfl⟩
            rw [hU16.out] at HF
            have hU16' := hU16.out
            unfold StoM at hU16'
            have HF : Hid (FrQ w U16 [(ig, MBox J0 J1 J2 J3 J4), (ih, MBox Q0 Q1 Q2 Q3 Q4), (ib, MBox ry cy tb m cb), (ia, MBox rx cx ta n ca), (p1, BBox ry cy sb m kb), (p0, BBox rx cx sa n ka)] [fun W => ResM OT q p ov W J0 J1 J2 J3 J4, fun W => OT = 0 → ResM OT q p ov W Q0 Q1 Q2 Q3 Q4, fun W => FlM W tv p cv vs, fun W => FlM W tu q cu us, fun W => FlM W tb m cb ys, fun W => FlM W ta n ca xs]) := HF.out.sub (.cons_cons _ (.cons_cons _ (.cons_cons _ (.cons_cons _ (.cons_cons _ (.cons_cons _ .slnil)))))) (.cons_cons _ (.cons _ (.cons _ (.cons_cons _ (.cons_cons _ (.cons_cons _ (.cons_cons _ (.cons_cons _ .slnil))))))))
            obtain ⟨c00, c01, c02⟩ := mcells_of (HF.out.at 0 rfl : U16.heap[ig]? = some (MBox J0 J1 J2 J3 J4))
            obtain ⟨c10, c11, c12⟩ := mcells_of (HF.out.at 1 rfl : U16.heap[ih]? = some (MBox Q0 Q1 Q2 Q3 Q4))
            go_wp2_with fail
            refine (told_res OT q p ov _ _ _ _ _ _ _ _ _ _ _ (HF.out.get (g := fun W => ResM OT q p ov W J0 J1 J2 J3 J4) 0 rfl) (HF.out.get (g := fun W => OT = 0 → ResM OT q p ov W Q0 Q1 Q2 Q3 Q4) 1 rfl)).mono ?_
            rintro e u17 ⟨rfl, hb⟩
            have HF : Hid (FrQ w u17 [(ig, MBox J0 J1 J2 J3 J4), (ih, MBox Q0 Q1 Q2 Q3 Q4), (ib, MBox ry cy tb m cb), (ia, MBox rx cx ta n ca), (p1, BBox ry cy sb m kb), (p0, BBox rx cx sa n ka)] [fun W => ResM OT q p ov W J0 J1 J2 J3 J4, fun W => OT = 0 → ResM OT q p ov W Q0 Q1 Q2 Q3 Q4, fun W => FlM W tv p cv vs, fun W => FlM W tu q cu us, fun W => FlM W tb m cb ys, fun W => FlM W ta n ca xs]) := HF.out.call hb
            clear hb
            have HF : Hid (FrQ w u17 [(ib, MBox ry cy tb m cb), (ia, MBox rx cx ta n ca), (p1, BBox ry cy sb m kb), (p0, BBox rx cx sa n ka)] [fun W => FlM W tv p cv vs, fun W => FlM W tu q cu us, fun W => FlM W tb m cb ys, fun W => FlM W ta n ca xs]) := HF.out.sub (.cons _ (.cons _ (.cons_cons _ (.cons_cons _ (.cons_cons _ (.cons_cons _ .slnil)))))) (.cons _ (.cons _ (.cons_cons _ (.cons_cons _ (.cons_cons _ (.cons_cons _ .slnil))))))
            go_wp2_with fail
            refine (HLU.out _ HF.out.bel).mono ?_
            rintro e u18 ⟨⟨tj, kj, rfl, hf⟩, hb⟩
            have HF : Hid (FrQ w u18 [(ib, MBox ry cy tb m cb), (ia, MBox rx cx ta n ca), (p1, BBox ry cy sb m kb), (p0, BBox rx cx sa n ka)] [fun W => FlM W tv p cv vs, fun W => FlM W tu q cu us, fun W => FlM W tb m cb ys, fun W => FlM W ta n ca xs]) := HF.out.call hb
            have HF : Hid (FrQ w u18 [(ib, MBox ry cy tb m cb), (ia, MBox rx cx ta n ca), (p1, BBox ry cy sb m kb), (p0, BBox rx cx sa n ka)] [fun W => FlM W tj q kj us, fun W => FlM W tv p cv vs, fun W => FlM W tu q cu us, fun W => FlM W tb m cb ys, fun W => FlM W ta n ca xs]) := HF.out.add (kept_fl _ _ _ _) hf
            clear hb
            clear hf
            go_wp2_with fail
            refine (HLV.out _ HF.out.bel).mono ?_
            rintro e u19 ⟨⟨ti, ki, rfl, hf⟩, hb⟩
            have HF : Hid (FrQ w u19 [(ib, MBox ry cy tb m cb), (ia, MBox rx cx ta n ca), (p1, BBox ry cy sb m kb), (p0, BBox rx cx sa n ka)] [fun W => FlM W tj q kj us, fun W => FlM W tv p cv vs, fun W => FlM W tu q cu us, fun W => FlM W tb m cb ys, fun W => FlM W ta n ca xs]) := HF.out.call hb
            have HF : Hid (FrQ w u19 [(ib, MBox ry cy tb m cb), (ia, MBox rx cx ta n ca), (p1, BBox ry cy sb m kb), (p0, BBox rx cx sa n ka)] [fun W => FlM W ti p ki vs, fun W => FlM W tj q kj us, fun W => FlM W tv p cv vs, fun W => FlM W tu q cu us, fun W => FlM W tb m cb ys, fun W => FlM W ta n ca xs]) := HF.out.add (kept_fl _ _ _ _) hf
            clear hb
            clear hf
            go_wp2_with fail
            refine (HPD.out _ _ _ _ _ (HF.out.get (g := fun W => FlM W tj q kj us) 1 rfl) (HF.out.get (g := fun W => FlM W ti p ki vs) 0 rfl)).mono ?_
            rintro e u20 ⟨rfl, hb⟩
            have HF : Hid (FrQ w u20 [(ib, MBox ry cy tb m cb), (ia, MBox rx cx ta n ca), (p1, BBox ry cy sb m kb), (p0, BBox rx cx sa n ka)] [fun W => FlM W ti p ki vs, fun W => FlM W tj q kj us, fun W => FlM W tv p cv vs, fun W => FlM W tu q cu us, fun W => FlM W tb m cb ys, fun W => FlM W ta n ca xs]) := HF.out.call hb
            clear hb
            have HF : Hid (FrQ w u20 [(ib, MBox ry cy tb m cb), (ia, MBox rx cx ta n ca), (p1, BBox ry cy sb m kb), (p0, BBox rx cx sa n ka)] [fun W => FlM W tv p cv vs, fun W => FlM W tu q cu us, fun W => FlM W tb m cb ys, fun W => FlM W ta n ca xs]) := HF.out.sub (.cons_cons _ (.cons_cons _ (.cons_cons _ (.cons_cons _ .slnil)))) (.cons _ (.cons _ (.cons_cons _ (.cons_cons _ (.cons_cons _ (.cons_cons _ .slnil))))))
            go_wp2_with fail
            refine (HIF3.out _).mono ?_
            rintro e ww ⟨rfl, hw⟩
            rw [hw]
            clear hw
            go_wp2_with fail
            refine (HFD.out _ _ (nblkM _ _)).mono ?_
            rintro e ww ⟨rfl, hw⟩
            have HF : Hid (FrQ w (u20.alloc (I2 LS QE)) [(ib, MBox ry cy tb m cb), (ia, MBox rx cx ta n ca), (p1, BBox ry cy sb m kb), (p0, BBox rx cx sa n ka)] [fun W => FlM W tv p cv vs, fun W => FlM W tu q cu us, fun W => FlM W tb m cb ys, fun W => FlM W ta n ca xs]) := HF.out.call ((Below.refl _ _).alloc (Nat.le_refl _) _)
            obtain ⟨V21, hV21⟩ : ∃ V, Hid (u20.alloc (I2 LS QE) = V) := ⟨_, rfl⟩
            rw [hw, hV21.out]
            rw [hV21.out] at HF
            clear hw
            by_cases hT0 : DE = 0
            · obtain ⟨hqp, hd1, hd2⟩ := HDY.out hT0
              have HRZ := hid (fun W h h2 => HRDO.out W h h2 hqp)
              have HD1 := hid hd1
              have HD2 := hid hd2
              have HQP := hid hqp
              clear hd1 hd2 hqp
              subst hT0
              go_wp2_with fail
              refine (HRZ.out _ (HF.out.get (g := fun W => FlM W tu q cu us) 1 rfl) (HF.out.get (g := fun W => FlM W tv p cv vs) 0 rfl)).mono ?_
              rintro e u22 ⟨z, rfl, ⟨hz1, hz2⟩, hb⟩
              have HF : Hid (FrQ w u22 [(ib, MBox ry cy tb m cb), (ia, MBox rx cx ta n ca), (p1, BBox ry cy sb m kb), (p0, BBox rx cx sa n ka)] [fun W => FlM W tv p cv vs, fun W => FlM W tu q cu us, fun W => FlM W tb m cb ys, fun W => FlM W ta n ca xs]) := HF.out.call hb
              have HZ : Hid (canonOf z = DW) := hz2
              have HZL := hid hz1
              have HFI := hid (fun W => rfinite_any z W hz1)
              rw [finB_exp z hz1, show finB z = finB DW from by rw [← HZ.out, finB_canon]] at HFI
              clear hb hz1 hz2
              cases hfd : finB DW with
              | false =>
                rw [hfd] at HFI
                obtain ⟨d1, d2⟩ := HD2.out hfd
                clear hfd HD1 HD2 HDY HDN
                subst d1 d2
                go_wp2_with fail
                refine (HFI.out _).mono ?_
                rintro e ww ⟨rfl, hw⟩
                rw [hw]
                clear hw
                go_wp2_with fail
                refine (If_yes 5 _).mono ?_
                rintro e ww ⟨rfl, hw⟩
                rw [hw]
                clear hw
                go_wp2_with fail
                refine (number_no 5 (by decide) z _).mono ?_
                rintro e ww ⟨rfl, hw⟩
                rw [hw]
                clear hw
                go_wp2_with fail
                go_ret
                exact ⟨rfl, HF.out.bel⟩
              | true =>
                rw [hfd] at HFI
                obtain ⟨d1, d2⟩ := HD1.out hfd
                clear hfd HD1 HD2 HDY HDN
                subst d1 d2
                go_wp2_with fail
                refine (HFI.out _).mono ?_
                rintro e ww ⟨rfl, hw⟩
                rw [hw]
                clear hw
                go_wp2_with fail
                refine (If_no 5 _).mono ?_
                rintro e ww ⟨rfl, hw⟩
                rw [hw]
                clear hw
                go_wp2_with fail
                refine (number_yes _ z HZL.out HZ.out.symm _).mono ?_
                rintro e ww ⟨rfl, hw⟩
                rw [hw]
                clear hw
                go_wp2_with fail
                go_ret
                exact ⟨rfl, HF.out.bel⟩
            · have hne : (DE == 0) = false := by simpa using hT0
              obtain ⟨d1, d2⟩ := HDN.out hT0
              have HNZ := hid hT0
              clear hT0 HDN HDY
              subst d1 d2
              go_wp2_with fail
              refine (number_no DT HNZ.out _ _).mono ?_
              rintro e ww ⟨rfl, hw⟩
              rw [hw]
              clear hw
              go_wp2_with fail
              go_ret
              exact ⟨rfl, HF.out.bel⟩
end Go.Proofs.Ytilhmjjbanmfcaa
