
/- The law MatrixProducts. (Written by mknam.py.) -/
import Derived.Test.YthnblidkbcficaaP47
import Derived.Test.YthnblidkbcficaaP48
namespace Go.Proofs.Ythnblidkbcficaa
open Go.RowKit Go.IntWalk

def I3 (a b c : Int) : Obj := .cells #[.int .i64 a, .int .i64 b, .int .i64 c] 3
theorem First_three (b : Nat) (x y z : Int) (w : World) (h : w.heap[b]? = some (I3 x y z)) : Calls Try.prog 23 #[.slice (some ⟨b, 0, none⟩) 3 3] w fun e w' => e = .returned (.int .i64 (firstL [x, y, z])) ∧ w' = w :=
  First_any b 3 [x, y, z] rfl (by decide) w (fun j hj => by
    unfold I3 at h
    rcases j with _ | _ | _ | j
    · simp [World.cell?, h]
    · simp [World.cell?, h]
    · simp [World.cell?, h]
    · omega)
theorem vec_first (rx cx : Int) (n : Nat) (xs : List Nat) (q : Nat) (us : List Nat) : vecE rx cx n xs q us = firstL [chkM rx cx n xs, lstE q us, shpE cx q] := by
  unfold vecE
  generalize chkM rx cx n xs = a
  generalize lstE q us = b
  generalize shpE cx q = c
  by_cases h1 : a = 0 <;> by_cases h2 : b = 0 <;> by_cases h3 : c = 0 <;> simp [first2, firstL, h1, h2, h3]
theorem lq_any (sa : Option Addr) (sn sc : Nat) (xs : List Nat) (w : World) (hu : U64At w sa sn xs) (hn : sn ≤ 17592186043904) :
    Calls Try.prog 9 #[.slice sa sn sc] w fun e w' => (∃ ta cap, e = .returned (.slice ta sn cap) ∧ FlM w' ta sn cap xs) ∧ Below w.heap.size w w' := by
  have HO := hid (l_any sa sn sc xs w hu hn)
  clear hu hn
  go_enter Try.func9, Try.ntmps9
  go_wp2_with fail
  refine HO.out.mono ?_
  rintro e w1 ⟨ta, cap, rfl, h1, h2⟩
  have HH := hid (And.intro h1 h2)
  clear h1 h2
  go_wp2_with fail
  go_ret
  exact ⟨⟨ta, cap, rfl, HH.out.1⟩, HH.out.2⟩
/-- AllFinite of numbers told by a function. -/
theorem rallF (R : Nat) (s : Option Addr) (l : Nat) (o : Nat → Nat) (w : World) (h : FnM w s R l o) (hn : R ≤ 17592186043904) : Calls Try.prog 64 #[.slice s R l] w fun e w' => e = .returned (.bool (finF R o)) ∧ w' = w :=
  (rall_any s R l ((List.range R).map o) w (FnM.toFl (by simp) (by
    rcases h with h | ⟨b, off, h1, h2, h3, h4, h5⟩
    · exact Or.inl h
    · refine Or.inr ⟨b, off, h1, h2, h3, h4, fun k hk => ?_⟩
      have : ((List.range R).map o).getD k 0 = o k := by simp [List.getD_eq_getElem?_getD, hk]
      dsimp only
      rw [this]
      exact h5 k hk)) hn).mono (fun e w' hh => hh)
set_option maxRecDepth 8000 in
set_option maxHeartbeats 16000000 in
theorem mprod_walk (rx cx : Int) (sa : Option Addr) (n ka : Nat) (xs : List Nat) (ry cy : Int) (sb : Option Addr) (m kb : Nat) (ys : List Nat) (su : Option Addr) (q ku : Nat) (us : List Nat) (w : World) (hu : U64At w sa n xs) (hn : n ≤ 17592186043904) (hv : U64At w sb m ys) (hm : m ≤ 17592186043904) (hl : U64At w su q us) (hq : q ≤ 17592186043904) :
    Calls Try.prog 7 #[.agg #[.int .i64 rx, .int .i64 cx, .slice sa n ka], .agg #[.int .i64 ry, .int .i64 cy, .slice sb m kb], .slice su q ku] w fun e w' => e = .returned (.bool true) ∧ Below w.heap.size w w' := by
  have HOX := hid (fun W (hW : Below w.heap.size w W) => of_any rx cx sa n ka xs W (hu.below hW) hn)
  have HOY := hid (fun W (hW : Below w.heap.size w W) => of_any ry cy sb m kb ys W (hv.below hW) hm)
  have HLU := hid (fun W (hW : Below w.heap.size w W) => lq_any su q ku us W (hl.below hW) hq)
  have HNM := hid (And.intro hn (And.intro hm hq))
  have HF : Hid (FrQ w ((w.alloc (BBox rx cx sa n ka)).alloc (BBox ry cy sb m kb)) [(w.heap.size + 1, BBox ry cy sb m kb), (w.heap.size, BBox rx cx sa n ka)] []) := by
    have := ((FrQ.start w).alloc (BBox rx cx sa n ka)).alloc (BBox ry cy sb m kb)
    rw [show (w.alloc (BBox rx cx sa n ka)).heap.size = w.heap.size + 1 from by simp] at this
    exact this
  obtain ⟨V, hV⟩ : ∃ V, Hid ((w.alloc (BBox rx cx sa n ka)).alloc (BBox ry cy sb m kb) = V) := ⟨_, rfl⟩
  obtain ⟨p0, hp0⟩ : ∃ t, Hid (w.heap.size = t) := ⟨_, rfl⟩
  obtain ⟨p1, hp1⟩ : ∃ t, Hid (p0 + 1 = t) := ⟨_, rfl⟩
  rw [hV.out, hp0.out, hp1.out] at HF
  have hV' := hV.out
  unfold BBox at hV'
  have hp0' := hp0.out
  have hp1' := hp1.out
  clear hu hv hn hm hl hq
  go_enter Try.func7, Try.ntmps7
  have HKT : Hid (∀ W, Hid (FrQ w W [(p1, BBox ry cy sb m kb), (p0, BBox rx cx sa n ka)] []) → (W.cell? ⟨p0, 0, none⟩ = some (.int .i64 rx) ∧ W.cell? ⟨p0, 1, none⟩ = some (.int .i64 cx) ∧ W.cell? ⟨p0, 2, none⟩ = some (.slice sa n ka) ∧ W.cell? ⟨p1, 0, none⟩ = some (.int .i64 ry) ∧ W.cell? ⟨p1, 1, none⟩ = some (.int .i64 cy) ∧ W.cell? ⟨p1, 2, none⟩ = some (.slice sb m kb)) ∧ Hid (FrQ w W [(p1, BBox ry cy sb m kb), (p0, BBox rx cx sa n ka)] [])) := fun W hW => by
    obtain ⟨a00, a01, a02⟩ := bcells_of (hW.out.at 1 rfl : W.heap[p0]? = some (BBox rx cx sa n ka))
    obtain ⟨a10, a11, a12⟩ := bcells_of (hW.out.at 0 rfl : W.heap[p1]? = some (BBox ry cy sb m kb))
    exact ⟨⟨a00, a01, a02, a10, a11, a12⟩, hW⟩
  have HQ0 : Hid (FrQ w V.drew [(p1, BBox ry cy sb m kb), (p0, BBox rx cx sa n ka)] []) := HF.out.drew
  have HQS0 : Hid (FrQ w V.drew [(p1, BBox ry cy sb m kb), (p0, BBox rx cx sa n ka)] []) := HQ0.out.sub (.cons_cons _ (.cons_cons _ .slnil)) .slnil
  go_wp2_with fail
  refine region_merge2 (fun a0 a' w' => ∃ (ta : Option Addr) (ca : Nat) (tb : Option Addr) (cb : Nat) (tu : Option Addr) (cu ia ib : Nat), a' = Act.put (Act.put (Act.put (Act.put (Act.put (Act.put (Act.put (Act.put (Act.put (a0) (some 17) (.agg #[.int .i64 rx, .int .i64 cx, .slice sa n ka])) (some 19) (.agg #[.int .i64 ry, .int .i64 cy, .slice sb m kb])) (some 21) (.slice su q ku)) (some 18) (.agg #[.int .i64 rx, .int .i64 cx, .slice ta n ca])) (some 20) (.agg #[.int .i64 ry, .int .i64 cy, .slice tb m cb])) (some 22) (.slice tu q cu)) (some 7) (.pointer (some ⟨ia, 0, none⟩))) (some 8) (.pointer (some ⟨ib, 0, none⟩))) (some 9) (.slice tu q cu) ∧ FrQ w w' [(ib, MBox ry cy tb m cb), (ia, MBox rx cx ta n ca), (p1, BBox ry cy sb m kb), (p0, BBox rx cx sa n ka)] [fun W => FlM W tu q cu us, fun W => FlM W tb m cb ys, fun W => FlM W ta n ca xs]) (fun HR => ?_) ?_
  · simp only [Act.put, List.setIfInBounds_toArray, List.set_cons_zero, List.set_cons_succ] at HR
    refine wp_region_held_drew (S := fun W => (W.cell? ⟨p0, 0, none⟩ = some (.int .i64 rx) ∧ W.cell? ⟨p0, 1, none⟩ = some (.int .i64 cx) ∧ W.cell? ⟨p0, 2, none⟩ = some (.slice sa n ka) ∧ W.cell? ⟨p1, 0, none⟩ = some (.int .i64 ry) ∧ W.cell? ⟨p1, 1, none⟩ = some (.int .i64 cy) ∧ W.cell? ⟨p1, 2, none⟩ = some (.slice sb m kb)) ∧ Hid (FrQ w W [(p1, BBox ry cy sb m kb), (p0, BBox rx cx sa n ka)] [])) (by kernel_rfl) (HKT.out _ HQS0) (fun hHeld => ?_)
    refine take_at 0 17 (.agg #[.int .i64 rx, .int .i64 cx, .slice sa n ka]) rfl rfl (by kernel_rfl) (by kernel_rfl) (by kernel_rfl) (fun _ _ _ h => h) (Or.inl ⟨by rfl, fun w hSw => by (try dsimp only at hSw); go_simp⟩) (by assumption) ?_
    simp only [Act.put, List.setIfInBounds_toArray, List.set_cons_zero, List.set_cons_succ]
    refine take_at 2 19 (.agg #[.int .i64 ry, .int .i64 cy, .slice sb m kb]) rfl rfl (by kernel_rfl) (by kernel_rfl) (by kernel_rfl) (fun _ _ _ h => h) (Or.inl ⟨by rfl, fun w hSw => by (try dsimp only at hSw); go_simp⟩) (by assumption) ?_
    simp only [Act.put, List.setIfInBounds_toArray, List.set_cons_zero, List.set_cons_succ]
    refine take_at 4 21 (.slice su q ku) rfl rfl (by kernel_rfl) (by kernel_rfl) (by kernel_rfl) (fun _ _ _ h => h) (Or.inl ⟨by rfl, fun w hSw => by (try dsimp only at hSw); go_simp⟩) (by assumption) ?_
    simp only [Act.put, List.setIfInBounds_toArray, List.set_cons_zero, List.set_cons_succ]
    refine wpAnyH_ready (rs := [1, 6, 7]) (by kernel_rfl) (by simp) ?_
    refine AllReadyH.cons (o := _) rfl (fun K hK => ?_) (AllReadyH.cons (o := _) rfl (fun K hK => ?_) (AllReadyH.cons (o := _) rfl (fun K hK => ?_) AllReadyH.nil))
    · go_simp
      refine (HOX.out _ HQ0.out.bel).mono ?_
      rintro e t1 ⟨⟨ta, ca, rfl, hf⟩, hbq⟩
      have HQ1 : Hid (FrQ w t1 [(p1, BBox ry cy sb m kb), (p0, BBox rx cx sa n ka)] []) := HQ0.out.call hbq
      have HQ1 : Hid (FrQ w t1 [(p1, BBox ry cy sb m kb), (p0, BBox rx cx sa n ka)] [fun W => FlM W ta n ca xs]) := HQ1.out.add (kept_fl _ _ _ _) hf
      clear hbq
      unfold MV
      go_wp2_with fail
      have HQS : Hid (FrQ w t1 [(p1, BBox ry cy sb m kb), (p0, BBox rx cx sa n ka)] []) := HQ1.out.sub (.cons_cons _ (.cons_cons _ .slnil)) (.cons _ .slnil)
      refine hK.out _ _ (HKT.out _ HQS) (fun hHeld1 => ?_)
      clear hK K HQS
      try simp only [Act.put, List.setIfInBounds_toArray, List.set_cons_zero, List.set_cons_succ]
      refine wpAnyH_ready (rs := [3, 6, 7]) (by kernel_rfl) (by simp) ?_
      refine AllReadyH.cons (o := _) rfl (fun K hK => ?_) (AllReadyH.cons (o := _) rfl (fun K hK => ?_) (AllReadyH.cons (o := _) rfl (fun K hK => ?_) AllReadyH.nil))
      · go_simp
        refine (HOY.out _ HQ1.out.bel).mono ?_
        rintro e t2 ⟨⟨tb, cb, rfl, hf⟩, hbq⟩
        have HQ2 : Hid (FrQ w t2 [(p1, BBox ry cy sb m kb), (p0, BBox rx cx sa n ka)] [fun W => FlM W ta n ca xs]) := HQ1.out.call hbq
        have HQ2 : Hid (FrQ w t2 [(p1, BBox ry cy sb m kb), (p0, BBox rx cx sa n ka)] [fun W => FlM W tb m cb ys, fun W => FlM W ta n ca xs]) := HQ2.out.add (kept_fl _ _ _ _) hf
        clear hbq
        unfold MV
        go_wp2_with fail
        have HQS : Hid (FrQ w t2 [(p1, BBox ry cy sb m kb), (p0, BBox rx cx sa n ka)] []) := HQ2.out.sub (.cons_cons _ (.cons_cons _ .slnil)) (.cons _ (.cons _ .slnil))
        refine hK.out _ _ (HKT.out _ HQS) (fun hHeld2 => ?_)
        clear hK K HQS
        try simp only [Act.put, List.setIfInBounds_toArray, List.set_cons_zero, List.set_cons_succ]
        refine wpAnyH_ready (rs := [5, 6, 7]) (by kernel_rfl) (by simp) ?_
        refine AllReadyH.cons (o := _) rfl (fun K hK => ?_) (AllReadyH.cons (o := _) rfl (fun K hK => ?_) (AllReadyH.cons (o := _) rfl (fun K hK => ?_) AllReadyH.nil))
        · go_simp
          refine (HLU.out _ HQ2.out.bel).mono ?_
          rintro e t3 ⟨⟨tu, cu, rfl, hf⟩, hbq⟩
          have HQ3 : Hid (FrQ w t3 [(p1, BBox ry cy sb m kb), (p0, BBox rx cx sa n ka)] [fun W => FlM W tb m cb ys, fun W => FlM W ta n ca xs]) := HQ2.out.call hbq
          have HQ3 : Hid (FrQ w t3 [(p1, BBox ry cy sb m kb), (p0, BBox rx cx sa n ka)] [fun W => FlM W tu q cu us, fun W => FlM W tb m cb ys, fun W => FlM W ta n ca xs]) := HQ3.out.add (kept_fl _ _ _ _) hf
          clear hbq
          go_wp2_with fail
          have HQS : Hid (FrQ w t3 [(p1, BBox ry cy sb m kb), (p0, BBox rx cx sa n ka)] []) := HQ3.out.sub (.cons_cons _ (.cons_cons _ .slnil)) (.cons _ (.cons _ (.cons _ .slnil)))
          refine hK.out _ _ (HKT.out _ HQS) (fun hHeld3 => ?_)
          clear hK K HQS
          try simp only [Act.put, List.setIfInBounds_toArray, List.set_cons_zero, List.set_cons_succ]
          refine wpAnyH_ready (rs := [6, 7]) (by kernel_rfl) (by simp) ?_
          refine AllReadyH.cons (o := _) rfl (fun K hK => ?_) (AllReadyH.cons (o := _) rfl (fun K hK => ?_) AllReadyH.nil)
          · have HQ4 : Hid (FrQ w (t3.alloc (MBox 0 0 none 0 0)) [(t3.heap.size, MBox 0 0 none 0 0), (p1, BBox ry cy sb m kb), (p0, BBox rx cx sa n ka)] [fun W => FlM W tu q cu us, fun W => FlM W tb m cb ys, fun W => FlM W ta n ca xs]) := HQ3.out.alloc _
            go_simp
            go_wp2_with fail
            have HQS : Hid (FrQ w (t3.alloc (MBox 0 0 none 0 0)) [(p1, BBox ry cy sb m kb), (p0, BBox rx cx sa n ka)] []) := HQ4.out.sub (.cons _ (.cons_cons _ (.cons_cons _ .slnil))) (.cons _ (.cons _ (.cons _ .slnil)))
            refine hK.out _ _ (HKT.out _ HQS) (fun hHeld4 => ?_)
            clear hK K HQS
            try simp only [Act.put, List.setIfInBounds_toArray, List.set_cons_zero, List.set_cons_succ]
            obtain ⟨t4, ht4⟩ : ∃ X, Hid (t3.alloc (MBox 0 0 none 0 0) = X) := ⟨_, rfl⟩
            obtain ⟨ia, hia⟩ : ∃ X, Hid (t3.heap.size = X) := ⟨_, rfl⟩
            rw [ht4.out, hia.out] at HQ4
            have hy1 : t3.alloc (.cells #[.int .i64 0, .int .i64 0, .slice none 0 0] 32) = t4 := ht4.out
            have hy2 := hia.out
            rw [hy1]
            rw [hy2]
            clear hy1 hy2
            refine wpAnyH_ready (rs := [7]) (by kernel_rfl) (by simp) ?_
            refine AllReadyH.cons (o := _) rfl (fun K hK => ?_) AllReadyH.nil
            have HQ5 : Hid (FrQ w (t4.alloc (MBox 0 0 none 0 0)) [(t4.heap.size, MBox 0 0 none 0 0), (ia, MBox 0 0 none 0 0), (p1, BBox ry cy sb m kb), (p0, BBox rx cx sa n ka)] [fun W => FlM W tu q cu us, fun W => FlM W tb m cb ys, fun W => FlM W ta n ca xs]) := HQ4.out.alloc _
            go_simp
            go_wp2_with fail
            have HQS : Hid (FrQ w (t4.alloc (MBox 0 0 none 0 0)) [(p1, BBox ry cy sb m kb), (p0, BBox rx cx sa n ka)] []) := HQ5.out.sub (.cons _ (.cons _ (.cons_cons _ (.cons_cons _ .slnil)))) (.cons _ (.cons _ (.cons _ .slnil)))
            refine hK.out _ _ (HKT.out _ HQS) (fun hHeld5 => ?_)
            clear hK K HQS
            try simp only [Act.put, List.setIfInBounds_toArray, List.set_cons_zero, List.set_cons_succ]
            obtain ⟨t5, ht5⟩ : ∃ X, Hid (t4.alloc (MBox 0 0 none 0 0) = X) := ⟨_, rfl⟩
            obtain ⟨ib, hib⟩ : ∃ X, Hid (t4.heap.size = X) := ⟨_, rfl⟩
            rw [ht5.out, hib.out] at HQ5
            have hy1 : t4.alloc (.cells #[.int .i64 0, .int .i64 0, .slice none 0 0] 32) = t5 := ht5.out
            have hy2 := hib.out
            rw [hy1]
            rw [hy2]
            clear hy1 hy2
            refine wpAnyH_ready (rs := [8]) (by kernel_rfl) (by simp) ?_
            refine AllReadyH.cons (o := _) rfl (fun K hK => ?_) AllReadyH.nil
            obtain ⟨z0, z1, z2⟩ := mcells_of (HQ5.out.at 1 rfl : t5.heap[ia]? = some (MBox 0 0 none 0 0))
            have fz := frzM (HQ5.out.at 1 rfl : t5.heap[ia]? = some (MBox 0 0 none 0 0))
            have HQ6 : Hid (FrQ w (StoM t5 ia rx cx ta n ca) [(ib, MBox 0 0 none 0 0), (ia, MBox rx cx ta n ca), (p1, BBox ry cy sb m kb), (p0, BBox rx cx sa n ka)] [fun W => FlM W tu q cu us, fun W => FlM W tb m cb ys, fun W => FlM W ta n ca xs]) := HQ5.out.sto 1 rfl
            obtain ⟨U6, hU6⟩ : ∃ X, Hid ((StoM t5 ia rx cx ta n ca) = X) := ⟨_, rfl⟩
            rw [hU6.out] at HQ6
            have hU6' := hU6.out
            unfold StoM at hU6'
            go_simp
            go_wp2_with fail
            have HQS : Hid (FrQ w U6 [(p1, BBox ry cy sb m kb), (p0, BBox rx cx sa n ka)] []) := HQ6.out.sub (.cons _ (.cons _ (.cons_cons _ (.cons_cons _ .slnil)))) (.cons _ (.cons _ (.cons _ .slnil)))
            refine hK.out _ _ (HKT.out _ HQS) (fun hHeld6 => ?_)
            clear hK K HQS
            try simp only [Act.put, List.setIfInBounds_toArray, List.set_cons_zero, List.set_cons_succ]
            clear z0 z1 z2 fz
            refine wpAnyH_ready (rs := [9]) (by kernel_rfl) (by simp) ?_
            refine AllReadyH.cons (o := _) rfl (fun K hK => ?_) AllReadyH.nil
            obtain ⟨z0, z1, z2⟩ := mcells_of (HQ6.out.at 0 rfl : U6.heap[ib]? = some (MBox 0 0 none 0 0))
            have fz := frzM (HQ6.out.at 0 rfl : U6.heap[ib]? = some (MBox 0 0 none 0 0))
            have HQ7 : Hid (FrQ w (StoM U6 ib ry cy tb m cb) [(ib, MBox ry cy tb m cb), (ia, MBox rx cx ta n ca), (p1, BBox ry cy sb m kb), (p0, BBox rx cx sa n ka)] [fun W => FlM W tu q cu us, fun W => FlM W tb m cb ys, fun W => FlM W ta n ca xs]) := HQ6.out.sto 0 rfl
            obtain ⟨U7, hU7⟩ : ∃ X, Hid ((StoM U6 ib ry cy tb m cb) = X) := ⟨_, rfl⟩
            rw [hU7.out] at HQ7
            have hU7' := hU7.out
            unfold StoM at hU7'
            go_simp
            go_wp2_with fail
            have HQS : Hid (FrQ w U7 [(p1, BBox ry cy sb m kb), (p0, BBox rx cx sa n ka)] []) := HQ7.out.sub (.cons _ (.cons _ (.cons_cons _ (.cons_cons _ .slnil)))) (.cons _ (.cons _ (.cons _ .slnil)))
            refine hK.out _ _ (HKT.out _ HQS) (fun hHeld7 => ?_)
            clear hK K HQS
            try simp only [Act.put, List.setIfInBounds_toArray, List.set_cons_zero, List.set_cons_succ]
            clear z0 z1 z2 fz
            refine take_at 10 9 (.slice tu q cu) rfl rfl (by kernel_rfl) (by kernel_rfl) (by kernel_rfl) (fun _ _ _ h => h) (Or.inl ⟨by rfl, fun w hSw => by (try dsimp only at hSw); go_simp⟩) (by assumption) ?_
            simp only [Act.put, List.setIfInBounds_toArray, List.set_cons_zero, List.set_cons_succ]
            refine wpAnyH_done (by kernel_rfl) ?_ _
            exact HR.out _ _ ⟨ta, ca, tb, cb, tu, cu, ia, ib, rfl, HQ7.out⟩
          · have HQ4 : Hid (FrQ w (t3.alloc (MBox 0 0 none 0 0)) [(t3.heap.size, MBox 0 0 none 0 0), (p1, BBox ry cy sb m kb), (p0, BBox rx cx sa n ka)] [fun W => FlM W tu q cu us, fun W => FlM W tb m cb ys, fun W => FlM W ta n ca xs]) := HQ3.out.alloc _
            go_simp
            go_wp2_with fail
            have HQS : Hid (FrQ w (t3.alloc (MBox 0 0 none 0 0)) [(p1, BBox ry cy sb m kb), (p0, BBox rx cx sa n ka)] []) := HQ4.out.sub (.cons _ (.cons_cons _ (.cons_cons _ .slnil))) (.cons _ (.cons _ (.cons _ .slnil)))
            refine hK.out _ _ (HKT.out _ HQS) (fun hHeld4 => ?_)
            clear hK K HQS
            try simp only [Act.put, List.setIfInBounds_toArray, List.set_cons_zero, List.set_cons_succ]
            obtain ⟨t4, ht4⟩ : ∃ X, Hid (t3.alloc (MBox 0 0 none 0 0) = X) := ⟨_, rfl⟩
            obtain ⟨ib, hib⟩ : ∃ X, Hid (t3.heap.size = X) := ⟨_, rfl⟩
            rw [ht4.out, hib.out] at HQ4
            have hy1 : t3.alloc (.cells #[.int .i64 0, .int .i64 0, .slice none 0 0] 32) = t4 := ht4.out
            have hy2 := hib.out
            rw [hy1]
            rw [hy2]
            clear hy1 hy2
            refine wpAnyH_ready (rs := [6]) (by kernel_rfl) (by simp) ?_
            refine AllReadyH.cons (o := _) rfl (fun K hK => ?_) AllReadyH.nil
            have HQ5 : Hid (FrQ w (t4.alloc (MBox 0 0 none 0 0)) [(t4.heap.size, MBox 0 0 none 0 0), (ib, MBox 0 0 none 0 0), (p1, BBox ry cy sb m kb), (p0, BBox rx cx sa n ka)] [fun W => FlM W tu q cu us, fun W => FlM W tb m cb ys, fun W => FlM W ta n ca xs]) := HQ4.out.alloc _
            go_simp
            go_wp2_with fail
            have HQS : Hid (FrQ w (t4.alloc (MBox 0 0 none 0 0)) [(p1, BBox ry cy sb m kb), (p0, BBox rx cx sa n ka)] []) := HQ5.out.sub (.cons _ (.cons _ (.cons_cons _ (.cons_cons _ .slnil)))) (.cons _ (.cons _ (.cons _ .slnil)))
            refine hK.out _ _ (HKT.out _ HQS) (fun hHeld5 => ?_)
            clear hK K HQS
            try simp only [Act.put, List.setIfInBounds_toArray, List.set_cons_zero, List.set_cons_succ]
            obtain ⟨t5, ht5⟩ : ∃ X, Hid (t4.alloc (MBox 0 0 none 0 0) = X) := ⟨_, rfl⟩
            obtain ⟨ia, hia⟩ : ∃ X, Hid (t4.heap.size = X) := ⟨_, rfl⟩
            rw [ht5.out, hia.out] at HQ5
            have hy1 : t4.alloc (.cells #[.int .i64 0, .int .i64 0, .slice none 0 0] 32) = t5 := ht5.out
            have hy2 := hia.out
            rw [hy1]
            rw [hy2]
            clear hy1 hy2
            refine wpAnyH_ready (rs := [8]) (by kernel_rfl) (by simp) ?_
            refine AllReadyH.cons (o := _) rfl (fun K hK => ?_) AllReadyH.nil
            obtain ⟨z0, z1, z2⟩ := mcells_of (HQ5.out.at 0 rfl : t5.heap[ia]? = some (MBox 0 0 none 0 0))
            have fz := frzM (HQ5.out.at 0 rfl : t5.heap[ia]? = some (MBox 0 0 none 0 0))
            have HQ6 : Hid (FrQ w (StoM t5 ia rx cx ta n ca) [(ia, MBox rx cx ta n ca), (ib, MBox 0 0 none 0 0), (p1, BBox ry cy sb m kb), (p0, BBox rx cx sa n ka)] [fun W => FlM W tu q cu us, fun W => FlM W tb m cb ys, fun W => FlM W ta n ca xs]) := HQ5.out.sto 0 rfl
            obtain ⟨U6, hU6⟩ : ∃ X, Hid ((StoM t5 ia rx cx ta n ca) = X) := ⟨_, rfl⟩
            rw [hU6.out] at HQ6
            have hU6' := hU6.out
            unfold StoM at hU6'
            go_simp
            go_wp2_with fail
            have HQS : Hid (FrQ w U6 [(p1, BBox ry cy sb m kb), (p0, BBox rx cx sa n ka)] []) := HQ6.out.sub (.cons _ (.cons _ (.cons_cons _ (.cons_cons _ .slnil)))) (.cons _ (.cons _ (.cons _ .slnil)))
            refine hK.out _ _ (HKT.out _ HQS) (fun hHeld6 => ?_)
            clear hK K HQS
            try simp only [Act.put, List.setIfInBounds_toArray, List.set_cons_zero, List.set_cons_succ]
            clear z0 z1 z2 fz
            refine wpAnyH_ready (rs := [9]) (by kernel_rfl) (by simp) ?_
            refine AllReadyH.cons (o := _) rfl (fun K hK => ?_) AllReadyH.nil
            obtain ⟨z0, z1, z2⟩ := mcells_of (HQ6.out.at 1 rfl : U6.heap[ib]? = some (MBox 0 0 none 0 0))
            have fz := frzM (HQ6.out.at 1 rfl : U6.heap[ib]? = some (MBox 0 0 none 0 0))
            have HQ7 : Hid (FrQ w (StoM U6 ib ry cy tb m cb) [(ia, MBox rx cx ta n ca), (ib, MBox ry cy tb m cb), (p1, BBox ry cy sb m kb), (p0, BBox rx cx sa n ka)] [fun W => FlM W tu q cu us, fun W => FlM W tb m cb ys, fun W => FlM W ta n ca xs]) := HQ6.out.sto 1 rfl
            obtain ⟨U7, hU7⟩ : ∃ X, Hid ((StoM U6 ib ry cy tb m cb) = X) := ⟨_, rfl⟩
            rw [hU7.out] at HQ7
            have hU7' := hU7.out
            unfold StoM at hU7'
            go_simp
            go_wp2_with fail
            have HQS : Hid (FrQ w U7 [(p1, BBox ry cy sb m kb), (p0, BBox rx cx sa n ka)] []) := HQ7.out.sub (.cons _ (.cons _ (.cons_cons _ (.cons_cons _ .slnil)))) (.cons _ (.cons _ (.cons _ .slnil)))
            refine hK.out _ _ (HKT.out _ HQS) (fun hHeld7 => ?_)
            clear hK K HQS
            try simp only [Act.put, List.setIfInBounds_toArray, List.set_cons_zero, List.set_cons_succ]
            clear z0 z1 z2 fz
            refine take_at 10 9 (.slice tu q cu) rfl rfl (by kernel_rfl) (by kernel_rfl) (by kernel_rfl) (fun _ _ _ h => h) (Or.inl ⟨by rfl, fun w hSw => by (try dsimp only at hSw); go_simp⟩) (by assumption) ?_
            simp only [Act.put, List.setIfInBounds_toArray, List.set_cons_zero, List.set_cons_succ]
            refine wpAnyH_done (by kernel_rfl) ?_ _
            have HQ7 : Hid (FrQ w U7 [(ib, MBox ry cy tb m cb), (ia, MBox rx cx ta n ca), (p1, BBox ry cy sb m kb), (p0, BBox rx cx sa n ka)] [fun W => FlM W tu q cu us, fun W => FlM W tb m cb ys, fun W => FlM W ta n ca xs]) := HQ7.out.swap
            exact HR.out _ _ ⟨ta, ca, tb, cb, tu, cu, ia, ib, rfl, HQ7.out⟩
        · have HQ3 : Hid (FrQ w (t2.alloc (MBox 0 0 none 0 0)) [(t2.heap.size, MBox 0 0 none 0 0), (p1, BBox ry cy sb m kb), (p0, BBox rx cx sa n ka)] [fun W => FlM W tb m cb ys, fun W => FlM W ta n ca xs]) := HQ2.out.alloc _
          go_simp
          go_wp2_with fail
          have HQS : Hid (FrQ w (t2.alloc (MBox 0 0 none 0 0)) [(p1, BBox ry cy sb m kb), (p0, BBox rx cx sa n ka)] []) := HQ3.out.sub (.cons _ (.cons_cons _ (.cons_cons _ .slnil))) (.cons _ (.cons _ .slnil))
          refine hK.out _ _ (HKT.out _ HQS) (fun hHeld3 => ?_)
          clear hK K HQS
          try simp only [Act.put, List.setIfInBounds_toArray, List.set_cons_zero, List.set_cons_succ]
          obtain ⟨t3, ht3⟩ : ∃ X, Hid (t2.alloc (MBox 0 0 none 0 0) = X) := ⟨_, rfl⟩
          obtain ⟨ia, hia⟩ : ∃ X, Hid (t2.heap.size = X) := ⟨_, rfl⟩
          rw [ht3.out, hia.out] at HQ3
          have hy1 : t2.alloc (.cells #[.int .i64 0, .int .i64 0, .slice none 0 0] 32) = t3 := ht3.out
          have hy2 := hia.out
          rw [hy1]
          rw [hy2]
          clear hy1 hy2
          refine wpAnyH_ready (rs := [5, 7]) (by kernel_rfl) (by simp) ?_
          refine AllReadyH.cons (o := _) rfl (fun K hK => ?_) (AllReadyH.cons (o := _) rfl (fun K hK => ?_) AllReadyH.nil)
          · go_simp
            refine (HLU.out _ HQ3.out.bel).mono ?_
            rintro e t4 ⟨⟨tu, cu, rfl, hf⟩, hbq⟩
            have HQ4 : Hid (FrQ w t4 [(ia, MBox 0 0 none 0 0), (p1, BBox ry cy sb m kb), (p0, BBox rx cx sa n ka)] [fun W => FlM W tb m cb ys, fun W => FlM W ta n ca xs]) := HQ3.out.call hbq
            have HQ4 : Hid (FrQ w t4 [(ia, MBox 0 0 none 0 0), (p1, BBox ry cy sb m kb), (p0, BBox rx cx sa n ka)] [fun W => FlM W tu q cu us, fun W => FlM W tb m cb ys, fun W => FlM W ta n ca xs]) := HQ4.out.add (kept_fl _ _ _ _) hf
            clear hbq
            go_wp2_with fail
            have HQS : Hid (FrQ w t4 [(p1, BBox ry cy sb m kb), (p0, BBox rx cx sa n ka)] []) := HQ4.out.sub (.cons _ (.cons_cons _ (.cons_cons _ .slnil))) (.cons _ (.cons _ (.cons _ .slnil)))
            refine hK.out _ _ (HKT.out _ HQS) (fun hHeld4 => ?_)
            clear hK K HQS
            try simp only [Act.put, List.setIfInBounds_toArray, List.set_cons_zero, List.set_cons_succ]
            refine wpAnyH_ready (rs := [7]) (by kernel_rfl) (by simp) ?_
            refine AllReadyH.cons (o := _) rfl (fun K hK => ?_) AllReadyH.nil
            have HQ5 : Hid (FrQ w (t4.alloc (MBox 0 0 none 0 0)) [(t4.heap.size, MBox 0 0 none 0 0), (ia, MBox 0 0 none 0 0), (p1, BBox ry cy sb m kb), (p0, BBox rx cx sa n ka)] [fun W => FlM W tu q cu us, fun W => FlM W tb m cb ys, fun W => FlM W ta n ca xs]) := HQ4.out.alloc _
            go_simp
            go_wp2_with fail
            have HQS : Hid (FrQ w (t4.alloc (MBox 0 0 none 0 0)) [(p1, BBox ry cy sb m kb), (p0, BBox rx cx sa n ka)] []) := HQ5.out.sub (.cons _ (.cons _ (.cons_cons _ (.cons_cons _ .slnil)))) (.cons _ (.cons _ (.cons _ .slnil)))
            refine hK.out _ _ (HKT.out _ HQS) (fun hHeld5 => ?_)
            clear hK K HQS
            try simp only [Act.put, List.setIfInBounds_toArray, List.set_cons_zero, List.set_cons_succ]
            obtain ⟨t5, ht5⟩ : ∃ X, Hid (t4.alloc (MBox 0 0 none 0 0) = X) := ⟨_, rfl⟩
            obtain ⟨ib, hib⟩ : ∃ X, Hid (t4.heap.size = X) := ⟨_, rfl⟩
            rw [ht5.out, hib.out] at HQ5
            have hy1 : t4.alloc (.cells #[.int .i64 0, .int .i64 0, .slice none 0 0] 32) = t5 := ht5.out
            have hy2 := hib.out
            rw [hy1]
            rw [hy2]
            clear hy1 hy2
            refine wpAnyH_ready (rs := [8]) (by kernel_rfl) (by simp) ?_
            refine AllReadyH.cons (o := _) rfl (fun K hK => ?_) AllReadyH.nil
            obtain ⟨z0, z1, z2⟩ := mcells_of (HQ5.out.at 1 rfl : t5.heap[ia]? = some (MBox 0 0 none 0 0))
            have fz := frzM (HQ5.out.at 1 rfl : t5.heap[ia]? = some (MBox 0 0 none 0 0))
            have HQ6 : Hid (FrQ w (StoM t5 ia rx cx ta n ca) [(ib, MBox 0 0 none 0 0), (ia, MBox rx cx ta n ca), (p1, BBox ry cy sb m kb), (p0, BBox rx cx sa n ka)] [fun W => FlM W tu q cu us, fun W => FlM W tb m cb ys, fun W => FlM W ta n ca xs]) := HQ5.out.sto 1 rfl
            obtain ⟨U6, hU6⟩ : ∃ X, Hid ((StoM t5 ia rx cx ta n ca) = X) := ⟨_, rfl⟩
            rw [hU6.out] at HQ6
            have hU6' := hU6.out
            unfold StoM at hU6'
            go_simp
            go_wp2_with fail
            have HQS : Hid (FrQ w U6 [(p1, BBox ry cy sb m kb), (p0, BBox rx cx sa n ka)] []) := HQ6.out.sub (.cons _ (.cons _ (.cons_cons _ (.cons_cons _ .slnil)))) (.cons _ (.cons _ (.cons _ .slnil)))
            refine hK.out _ _ (HKT.out _ HQS) (fun hHeld6 => ?_)
            clear hK K HQS
            try simp only [Act.put, List.setIfInBounds_toArray, List.set_cons_zero, List.set_cons_succ]
            clear z0 z1 z2 fz
            refine wpAnyH_ready (rs := [9]) (by kernel_rfl) (by simp) ?_
            refine AllReadyH.cons (o := _) rfl (fun K hK => ?_) AllReadyH.nil
            obtain ⟨z0, z1, z2⟩ := mcells_of (HQ6.out.at 0 rfl : U6.heap[ib]? = some (MBox 0 0 none 0 0))
            have fz := frzM (HQ6.out.at 0 rfl : U6.heap[ib]? = some (MBox 0 0 none 0 0))
            have HQ7 : Hid (FrQ w (StoM U6 ib ry cy tb m cb) [(ib, MBox ry cy tb m cb), (ia, MBox rx cx ta n ca), (p1, BBox ry cy sb m kb), (p0, BBox rx cx sa n ka)] [fun W => FlM W tu q cu us, fun W => FlM W tb m cb ys, fun W => FlM W ta n ca xs]) := HQ6.out.sto 0 rfl
            obtain ⟨U7, hU7⟩ : ∃ X, Hid ((StoM U6 ib ry cy tb m cb) = X) := ⟨_, rfl⟩
            rw [hU7.out] at HQ7
            have hU7' := hU7.out
            unfold StoM at hU7'
            go_simp
            go_wp2_with fail
            have HQS : Hid (FrQ w U7 [(p1, BBox ry cy sb m kb), (p0, BBox rx cx sa n ka)] []) := HQ7.out.sub (.cons _ (.cons _ (.cons_cons _ (.cons_cons _ .slnil)))) (.cons _ (.cons _ (.cons _ .slnil)))
            refine hK.out _ _ (HKT.out _ HQS) (fun hHeld7 => ?_)
            clear hK K HQS
            try simp only [Act.put, List.setIfInBounds_toArray, List.set_cons_zero, List.set_cons_succ]
            clear z0 z1 z2 fz
            refine take_at 10 9 (.slice tu q cu) rfl rfl (by kernel_rfl) (by kernel_rfl) (by kernel_rfl) (fun _ _ _ h => h) (Or.inl ⟨by rfl, fun w hSw => by (try dsimp only at hSw); go_simp⟩) (by assumption) ?_
            simp only [Act.put, List.setIfInBounds_toArray, List.set_cons_zero, List.set_cons_succ]
            refine wpAnyH_done (by kernel_rfl) ?_ _
            exact HR.out _ _ ⟨ta, ca, tb, cb, tu, cu, ia, ib, rfl, HQ7.out⟩
          · have HQ4 : Hid (FrQ w (t3.alloc (MBox 0 0 none 0 0)) [(t3.heap.size, MBox 0 0 none 0 0), (ia, MBox 0 0 none 0 0), (p1, BBox ry cy sb m kb), (p0, BBox rx cx sa n ka)] [fun W => FlM W tb m cb ys, fun W => FlM W ta n ca xs]) := HQ3.out.alloc _
            go_simp
            go_wp2_with fail
            have HQS : Hid (FrQ w (t3.alloc (MBox 0 0 none 0 0)) [(p1, BBox ry cy sb m kb), (p0, BBox rx cx sa n ka)] []) := HQ4.out.sub (.cons _ (.cons _ (.cons_cons _ (.cons_cons _ .slnil)))) (.cons _ (.cons _ .slnil))
            refine hK.out _ _ (HKT.out _ HQS) (fun hHeld4 => ?_)
            clear hK K HQS
            try simp only [Act.put, List.setIfInBounds_toArray, List.set_cons_zero, List.set_cons_succ]
            obtain ⟨t4, ht4⟩ : ∃ X, Hid (t3.alloc (MBox 0 0 none 0 0) = X) := ⟨_, rfl⟩
            obtain ⟨ib, hib⟩ : ∃ X, Hid (t3.heap.size = X) := ⟨_, rfl⟩
            rw [ht4.out, hib.out] at HQ4
            have hy1 : t3.alloc (.cells #[.int .i64 0, .int .i64 0, .slice none 0 0] 32) = t4 := ht4.out
            have hy2 := hib.out
            rw [hy1]
            rw [hy2]
            clear hy1 hy2
            refine wpAnyH_ready (rs := [5]) (by kernel_rfl) (by simp) ?_
            refine AllReadyH.cons (o := _) rfl (fun K hK => ?_) AllReadyH.nil
            go_simp
            refine (HLU.out _ HQ4.out.bel).mono ?_
            rintro e t5 ⟨⟨tu, cu, rfl, hf⟩, hbq⟩
            have HQ5 : Hid (FrQ w t5 [(ib, MBox 0 0 none 0 0), (ia, MBox 0 0 none 0 0), (p1, BBox ry cy sb m kb), (p0, BBox rx cx sa n ka)] [fun W => FlM W tb m cb ys, fun W => FlM W ta n ca xs]) := HQ4.out.call hbq
            have HQ5 : Hid (FrQ w t5 [(ib, MBox 0 0 none 0 0), (ia, MBox 0 0 none 0 0), (p1, BBox ry cy sb m kb), (p0, BBox rx cx sa n ka)] [fun W => FlM W tu q cu us, fun W => FlM W tb m cb ys, fun W => FlM W ta n ca xs]) := HQ5.out.add (kept_fl _ _ _ _) hf
            clear hbq
            go_wp2_with fail
            have HQS : Hid (FrQ w t5 [(p1, BBox ry cy sb m kb), (p0, BBox rx cx sa n ka)] []) := HQ5.out.sub (.cons _ (.cons _ (.cons_cons _ (.cons_cons _ .slnil)))) (.cons _ (.cons _ (.cons _ .slnil)))
            refine hK.out _ _ (HKT.out _ HQS) (fun hHeld5 => ?_)
            clear hK K HQS
            try simp only [Act.put, List.setIfInBounds_toArray, List.set_cons_zero, List.set_cons_succ]
            refine wpAnyH_ready (rs := [8]) (by kernel_rfl) (by simp) ?_
            refine AllReadyH.cons (o := _) rfl (fun K hK => ?_) AllReadyH.nil
            obtain ⟨z0, z1, z2⟩ := mcells_of (HQ5.out.at 1 rfl : t5.heap[ia]? = some (MBox 0 0 none 0 0))
            have fz := frzM (HQ5.out.at 1 rfl : t5.heap[ia]? = some (MBox 0 0 none 0 0))
            have HQ6 : Hid (FrQ w (StoM t5 ia rx cx ta n ca) [(ib, MBox 0 0 none 0 0), (ia, MBox rx cx ta n ca), (p1, BBox ry cy sb m kb), (p0, BBox rx cx sa n ka)] [fun W => FlM W tu q cu us, fun W => FlM W tb m cb ys, fun W => FlM W ta n ca xs]) := HQ5.out.sto 1 rfl
            obtain ⟨U6, hU6⟩ : ∃ X, Hid ((StoM t5 ia rx cx ta n ca) = X) := ⟨_, rfl⟩
            rw [hU6.out] at HQ6
            have hU6' := hU6.out
            unfold StoM at hU6'
            go_simp
            go_wp2_with fail
            have HQS : Hid (FrQ w U6 [(p1, BBox ry cy sb m kb), (p0, BBox rx cx sa n ka)] []) := HQ6.out.sub (.cons _ (.cons _ (.cons_cons _ (.cons_cons _ .slnil)))) (.cons _ (.cons _ (.cons _ .slnil)))
            refine hK.out _ _ (HKT.out _ HQS) (fun hHeld6 => ?_)
            clear hK K HQS
            try simp only [Act.put, List.setIfInBounds_toArray, List.set_cons_zero, List.set_cons_succ]
            clear z0 z1 z2 fz
            refine wpAnyH_ready (rs := [9]) (by kernel_rfl) (by simp) ?_
            refine AllReadyH.cons (o := _) rfl (fun K hK => ?_) AllReadyH.nil
            obtain ⟨z0, z1, z2⟩ := mcells_of (HQ6.out.at 0 rfl : U6.heap[ib]? = some (MBox 0 0 none 0 0))
            have fz := frzM (HQ6.out.at 0 rfl : U6.heap[ib]? = some (MBox 0 0 none 0 0))
            have HQ7 : Hid (FrQ w (StoM U6 ib ry cy tb m cb) [(ib, MBox ry cy tb m cb), (ia, MBox rx cx ta n ca), (p1, BBox ry cy sb m kb), (p0, BBox rx cx sa n ka)] [fun W => FlM W tu q cu us, fun W => FlM W tb m cb ys, fun W => FlM W ta n ca xs]) := HQ6.out.sto 0 rfl
            obtain ⟨U7, hU7⟩ : ∃ X, Hid ((StoM U6 ib ry cy tb m cb) = X) := ⟨_, rfl⟩
            rw [hU7.out] at HQ7
            have hU7' := hU7.out
            unfold StoM at hU7'
            go_simp
            go_wp2_with fail
            have HQS : Hid (FrQ w U7 [(p1, BBox ry cy sb m kb), (p0, BBox rx cx sa n ka)] []) := HQ7.out.sub (.cons _ (.cons _ (.cons_cons _ (.cons_cons _ .slnil)))) (.cons _ (.cons _ (.cons _ .slnil)))
            refine hK.out _ _ (HKT.out _ HQS) (fun hHeld7 => ?_)
            clear hK K HQS
            try simp only [Act.put, List.setIfInBounds_toArray, List.set_cons_zero, List.set_cons_succ]
            clear z0 z1 z2 fz
            refine take_at 10 9 (.slice tu q cu) rfl rfl (by kernel_rfl) (by kernel_rfl) (by kernel_rfl) (fun _ _ _ h => h) (Or.inl ⟨by rfl, fun w hSw => by (try dsimp only at hSw); go_simp⟩) (by assumption) ?_
            simp only [Act.put, List.setIfInBounds_toArray, List.set_cons_zero, List.set_cons_succ]
            refine wpAnyH_done (by kernel_rfl) ?_ _
            exact HR.out _ _ ⟨ta, ca, tb, cb, tu, cu, ia, ib, rfl, HQ7.out⟩
        · have HQ3 : Hid (FrQ w (t2.alloc (MBox 0 0 none 0 0)) [(t2.heap.size, MBox 0 0 none 0 0), (p1, BBox ry cy sb m kb), (p0, BBox rx cx sa n ka)] [fun W => FlM W tb m cb ys, fun W => FlM W ta n ca xs]) := HQ2.out.alloc _
          go_simp
          go_wp2_with fail
          have HQS : Hid (FrQ w (t2.alloc (MBox 0 0 none 0 0)) [(p1, BBox ry cy sb m kb), (p0, BBox rx cx sa n ka)] []) := HQ3.out.sub (.cons _ (.cons_cons _ (.cons_cons _ .slnil))) (.cons _ (.cons _ .slnil))
          refine hK.out _ _ (HKT.out _ HQS) (fun hHeld3 => ?_)
          clear hK K HQS
          try simp only [Act.put, List.setIfInBounds_toArray, List.set_cons_zero, List.set_cons_succ]
          obtain ⟨t3, ht3⟩ : ∃ X, Hid (t2.alloc (MBox 0 0 none 0 0) = X) := ⟨_, rfl⟩
          obtain ⟨ib, hib⟩ : ∃ X, Hid (t2.heap.size = X) := ⟨_, rfl⟩
          rw [ht3.out, hib.out] at HQ3
          have hy1 : t2.alloc (.cells #[.int .i64 0, .int .i64 0, .slice none 0 0] 32) = t3 := ht3.out
          have hy2 := hib.out
          rw [hy1]
          rw [hy2]
          clear hy1 hy2
          refine wpAnyH_ready (rs := [5, 6]) (by kernel_rfl) (by simp) ?_
          refine AllReadyH.cons (o := _) rfl (fun K hK => ?_) (AllReadyH.cons (o := _) rfl (fun K hK => ?_) AllReadyH.nil)
          · go_simp
            refine (HLU.out _ HQ3.out.bel).mono ?_
            rintro e t4 ⟨⟨tu, cu, rfl, hf⟩, hbq⟩
            have HQ4 : Hid (FrQ w t4 [(ib, MBox 0 0 none 0 0), (p1, BBox ry cy sb m kb), (p0, BBox rx cx sa n ka)] [fun W => FlM W tb m cb ys, fun W => FlM W ta n ca xs]) := HQ3.out.call hbq
            have HQ4 : Hid (FrQ w t4 [(ib, MBox 0 0 none 0 0), (p1, BBox ry cy sb m kb), (p0, BBox rx cx sa n ka)] [fun W => FlM W tu q cu us, fun W => FlM W tb m cb ys, fun W => FlM W ta n ca xs]) := HQ4.out.add (kept_fl _ _ _ _) hf
            clear hbq
            go_wp2_with fail
            have HQS : Hid (FrQ w t4 [(p1, BBox ry cy sb m kb), (p0, BBox rx cx sa n ka)] []) := HQ4.out.sub (.cons _ (.cons_cons _ (.cons_cons _ .slnil))) (.cons _ (.cons _ (.cons _ .slnil)))
            refine hK.out _ _ (HKT.out _ HQS) (fun hHeld4 => ?_)
            clear hK K HQS
            try simp only [Act.put, List.setIfInBounds_toArray, List.set_cons_zero, List.set_cons_succ]
            refine wpAnyH_ready (rs := [6]) (by kernel_rfl) (by simp) ?_
            refine AllReadyH.cons (o := _) rfl (fun K hK => ?_) AllReadyH.nil
            have HQ5 : Hid (FrQ w (t4.alloc (MBox 0 0 none 0 0)) [(t4.heap.size, MBox 0 0 none 0 0), (ib, MBox 0 0 none 0 0), (p1, BBox ry cy sb m kb), (p0, BBox rx cx sa n ka)] [fun W => FlM W tu q cu us, fun W => FlM W tb m cb ys, fun W => FlM W ta n ca xs]) := HQ4.out.alloc _
            go_simp
            go_wp2_with fail
            have HQS : Hid (FrQ w (t4.alloc (MBox 0 0 none 0 0)) [(p1, BBox ry cy sb m kb), (p0, BBox rx cx sa n ka)] []) := HQ5.out.sub (.cons _ (.cons _ (.cons_cons _ (.cons_cons _ .slnil)))) (.cons _ (.cons _ (.cons _ .slnil)))
            refine hK.out _ _ (HKT.out _ HQS) (fun hHeld5 => ?_)
            clear hK K HQS
            try simp only [Act.put, List.setIfInBounds_toArray, List.set_cons_zero, List.set_cons_succ]
            obtain ⟨t5, ht5⟩ : ∃ X, Hid (t4.alloc (MBox 0 0 none 0 0) = X) := ⟨_, rfl⟩
            obtain ⟨ia, hia⟩ : ∃ X, Hid (t4.heap.size = X) := ⟨_, rfl⟩
            rw [ht5.out, hia.out] at HQ5
            have hy1 : t4.alloc (.cells #[.int .i64 0, .int .i64 0, .slice none 0 0] 32) = t5 := ht5.out
            have hy2 := hia.out
            rw [hy1]
            rw [hy2]
            clear hy1 hy2
            refine wpAnyH_ready (rs := [8]) (by kernel_rfl) (by simp) ?_
            refine AllReadyH.cons (o := _) rfl (fun K hK => ?_) AllReadyH.nil
            obtain ⟨z0, z1, z2⟩ := mcells_of (HQ5.out.at 0 rfl : t5.heap[ia]? = some (MBox 0 0 none 0 0))
            have fz := frzM (HQ5.out.at 0 rfl : t5.heap[ia]? = some (MBox 0 0 none 0 0))
            have HQ6 : Hid (FrQ w (StoM t5 ia rx cx ta n ca) [(ia, MBox rx cx ta n ca), (ib, MBox 0 0 none 0 0), (p1, BBox ry cy sb m kb), (p0, BBox rx cx sa n ka)] [fun W => FlM W tu q cu us, fun W => FlM W tb m cb ys, fun W => FlM W ta n ca xs]) := HQ5.out.sto 0 rfl
            obtain ⟨U6, hU6⟩ : ∃ X, Hid ((StoM t5 ia rx cx ta n ca) = X) := ⟨_, rfl⟩
            rw [hU6.out] at HQ6
            have hU6' := hU6.out
            unfold StoM at hU6'
            go_simp
            go_wp2_with fail
            have HQS : Hid (FrQ w U6 [(p1, BBox ry cy sb m kb), (p0, BBox rx cx sa n ka)] []) := HQ6.out.sub (.cons _ (.cons _ (.cons_cons _ (.cons_cons _ .slnil)))) (.cons _ (.cons _ (.cons _ .slnil)))
            refine hK.out _ _ (HKT.out _ HQS) (fun hHeld6 => ?_)
            clear hK K HQS
            try simp only [Act.put, List.setIfInBounds_toArray, List.set_cons_zero, List.set_cons_succ]
            clear z0 z1 z2 fz
            refine wpAnyH_ready (rs := [9]) (by kernel_rfl) (by simp) ?_
            refine AllReadyH.cons (o := _) rfl (fun K hK => ?_) AllReadyH.nil
            obtain ⟨z0, z1, z2⟩ := mcells_of (HQ6.out.at 1 rfl : U6.heap[ib]? = some (MBox 0 0 none 0 0))
            have fz := frzM (HQ6.out.at 1 rfl : U6.heap[ib]? = some (MBox 0 0 none 0 0))
            have HQ7 : Hid (FrQ w (StoM U6 ib ry cy tb m cb) [(ia, MBox rx cx ta n ca), (ib, MBox ry cy tb m cb), (p1, BBox ry cy sb m kb), (p0, BBox rx cx sa n ka)] [fun W => FlM W tu q cu us, fun W => FlM W tb m cb ys, fun W => FlM W ta n ca xs]) := HQ6.out.sto 1 rfl
            obtain ⟨U7, hU7⟩ : ∃ X, Hid ((StoM U6 ib ry cy tb m cb) = X) := ⟨_, rfl⟩
            rw [hU7.out] at HQ7
            have hU7' := hU7.out
            unfold StoM at hU7'
            go_simp
            go_wp2_with fail
            have HQS : Hid (FrQ w U7 [(p1, BBox ry cy sb m kb), (p0, BBox rx cx sa n ka)] []) := HQ7.out.sub (.cons _ (.cons _ (.cons_cons _ (.cons_cons _ .slnil)))) (.cons _ (.cons _ (.cons _ .slnil)))
            refine hK.out _ _ (HKT.out _ HQS) (fun hHeld7 => ?_)
            clear hK K HQS
            try simp only [Act.put, List.setIfInBounds_toArray, List.set_cons_zero, List.set_cons_succ]
            clear z0 z1 z2 fz
            refine take_at 10 9 (.slice tu q cu) rfl rfl (by kernel_rfl) (by kernel_rfl) (by kernel_rfl) (fun _ _ _ h => h) (Or.inl ⟨by rfl, fun w hSw => by (try dsimp only at hSw); go_simp⟩) (by assumption) ?_
            simp only [Act.put, List.setIfInBounds_toArray, List.set_cons_zero, List.set_cons_succ]
            refine wpAnyH_done (by kernel_rfl) ?_ _
            have HQ7 : Hid (FrQ w U7 [(ib, MBox ry cy tb m cb), (ia, MBox rx cx ta n ca), (p1, BBox ry cy sb m kb), (p0, BBox rx cx sa n ka)] [fun W => FlM W tu q cu us, fun W => FlM W tb m cb ys, fun W => FlM W ta n ca xs]) := HQ7.out.swap
            exact HR.out _ _ ⟨ta, ca, tb, cb, tu, cu, ia, ib, rfl, HQ7.out⟩
          · have HQ4 : Hid (FrQ w (t3.alloc (MBox 0 0 none 0 0)) [(t3.heap.size, MBox 0 0 none 0 0), (ib, MBox 0 0 none 0 0), (p1, BBox ry cy sb m kb), (p0, BBox rx cx sa n ka)] [fun W => FlM W tb m cb ys, fun W => FlM W ta n ca xs]) := HQ3.out.alloc _
            go_simp
            go_wp2_with fail
            have HQS : Hid (FrQ w (t3.alloc (MBox 0 0 none 0 0)) [(p1, BBox ry cy sb m kb), (p0, BBox rx cx sa n ka)] []) := HQ4.out.sub (.cons _ (.cons _ (.cons_cons _ (.cons_cons _ .slnil)))) (.cons _ (.cons _ .slnil))
            refine hK.out _ _ (HKT.out _ HQS) (fun hHeld4 => ?_)
            clear hK K HQS
            try simp only [Act.put, List.setIfInBounds_toArray, List.set_cons_zero, List.set_cons_succ]
            obtain ⟨t4, ht4⟩ : ∃ X, Hid (t3.alloc (MBox 0 0 none 0 0) = X) := ⟨_, rfl⟩
            obtain ⟨ia, hia⟩ : ∃ X, Hid (t3.heap.size = X) := ⟨_, rfl⟩
            rw [ht4.out, hia.out] at HQ4
            have hy1 : t3.alloc (.cells #[.int .i64 0, .int .i64 0, .slice none 0 0] 32) = t4 := ht4.out
            have hy2 := hia.out
            rw [hy1]
            rw [hy2]
            clear hy1 hy2
            refine wpAnyH_ready (rs := [5]) (by kernel_rfl) (by simp) ?_
            refine AllReadyH.cons (o := _) rfl (fun K hK => ?_) AllReadyH.nil
            go_simp
            refine (HLU.out _ HQ4.out.bel).mono ?_
            rintro e t5 ⟨⟨tu, cu, rfl, hf⟩, hbq⟩
            have HQ5 : Hid (FrQ w t5 [(ia, MBox 0 0 none 0 0), (ib, MBox 0 0 none 0 0), (p1, BBox ry cy sb m kb), (p0, BBox rx cx sa n ka)] [fun W => FlM W tb m cb ys, fun W => FlM W ta n ca xs]) := HQ4.out.call hbq
            have HQ5 : Hid (FrQ w t5 [(ia, MBox 0 0 none 0 0), (ib, MBox 0 0 none 0 0), (p1, BBox ry cy sb m kb), (p0, BBox rx cx sa n ka)] [fun W => FlM W tu q cu us, fun W => FlM W tb m cb ys, fun W => FlM W ta n ca xs]) := HQ5.out.add (kept_fl _ _ _ _) hf
            clear hbq
            go_wp2_with fail
            have HQS : Hid (FrQ w t5 [(p1, BBox ry cy sb m kb), (p0, BBox rx cx sa n ka)] []) := HQ5.out.sub (.cons _ (.cons _ (.cons_cons _ (.cons_cons _ .slnil)))) (.cons _ (.cons _ (.cons _ .slnil)))
            refine hK.out _ _ (HKT.out _ HQS) (fun hHeld5 => ?_)
            clear hK K HQS
            try simp only [Act.put, List.setIfInBounds_toArray, List.set_cons_zero, List.set_cons_succ]
            refine wpAnyH_ready (rs := [8]) (by kernel_rfl) (by simp) ?_
            refine AllReadyH.cons (o := _) rfl (fun K hK => ?_) AllReadyH.nil
            obtain ⟨z0, z1, z2⟩ := mcells_of (HQ5.out.at 0 rfl : t5.heap[ia]? = some (MBox 0 0 none 0 0))
            have fz := frzM (HQ5.out.at 0 rfl : t5.heap[ia]? = some (MBox 0 0 none 0 0))
            have HQ6 : Hid (FrQ w (StoM t5 ia rx cx ta n ca) [(ia, MBox rx cx ta n ca), (ib, MBox 0 0 none 0 0), (p1, BBox ry cy sb m kb), (p0, BBox rx cx sa n ka)] [fun W => FlM W tu q cu us, fun W => FlM W tb m cb ys, fun W => FlM W ta n ca xs]) := HQ5.out.sto 0 rfl
            obtain ⟨U6, hU6⟩ : ∃ X, Hid ((StoM t5 ia rx cx ta n ca) = X) := ⟨_, rfl⟩
            rw [hU6.out] at HQ6
            have hU6' := hU6.out
            unfold StoM at hU6'
            go_simp
            go_wp2_with fail
            have HQS : Hid (FrQ w U6 [(p1, BBox ry cy sb m kb), (p0, BBox rx cx sa n ka)] []) := HQ6.out.sub (.cons _ (.cons _ (.cons_cons _ (.cons_cons _ .slnil)))) (.cons _ (.cons _ (.cons _ .slnil)))
            refine hK.out _ _ (HKT.out _ HQS) (fun hHeld6 => ?_)
            clear hK K HQS
            try simp only [Act.put, List.setIfInBounds_toArray, List.set_cons_zero, List.set_cons_succ]
            clear z0 z1 z2 fz
            refine wpAnyH_ready (rs := [9]) (by kernel_rfl) (by simp) ?_
            refine AllReadyH.cons (o := _) rfl (fun K hK => ?_) AllReadyH.nil
            obtain ⟨z0, z1, z2⟩ := mcells_of (HQ6.out.at 1 rfl : U6.heap[ib]? = some (MBox 0 0 none 0 0))
            have fz := frzM (HQ6.out.at 1 rfl : U6.heap[ib]? = some (MBox 0 0 none 0 0))
            have HQ7 : Hid (FrQ w (StoM U6 ib ry cy tb m cb) [(ia, MBox rx cx ta n ca), (ib, MBox ry cy tb m cb), (p1, BBox ry cy sb m kb), (p0, BBox rx cx sa n ka)] [fun W => FlM W tu q cu us, fun W => FlM W tb m cb ys, fun W => FlM W ta n ca xs]) := HQ6.out.sto 1 rfl
            obtain ⟨U7, hU7⟩ : ∃ X, Hid ((StoM U6 ib ry cy tb m cb) = X) := ⟨_, rfl⟩
            rw [hU7.out] at HQ7
            have hU7' := hU7.out
            unfold StoM at hU7'
            go_simp
            go_wp2_with fail
            have HQS : Hid (FrQ w U7 [(p1, BBox ry cy sb m kb), (p0, BBox rx cx sa n ka)] []) := HQ7.out.sub (.cons _ (.cons _ (.cons_cons _ (.cons_cons _ .slnil)))) (.cons _ (.cons _ (.cons _ .slnil)))
            refine hK.out _ _ (HKT.out _ HQS) (fun hHeld7 => ?_)
            clear hK K HQS
            try simp only [Act.put, List.setIfInBounds_toArray, List.set_cons_zero, List.set_cons_succ]
            clear z0 z1 z2 fz
            refine take_at 10 9 (.slice tu q cu) rfl rfl (by kernel_rfl) (by kernel_rfl) (by kernel_rfl) (fun _ _ _ h => h) (Or.inl ⟨by rfl, fun w hSw => by (try dsimp only at hSw); go_simp⟩) (by assumption) ?_
            simp only [Act.put, List.setIfInBounds_toArray, List.set_cons_zero, List.set_cons_succ]
            refine wpAnyH_done (by kernel_rfl) ?_ _
            have HQ7 : Hid (FrQ w U7 [(ib, MBox ry cy tb m cb), (ia, MBox rx cx ta n ca), (p1, BBox ry cy sb m kb), (p0, BBox rx cx sa n ka)] [fun W => FlM W tu q cu us, fun W => FlM W tb m cb ys, fun W => FlM W ta n ca xs]) := HQ7.out.swap
            exact HR.out _ _ ⟨ta, ca, tb, cb, tu, cu, ia, ib, rfl, HQ7.out⟩
      · have HQ2 : Hid (FrQ w (t1.alloc (MBox 0 0 none 0 0)) [(t1.heap.size, MBox 0 0 none 0 0), (p1, BBox ry cy sb m kb), (p0, BBox rx cx sa n ka)] [fun W => FlM W ta n ca xs]) := HQ1.out.alloc _
        go_simp
        go_wp2_with fail
        have HQS : Hid (FrQ w (t1.alloc (MBox 0 0 none 0 0)) [(p1, BBox ry cy sb m kb), (p0, BBox rx cx sa n ka)] []) := HQ2.out.sub (.cons _ (.cons_cons _ (.cons_cons _ .slnil))) (.cons _ .slnil)
        refine hK.out _ _ (HKT.out _ HQS) (fun hHeld2 => ?_)
        clear hK K HQS
        try simp only [Act.put, List.setIfInBounds_toArray, List.set_cons_zero, List.set_cons_succ]
        obtain ⟨t2, ht2⟩ : ∃ X, Hid (t1.alloc (MBox 0 0 none 0 0) = X) := ⟨_, rfl⟩
        obtain ⟨ia, hia⟩ : ∃ X, Hid (t1.heap.size = X) := ⟨_, rfl⟩
        rw [ht2.out, hia.out] at HQ2
        have hy1 : t1.alloc (.cells #[.int .i64 0, .int .i64 0, .slice none 0 0] 32) = t2 := ht2.out
        have hy2 := hia.out
        rw [hy1]
        rw [hy2]
        clear hy1 hy2
        refine wpAnyH_ready (rs := [3, 7]) (by kernel_rfl) (by simp) ?_
        refine AllReadyH.cons (o := _) rfl (fun K hK => ?_) (AllReadyH.cons (o := _) rfl (fun K hK => ?_) AllReadyH.nil)
        · go_simp
          refine (HOY.out _ HQ2.out.bel).mono ?_
          rintro e t3 ⟨⟨tb, cb, rfl, hf⟩, hbq⟩
          have HQ3 : Hid (FrQ w t3 [(ia, MBox 0 0 none 0 0), (p1, BBox ry cy sb m kb), (p0, BBox rx cx sa n ka)] [fun W => FlM W ta n ca xs]) := HQ2.out.call hbq
          have HQ3 : Hid (FrQ w t3 [(ia, MBox 0 0 none 0 0), (p1, BBox ry cy sb m kb), (p0, BBox rx cx sa n ka)] [fun W => FlM W tb m cb ys, fun W => FlM W ta n ca xs]) := HQ3.out.add (kept_fl _ _ _ _) hf
          clear hbq
          unfold MV
          go_wp2_with fail
          have HQS : Hid (FrQ w t3 [(p1, BBox ry cy sb m kb), (p0, BBox rx cx sa n ka)] []) := HQ3.out.sub (.cons _ (.cons_cons _ (.cons_cons _ .slnil))) (.cons _ (.cons _ .slnil))
          refine hK.out _ _ (HKT.out _ HQS) (fun hHeld3 => ?_)
          clear hK K HQS
          try simp only [Act.put, List.setIfInBounds_toArray, List.set_cons_zero, List.set_cons_succ]
          refine wpAnyH_ready (rs := [5, 7]) (by kernel_rfl) (by simp) ?_
          refine AllReadyH.cons (o := _) rfl (fun K hK => ?_) (AllReadyH.cons (o := _) rfl (fun K hK => ?_) AllReadyH.nil)
          · go_simp
            refine (HLU.out _ HQ3.out.bel).mono ?_
            rintro e t4 ⟨⟨tu, cu, rfl, hf⟩, hbq⟩
            have HQ4 : Hid (FrQ w t4 [(ia, MBox 0 0 none 0 0), (p1, BBox ry cy sb m kb), (p0, BBox rx cx sa n ka)] [fun W => FlM W tb m cb ys, fun W => FlM W ta n ca xs]) := HQ3.out.call hbq
            have HQ4 : Hid (FrQ w t4 [(ia, MBox 0 0 none 0 0), (p1, BBox ry cy sb m kb), (p0, BBox rx cx sa n ka)] [fun W => FlM W tu q cu us, fun W => FlM W tb m cb ys, fun W => FlM W ta n ca xs]) := HQ4.out.add (kept_fl _ _ _ _) hf
            clear hbq
            go_wp2_with fail
            have HQS : Hid (FrQ w t4 [(p1, BBox ry cy sb m kb), (p0, BBox rx cx sa n ka)] []) := HQ4.out.sub (.cons _ (.cons_cons _ (.cons_cons _ .slnil))) (.cons _ (.cons _ (.cons _ .slnil)))
            refine hK.out _ _ (HKT.out _ HQS) (fun hHeld4 => ?_)
            clear hK K HQS
            try simp only [Act.put, List.setIfInBounds_toArray, List.set_cons_zero, List.set_cons_succ]
            refine wpAnyH_ready (rs := [7]) (by kernel_rfl) (by simp) ?_
            refine AllReadyH.cons (o := _) rfl (fun K hK => ?_) AllReadyH.nil
            have HQ5 : Hid (FrQ w (t4.alloc (MBox 0 0 none 0 0)) [(t4.heap.size, MBox 0 0 none 0 0), (ia, MBox 0 0 none 0 0), (p1, BBox ry cy sb m kb), (p0, BBox rx cx sa n ka)] [fun W => FlM W tu q cu us, fun W => FlM W tb m cb ys, fun W => FlM W ta n ca xs]) := HQ4.out.alloc _
            go_simp
            go_wp2_with fail
            have HQS : Hid (FrQ w (t4.alloc (MBox 0 0 none 0 0)) [(p1, BBox ry cy sb m kb), (p0, BBox rx cx sa n ka)] []) := HQ5.out.sub (.cons _ (.cons _ (.cons_cons _ (.cons_cons _ .slnil)))) (.cons _ (.cons _ (.cons _ .slnil)))
            refine hK.out _ _ (HKT.out _ HQS) (fun hHeld5 => ?_)
            clear hK K HQS
            try simp only [Act.put, List.setIfInBounds_toArray, List.set_cons_zero, List.set_cons_succ]
            obtain ⟨t5, ht5⟩ : ∃ X, Hid (t4.alloc (MBox 0 0 none 0 0) = X) := ⟨_, rfl⟩
            obtain ⟨ib, hib⟩ : ∃ X, Hid (t4.heap.size = X) := ⟨_, rfl⟩
            rw [ht5.out, hib.out] at HQ5
            have hy1 : t4.alloc (.cells #[.int .i64 0, .int .i64 0, .slice none 0 0] 32) = t5 := ht5.out
            have hy2 := hib.out
            rw [hy1]
            rw [hy2]
            clear hy1 hy2
            refine wpAnyH_ready (rs := [8]) (by kernel_rfl) (by simp) ?_
            refine AllReadyH.cons (o := _) rfl (fun K hK => ?_) AllReadyH.nil
            obtain ⟨z0, z1, z2⟩ := mcells_of (HQ5.out.at 1 rfl : t5.heap[ia]? = some (MBox 0 0 none 0 0))
            have fz := frzM (HQ5.out.at 1 rfl : t5.heap[ia]? = some (MBox 0 0 none 0 0))
            have HQ6 : Hid (FrQ w (StoM t5 ia rx cx ta n ca) [(ib, MBox 0 0 none 0 0), (ia, MBox rx cx ta n ca), (p1, BBox ry cy sb m kb), (p0, BBox rx cx sa n ka)] [fun W => FlM W tu q cu us, fun W => FlM W tb m cb ys, fun W => FlM W ta n ca xs]) := HQ5.out.sto 1 rfl
            obtain ⟨U6, hU6⟩ : ∃ X, Hid ((StoM t5 ia rx cx ta n ca) = X) := ⟨_, rfl⟩
            rw [hU6.out] at HQ6
            have hU6' := hU6.out
            unfold StoM at hU6'
            go_simp
            go_wp2_with fail
            have HQS : Hid (FrQ w U6 [(p1, BBox ry cy sb m kb), (p0, BBox rx cx sa n ka)] []) := HQ6.out.sub (.cons _ (.cons _ (.cons_cons _ (.cons_cons _ .slnil)))) (.cons _ (.cons _ (.cons _ .slnil)))
            refine hK.out _ _ (HKT.out _ HQS) (fun hHeld6 => ?_)
            clear hK K HQS
            try simp only [Act.put, List.setIfInBounds_toArray, List.set_cons_zero, List.set_cons_succ]
            clear z0 z1 z2 fz
            refine wpAnyH_ready (rs := [9]) (by kernel_rfl) (by simp) ?_
            refine AllReadyH.cons (o := _) rfl (fun K hK => ?_) AllReadyH.nil
            obtain ⟨z0, z1, z2⟩ := mcells_of (HQ6.out.at 0 rfl : U6.heap[ib]? = some (MBox 0 0 none 0 0))
            have fz := frzM (HQ6.out.at 0 rfl : U6.heap[ib]? = some (MBox 0 0 none 0 0))
            have HQ7 : Hid (FrQ w (StoM U6 ib ry cy tb m cb) [(ib, MBox ry cy tb m cb), (ia, MBox rx cx ta n ca), (p1, BBox ry cy sb m kb), (p0, BBox rx cx sa n ka)] [fun W => FlM W tu q cu us, fun W => FlM W tb m cb ys, fun W => FlM W ta n ca xs]) := HQ6.out.sto 0 rfl
            obtain ⟨U7, hU7⟩ : ∃ X, Hid ((StoM U6 ib ry cy tb m cb) = X) := ⟨_, rfl⟩
            rw [hU7.out] at HQ7
            have hU7' := hU7.out
            unfold StoM at hU7'
            go_simp
            go_wp2_with fail
            have HQS : Hid (FrQ w U7 [(p1, BBox ry cy sb m kb), (p0, BBox rx cx sa n ka)] []) := HQ7.out.sub (.cons _ (.cons _ (.cons_cons _ (.cons_cons _ .slnil)))) (.cons _ (.cons _ (.cons _ .slnil)))
            refine hK.out _ _ (HKT.out _ HQS) (fun hHeld7 => ?_)
            clear hK K HQS
            try simp only [Act.put, List.setIfInBounds_toArray, List.set_cons_zero, List.set_cons_succ]
            clear z0 z1 z2 fz
            refine take_at 10 9 (.slice tu q cu) rfl rfl (by kernel_rfl) (by kernel_rfl) (by kernel_rfl) (fun _ _ _ h => h) (Or.inl ⟨by rfl, fun w hSw => by (try dsimp only at hSw); go_simp⟩) (by assumption) ?_
            simp only [Act.put, List.setIfInBounds_toArray, List.set_cons_zero, List.set_cons_succ]
            refine wpAnyH_done (by kernel_rfl) ?_ _
            exact HR.out _ _ ⟨ta, ca, tb, cb, tu, cu, ia, ib, rfl, HQ7.out⟩
          · have HQ4 : Hid (FrQ w (t3.alloc (MBox 0 0 none 0 0)) [(t3.heap.size, MBox 0 0 none 0 0), (ia, MBox 0 0 none 0 0), (p1, BBox ry cy sb m kb), (p0, BBox rx cx sa n ka)] [fun W => FlM W tb m cb ys, fun W => FlM W ta n ca xs]) := HQ3.out.alloc _
            go_simp
            go_wp2_with fail
            have HQS : Hid (FrQ w (t3.alloc (MBox 0 0 none 0 0)) [(p1, BBox ry cy sb m kb), (p0, BBox rx cx sa n ka)] []) := HQ4.out.sub (.cons _ (.cons _ (.cons_cons _ (.cons_cons _ .slnil)))) (.cons _ (.cons _ .slnil))
            refine hK.out _ _ (HKT.out _ HQS) (fun hHeld4 => ?_)
            clear hK K HQS
            try simp only [Act.put, List.setIfInBounds_toArray, List.set_cons_zero, List.set_cons_succ]
            obtain ⟨t4, ht4⟩ : ∃ X, Hid (t3.alloc (MBox 0 0 none 0 0) = X) := ⟨_, rfl⟩
            obtain ⟨ib, hib⟩ : ∃ X, Hid (t3.heap.size = X) := ⟨_, rfl⟩
            rw [ht4.out, hib.out] at HQ4
            have hy1 : t3.alloc (.cells #[.int .i64 0, .int .i64 0, .slice none 0 0] 32) = t4 := ht4.out
            have hy2 := hib.out
            rw [hy1]
            rw [hy2]
            clear hy1 hy2
            refine wpAnyH_ready (rs := [5]) (by kernel_rfl) (by simp) ?_
            refine AllReadyH.cons (o := _) rfl (fun K hK => ?_) AllReadyH.nil
            go_simp
            refine (HLU.out _ HQ4.out.bel).mono ?_
            rintro e t5 ⟨⟨tu, cu, rfl, hf⟩, hbq⟩
            have HQ5 : Hid (FrQ w t5 [(ib, MBox 0 0 none 0 0), (ia, MBox 0 0 none 0 0), (p1, BBox ry cy sb m kb), (p0, BBox rx cx sa n ka)] [fun W => FlM W tb m cb ys, fun W => FlM W ta n ca xs]) := HQ4.out.call hbq
            have HQ5 : Hid (FrQ w t5 [(ib, MBox 0 0 none 0 0), (ia, MBox 0 0 none 0 0), (p1, BBox ry cy sb m kb), (p0, BBox rx cx sa n ka)] [fun W => FlM W tu q cu us, fun W => FlM W tb m cb ys, fun W => FlM W ta n ca xs]) := HQ5.out.add (kept_fl _ _ _ _) hf
            clear hbq
            go_wp2_with fail
            have HQS : Hid (FrQ w t5 [(p1, BBox ry cy sb m kb), (p0, BBox rx cx sa n ka)] []) := HQ5.out.sub (.cons _ (.cons _ (.cons_cons _ (.cons_cons _ .slnil)))) (.cons _ (.cons _ (.cons _ .slnil)))
            refine hK.out _ _ (HKT.out _ HQS) (fun hHeld5 => ?_)
            clear hK K HQS
            try simp only [Act.put, List.setIfInBounds_toArray, List.set_cons_zero, List.set_cons_succ]
            refine wpAnyH_ready (rs := [8]) (by kernel_rfl) (by simp) ?_
            refine AllReadyH.cons (o := _) rfl (fun K hK => ?_) AllReadyH.nil
            obtain ⟨z0, z1, z2⟩ := mcells_of (HQ5.out.at 1 rfl : t5.heap[ia]? = some (MBox 0 0 none 0 0))
            have fz := frzM (HQ5.out.at 1 rfl : t5.heap[ia]? = some (MBox 0 0 none 0 0))
            have HQ6 : Hid (FrQ w (StoM t5 ia rx cx ta n ca) [(ib, MBox 0 0 none 0 0), (ia, MBox rx cx ta n ca), (p1, BBox ry cy sb m kb), (p0, BBox rx cx sa n ka)] [fun W => FlM W tu q cu us, fun W => FlM W tb m cb ys, fun W => FlM W ta n ca xs]) := HQ5.out.sto 1 rfl
            obtain ⟨U6, hU6⟩ : ∃ X, Hid ((StoM t5 ia rx cx ta n ca) = X) := ⟨_, rfl⟩
            rw [hU6.out] at HQ6
            have hU6' := hU6.out
            unfold StoM at hU6'
            go_simp
            go_wp2_with fail
            have HQS : Hid (FrQ w U6 [(p1, BBox ry cy sb m kb), (p0, BBox rx cx sa n ka)] []) := HQ6.out.sub (.cons _ (.cons _ (.cons_cons _ (.cons_cons _ .slnil)))) (.cons _ (.cons _ (.cons _ .slnil)))
            refine hK.out _ _ (HKT.out _ HQS) (fun hHeld6 => ?_)
            clear hK K HQS
            try simp only [Act.put, List.setIfInBounds_toArray, List.set_cons_zero, List.set_cons_succ]
            clear z0 z1 z2 fz
            refine wpAnyH_ready (rs := [9]) (by kernel_rfl) (by simp) ?_
            refine AllReadyH.cons (o := _) rfl (fun K hK => ?_) AllReadyH.nil
            obtain ⟨z0, z1, z2⟩ := mcells_of (HQ6.out.at 0 rfl : U6.heap[ib]? = some (MBox 0 0 none 0 0))
            have fz := frzM (HQ6.out.at 0 rfl : U6.heap[ib]? = some (MBox 0 0 none 0 0))
            have HQ7 : Hid (FrQ w (StoM U6 ib ry cy tb m cb) [(ib, MBox ry cy tb m cb), (ia, MBox rx cx ta n ca), (p1, BBox ry cy sb m kb), (p0, BBox rx cx sa n ka)] [fun W => FlM W tu q cu us, fun W => FlM W tb m cb ys, fun W => FlM W ta n ca xs]) := HQ6.out.sto 0 rfl
            obtain ⟨U7, hU7⟩ : ∃ X, Hid ((StoM U6 ib ry cy tb m cb) = X) := ⟨_, rfl⟩
            rw [hU7.out] at HQ7
            have hU7' := hU7.out
            unfold StoM at hU7'
            go_simp
            go_wp2_with fail
            have HQS : Hid (FrQ w U7 [(p1, BBox ry cy sb m kb), (p0, BBox rx cx sa n ka)] []) := HQ7.out.sub (.cons _ (.cons _ (.cons_cons _ (.cons_cons _ .slnil)))) (.cons _ (.cons _ (.cons _ .slnil)))
            refine hK.out _ _ (HKT.out _ HQS) (fun hHeld7 => ?_)
            clear hK K HQS
            try simp only [Act.put, List.setIfInBounds_toArray, List.set_cons_zero, List.set_cons_succ]
            clear z0 z1 z2 fz
            refine take_at 10 9 (.slice tu q cu) rfl rfl (by kernel_rfl) (by kernel_rfl) (by kernel_rfl) (fun _ _ _ h => h) (Or.inl ⟨by rfl, fun w hSw => by (try dsimp only at hSw); go_simp⟩) (by assumption) ?_
            simp only [Act.put, List.setIfInBounds_toArray, List.set_cons_zero, List.set_cons_succ]
            refine wpAnyH_done (by kernel_rfl) ?_ _
            exact HR.out _ _ ⟨ta, ca, tb, cb, tu, cu, ia, ib, rfl, HQ7.out⟩
        · have HQ3 : Hid (FrQ w (t2.alloc (MBox 0 0 none 0 0)) [(t2.heap.size, MBox 0 0 none 0 0), (ia, MBox 0 0 none 0 0), (p1, BBox ry cy sb m kb), (p0, BBox rx cx sa n ka)] [fun W => FlM W ta n ca xs]) := HQ2.out.alloc _
          go_simp
          go_wp2_with fail
          have HQS : Hid (FrQ w (t2.alloc (MBox 0 0 none 0 0)) [(p1, BBox ry cy sb m kb), (p0, BBox rx cx sa n ka)] []) := HQ3.out.sub (.cons _ (.cons _ (.cons_cons _ (.cons_cons _ .slnil)))) (.cons _ .slnil)
          refine hK.out _ _ (HKT.out _ HQS) (fun hHeld3 => ?_)
          clear hK K HQS
          try simp only [Act.put, List.setIfInBounds_toArray, List.set_cons_zero, List.set_cons_succ]
          obtain ⟨t3, ht3⟩ : ∃ X, Hid (t2.alloc (MBox 0 0 none 0 0) = X) := ⟨_, rfl⟩
          obtain ⟨ib, hib⟩ : ∃ X, Hid (t2.heap.size = X) := ⟨_, rfl⟩
          rw [ht3.out, hib.out] at HQ3
          have hy1 : t2.alloc (.cells #[.int .i64 0, .int .i64 0, .slice none 0 0] 32) = t3 := ht3.out
          have hy2 := hib.out
          rw [hy1]
          rw [hy2]
          clear hy1 hy2
          refine wpAnyH_ready (rs := [3]) (by kernel_rfl) (by simp) ?_
          refine AllReadyH.cons (o := _) rfl (fun K hK => ?_) AllReadyH.nil
          go_simp
          refine (HOY.out _ HQ3.out.bel).mono ?_
          rintro e t4 ⟨⟨tb, cb, rfl, hf⟩, hbq⟩
          have HQ4 : Hid (FrQ w t4 [(ib, MBox 0 0 none 0 0), (ia, MBox 0 0 none 0 0), (p1, BBox ry cy sb m kb), (p0, BBox rx cx sa n ka)] [fun W => FlM W ta n ca xs]) := HQ3.out.call hbq
          have HQ4 : Hid (FrQ w t4 [(ib, MBox 0 0 none 0 0), (ia, MBox 0 0 none 0 0), (p1, BBox ry cy sb m kb), (p0, BBox rx cx sa n ka)] [fun W => FlM W tb m cb ys, fun W => FlM W ta n ca xs]) := HQ4.out.add (kept_fl _ _ _ _) hf
          clear hbq
          unfold MV
          go_wp2_with fail
          have HQS : Hid (FrQ w t4 [(p1, BBox ry cy sb m kb), (p0, BBox rx cx sa n ka)] []) := HQ4.out.sub (.cons _ (.cons _ (.cons_cons _ (.cons_cons _ .slnil)))) (.cons _ (.cons _ .slnil))
          refine hK.out _ _ (HKT.out _ HQS) (fun hHeld4 => ?_)
          clear hK K HQS
          try simp only [Act.put, List.setIfInBounds_toArray, List.set_cons_zero, List.set_cons_succ]
          refine wpAnyH_ready (rs := [5]) (by kernel_rfl) (by simp) ?_
          refine AllReadyH.cons (o := _) rfl (fun K hK => ?_) AllReadyH.nil
          go_simp
          refine (HLU.out _ HQ4.out.bel).mono ?_
          rintro e t5 ⟨⟨tu, cu, rfl, hf⟩, hbq⟩
          have HQ5 : Hid (FrQ w t5 [(ib, MBox 0 0 none 0 0), (ia, MBox 0 0 none 0 0), (p1, BBox ry cy sb m kb), (p0, BBox rx cx sa n ka)] [fun W => FlM W tb m cb ys, fun W => FlM W ta n ca xs]) := HQ4.out.call hbq
          have HQ5 : Hid (FrQ w t5 [(ib, MBox 0 0 none 0 0), (ia, MBox 0 0 none 0 0), (p1, BBox ry cy sb m kb), (p0, BBox rx cx sa n ka)] [fun W => FlM W tu q cu us, fun W => FlM W tb m cb ys, fun W => FlM W ta n ca xs]) := HQ5.out.add (kept_fl _ _ _ _) hf
          clear hbq
          go_wp2_with fail
          have HQS : Hid (FrQ w t5 [(p1, BBox ry cy sb m kb), (p0, BBox rx cx sa n ka)] []) := HQ5.out.sub (.cons _ (.cons _ (.cons_cons _ (.cons_cons _ .slnil)))) (.cons _ (.cons _ (.cons _ .slnil)))
          refine hK.out _ _ (HKT.out _ HQS) (fun hHeld5 => ?_)
          clear hK K HQS
          try simp only [Act.put, List.setIfInBounds_toArray, List.set_cons_zero, List.set_cons_succ]
          refine wpAnyH_ready (rs := [8]) (by kernel_rfl) (by simp) ?_
          refine AllReadyH.cons (o := _) rfl (fun K hK => ?_) AllReadyH.nil
          obtain ⟨z0, z1, z2⟩ := mcells_of (HQ5.out.at 1 rfl : t5.heap[ia]? = some (MBox 0 0 none 0 0))
          have fz := frzM (HQ5.out.at 1 rfl : t5.heap[ia]? = some (MBox 0 0 none 0 0))
          have HQ6 : Hid (FrQ w (StoM t5 ia rx cx ta n ca) [(ib, MBox 0 0 none 0 0), (ia, MBox rx cx ta n ca), (p1, BBox ry cy sb m kb), (p0, BBox rx cx sa n ka)] [fun W => FlM W tu q cu us, fun W => FlM W tb m cb ys, fun W => FlM W ta n ca xs]) := HQ5.out.sto 1 rfl
          obtain ⟨U6, hU6⟩ : ∃ X, Hid ((StoM t5 ia rx cx ta n ca) = X) := ⟨_, rfl⟩
          rw [hU6.out] at HQ6
          have hU6' := hU6.out
          unfold StoM at hU6'
          go_simp
          go_wp2_with fail
          have HQS : Hid (FrQ w U6 [(p1, BBox ry cy sb m kb), (p0, BBox rx cx sa n ka)] []) := HQ6.out.sub (.cons _ (.cons _ (.cons_cons _ (.cons_cons _ .slnil)))) (.cons _ (.cons _ (.cons _ .slnil)))
          refine hK.out _ _ (HKT.out _ HQS) (fun hHeld6 => ?_)
          clear hK K HQS
          try simp only [Act.put, List.setIfInBounds_toArray, List.set_cons_zero, List.set_cons_succ]
          clear z0 z1 z2 fz
          refine wpAnyH_ready (rs := [9]) (by kernel_rfl) (by simp) ?_
          refine AllReadyH.cons (o := _) rfl (fun K hK => ?_) AllReadyH.nil
          obtain ⟨z0, z1, z2⟩ := mcells_of (HQ6.out.at 0 rfl : U6.heap[ib]? = some (MBox 0 0 none 0 0))
          have fz := frzM (HQ6.out.at 0 rfl : U6.heap[ib]? = some (MBox 0 0 none 0 0))
          have HQ7 : Hid (FrQ w (StoM U6 ib ry cy tb m cb) [(ib, MBox ry cy tb m cb), (ia, MBox rx cx ta n ca), (p1, BBox ry cy sb m kb), (p0, BBox rx cx sa n ka)] [fun W => FlM W tu q cu us, fun W => FlM W tb m cb ys, fun W => FlM W ta n ca xs]) := HQ6.out.sto 0 rfl
          obtain ⟨U7, hU7⟩ : ∃ X, Hid ((StoM U6 ib ry cy tb m cb) = X) := ⟨_, rfl⟩
          rw [hU7.out] at HQ7
          have hU7' := hU7.out
          unfold StoM at hU7'
          go_simp
          go_wp2_with fail
          have HQS : Hid (FrQ w U7 [(p1, BBox ry cy sb m kb), (p0, BBox rx cx sa n ka)] []) := HQ7.out.sub (.cons _ (.cons _ (.cons_cons _ (.cons_cons _ .slnil)))) (.cons _ (.cons _ (.cons _ .slnil)))
          refine hK.out _ _ (HKT.out _ HQS) (fun hHeld7 => ?_)
          clear hK K HQS
          try simp only [Act.put, List.setIfInBounds_toArray, List.set_cons_zero, List.set_cons_succ]
          clear z0 z1 z2 fz
          refine take_at 10 9 (.slice tu q cu) rfl rfl (by kernel_rfl) (by kernel_rfl) (by kernel_rfl) (fun _ _ _ h => h) (Or.inl ⟨by rfl, fun w hSw => by (try dsimp only at hSw); go_simp⟩) (by assumption) ?_
          simp only [Act.put, List.setIfInBounds_toArray, List.set_cons_zero, List.set_cons_succ]
          refine wpAnyH_done (by kernel_rfl) ?_ _
          exact HR.out _ _ ⟨ta, ca, tb, cb, tu, cu, ia, ib, rfl, HQ7.out⟩
      · have HQ2 : Hid (FrQ w (t1.alloc (MBox 0 0 none 0 0)) [(t1.heap.size, MBox 0 0 none 0 0), (p1, BBox ry cy sb m kb), (p0, BBox rx cx sa n ka)] [fun W => FlM W ta n ca xs]) := HQ1.out.alloc _
        go_simp
        go_wp2_with fail
        have HQS : Hid (FrQ w (t1.alloc (MBox 0 0 none 0 0)) [(p1, BBox ry cy sb m kb), (p0, BBox rx cx sa n ka)] []) := HQ2.out.sub (.cons _ (.cons_cons _ (.cons_cons _ .slnil))) (.cons _ .slnil)
        refine hK.out _ _ (HKT.out _ HQS) (fun hHeld2 => ?_)
        clear hK K HQS
        try simp only [Act.put, List.setIfInBounds_toArray, List.set_cons_zero, List.set_cons_succ]
        obtain ⟨t2, ht2⟩ : ∃ X, Hid (t1.alloc (MBox 0 0 none 0 0) = X) := ⟨_, rfl⟩
        obtain ⟨ib, hib⟩ : ∃ X, Hid (t1.heap.size = X) := ⟨_, rfl⟩
        rw [ht2.out, hib.out] at HQ2
        have hy1 : t1.alloc (.cells #[.int .i64 0, .int .i64 0, .slice none 0 0] 32) = t2 := ht2.out
        have hy2 := hib.out
        rw [hy1]
        rw [hy2]
        clear hy1 hy2
        refine wpAnyH_ready (rs := [3, 6]) (by kernel_rfl) (by simp) ?_
        refine AllReadyH.cons (o := _) rfl (fun K hK => ?_) (AllReadyH.cons (o := _) rfl (fun K hK => ?_) AllReadyH.nil)
        · go_simp
          refine (HOY.out _ HQ2.out.bel).mono ?_
          rintro e t3 ⟨⟨tb, cb, rfl, hf⟩, hbq⟩
          have HQ3 : Hid (FrQ w t3 [(ib, MBox 0 0 none 0 0), (p1, BBox ry cy sb m kb), (p0, BBox rx cx sa n ka)] [fun W => FlM W ta n ca xs]) := HQ2.out.call hbq
          have HQ3 : Hid (FrQ w t3 [(ib, MBox 0 0 none 0 0), (p1, BBox ry cy sb m kb), (p0, BBox rx cx sa n ka)] [fun W => FlM W tb m cb ys, fun W => FlM W ta n ca xs]) := HQ3.out.add (kept_fl _ _ _ _) hf
          clear hbq
          unfold MV
          go_wp2_with fail
          have HQS : Hid (FrQ w t3 [(p1, BBox ry cy sb m kb), (p0, BBox rx cx sa n ka)] []) := HQ3.out.sub (.cons _ (.cons_cons _ (.cons_cons _ .slnil))) (.cons _ (.cons _ .slnil))
          refine hK.out _ _ (HKT.out _ HQS) (fun hHeld3 => ?_)
          clear hK K HQS
          try simp only [Act.put, List.setIfInBounds_toArray, List.set_cons_zero, List.set_cons_succ]
          refine wpAnyH_ready (rs := [5, 6]) (by kernel_rfl) (by simp) ?_
          refine AllReadyH.cons (o := _) rfl (fun K hK => ?_) (AllReadyH.cons (o := _) rfl (fun K hK => ?_) AllReadyH.nil)
          · go_simp
            refine (HLU.out _ HQ3.out.bel).mono ?_
            rintro e t4 ⟨⟨tu, cu, rfl, hf⟩, hbq⟩
            have HQ4 : Hid (FrQ w t4 [(ib, MBox 0 0 none 0 0), (p1, BBox ry cy sb m kb), (p0, BBox rx cx sa n ka)] [fun W => FlM W tb m cb ys, fun W => FlM W ta n ca xs]) := HQ3.out.call hbq
            have HQ4 : Hid (FrQ w t4 [(ib, MBox 0 0 none 0 0), (p1, BBox ry cy sb m kb), (p0, BBox rx cx sa n ka)] [fun W => FlM W tu q cu us, fun W => FlM W tb m cb ys, fun W => FlM W ta n ca xs]) := HQ4.out.add (kept_fl _ _ _ _) hf
            clear hbq
            go_wp2_with fail
            have HQS : Hid (FrQ w t4 [(p1, BBox ry cy sb m kb), (p0, BBox rx cx sa n ka)] []) := HQ4.out.sub (.cons _ (.cons_cons _ (.cons_cons _ .slnil))) (.cons _ (.cons _ (.cons _ .slnil)))
            refine hK.out _ _ (HKT.out _ HQS) (fun hHeld4 => ?_)
            clear hK K HQS
            try simp only [Act.put, List.setIfInBounds_toArray, List.set_cons_zero, List.set_cons_succ]
            refine wpAnyH_ready (rs := [6]) (by kernel_rfl) (by simp) ?_
            refine AllReadyH.cons (o := _) rfl (fun K hK => ?_) AllReadyH.nil
            have HQ5 : Hid (FrQ w (t4.alloc (MBox 0 0 none 0 0)) [(t4.heap.size, MBox 0 0 none 0 0), (ib, MBox 0 0 none 0 0), (p1, BBox ry cy sb m kb), (p0, BBox rx cx sa n ka)] [fun W => FlM W tu q cu us, fun W => FlM W tb m cb ys, fun W => FlM W ta n ca xs]) := HQ4.out.alloc _
            go_simp
            go_wp2_with fail
            have HQS : Hid (FrQ w (t4.alloc (MBox 0 0 none 0 0)) [(p1, BBox ry cy sb m kb), (p0, BBox rx cx sa n ka)] []) := HQ5.out.sub (.cons _ (.cons _ (.cons_cons _ (.cons_cons _ .slnil)))) (.cons _ (.cons _ (.cons _ .slnil)))
            refine hK.out _ _ (HKT.out _ HQS) (fun hHeld5 => ?_)
            clear hK K HQS
            try simp only [Act.put, List.setIfInBounds_toArray, List.set_cons_zero, List.set_cons_succ]
            obtain ⟨t5, ht5⟩ : ∃ X, Hid (t4.alloc (MBox 0 0 none 0 0) = X) := ⟨_, rfl⟩
            obtain ⟨ia, hia⟩ : ∃ X, Hid (t4.heap.size = X) := ⟨_, rfl⟩
            rw [ht5.out, hia.out] at HQ5
            have hy1 : t4.alloc (.cells #[.int .i64 0, .int .i64 0, .slice none 0 0] 32) = t5 := ht5.out
            have hy2 := hia.out
            rw [hy1]
            rw [hy2]
            clear hy1 hy2
            refine wpAnyH_ready (rs := [8]) (by kernel_rfl) (by simp) ?_
            refine AllReadyH.cons (o := _) rfl (fun K hK => ?_) AllReadyH.nil
            obtain ⟨z0, z1, z2⟩ := mcells_of (HQ5.out.at 0 rfl : t5.heap[ia]? = some (MBox 0 0 none 0 0))
            have fz := frzM (HQ5.out.at 0 rfl : t5.heap[ia]? = some (MBox 0 0 none 0 0))
            have HQ6 : Hid (FrQ w (StoM t5 ia rx cx ta n ca) [(ia, MBox rx cx ta n ca), (ib, MBox 0 0 none 0 0), (p1, BBox ry cy sb m kb), (p0, BBox rx cx sa n ka)] [fun W => FlM W tu q cu us, fun W => FlM W tb m cb ys, fun W => FlM W ta n ca xs]) := HQ5.out.sto 0 rfl
            obtain ⟨U6, hU6⟩ : ∃ X, Hid ((StoM t5 ia rx cx ta n ca) = X) := ⟨_, rfl⟩
            rw [hU6.out] at HQ6
            have hU6' := hU6.out
            unfold StoM at hU6'
            go_simp
            go_wp2_with fail
            have HQS : Hid (FrQ w U6 [(p1, BBox ry cy sb m kb), (p0, BBox rx cx sa n ka)] []) := HQ6.out.sub (.cons _ (.cons _ (.cons_cons _ (.cons_cons _ .slnil)))) (.cons _ (.cons _ (.cons _ .slnil)))
            refine hK.out _ _ (HKT.out _ HQS) (fun hHeld6 => ?_)
            clear hK K HQS
            try simp only [Act.put, List.setIfInBounds_toArray, List.set_cons_zero, List.set_cons_succ]
            clear z0 z1 z2 fz
            refine wpAnyH_ready (rs := [9]) (by kernel_rfl) (by simp) ?_
            refine AllReadyH.cons (o := _) rfl (fun K hK => ?_) AllReadyH.nil
            obtain ⟨z0, z1, z2⟩ := mcells_of (HQ6.out.at 1 rfl : U6.heap[ib]? = some (MBox 0 0 none 0 0))
            have fz := frzM (HQ6.out.at 1 rfl : U6.heap[ib]? = some (MBox 0 0 none 0 0))
            have HQ7 : Hid (FrQ w (StoM U6 ib ry cy tb m cb) [(ia, MBox rx cx ta n ca), (ib, MBox ry cy tb m cb), (p1, BBox ry cy sb m kb), (p0, BBox rx cx sa n ka)] [fun W => FlM W tu q cu us, fun W => FlM W tb m cb ys, fun W => FlM W ta n ca xs]) := HQ6.out.sto 1 rfl
            obtain ⟨U7, hU7⟩ : ∃ X, Hid ((StoM U6 ib ry cy tb m cb) = X) := ⟨_, rfl⟩
            rw [hU7.out] at HQ7
            have hU7' := hU7.out
            unfold StoM at hU7'
            go_simp
            go_wp2_with fail
            have HQS : Hid (FrQ w U7 [(p1, BBox ry cy sb m kb), (p0, BBox rx cx sa n ka)] []) := HQ7.out.sub (.cons _ (.cons _ (.cons_cons _ (.cons_cons _ .slnil)))) (.cons _ (.cons _ (.cons _ .slnil)))
            refine hK.out _ _ (HKT.out _ HQS) (fun hHeld7 => ?_)
            clear hK K HQS
            try simp only [Act.put, List.setIfInBounds_toArray, List.set_cons_zero, List.set_cons_succ]
            clear z0 z1 z2 fz
            refine take_at 10 9 (.slice tu q cu) rfl rfl (by kernel_rfl) (by kernel_rfl) (by kernel_rfl) (fun _ _ _ h => h) (Or.inl ⟨by rfl, fun w hSw => by (try dsimp only at hSw); go_simp⟩) (by assumption) ?_
            simp only [Act.put, List.setIfInBounds_toArray, List.set_cons_zero, List.set_cons_succ]
            refine wpAnyH_done (by kernel_rfl) ?_ _
            have HQ7 : Hid (FrQ w U7 [(ib, MBox ry cy tb m cb), (ia, MBox rx cx ta n ca), (p1, BBox ry cy sb m kb), (p0, BBox rx cx sa n ka)] [fun W => FlM W tu q cu us, fun W => FlM W tb m cb ys, fun W => FlM W ta n ca xs]) := HQ7.out.swap
            exact HR.out _ _ ⟨ta, ca, tb, cb, tu, cu, ia, ib, rfl, HQ7.out⟩
          · have HQ4 : Hid (FrQ w (t3.alloc (MBox 0 0 none 0 0)) [(t3.heap.size, MBox 0 0 none 0 0), (ib, MBox 0 0 none 0 0), (p1, BBox ry cy sb m kb), (p0, BBox rx cx sa n ka)] [fun W => FlM W tb m cb ys, fun W => FlM W ta n ca xs]) := HQ3.out.alloc _
            go_simp
            go_wp2_with fail
            have HQS : Hid (FrQ w (t3.alloc (MBox 0 0 none 0 0)) [(p1, BBox ry cy sb m kb), (p0, BBox rx cx sa n ka)] []) := HQ4.out.sub (.cons _ (.cons _ (.cons_cons _ (.cons_cons _ .slnil)))) (.cons _ (.cons _ .slnil))
            refine hK.out _ _ (HKT.out _ HQS) (fun hHeld4 => ?_)
            clear hK K HQS
            try simp only [Act.put, List.setIfInBounds_toArray, List.set_cons_zero, List.set_cons_succ]
            obtain ⟨t4, ht4⟩ : ∃ X, Hid (t3.alloc (MBox 0 0 none 0 0) = X) := ⟨_, rfl⟩
            obtain ⟨ia, hia⟩ : ∃ X, Hid (t3.heap.size = X) := ⟨_, rfl⟩
            rw [ht4.out, hia.out] at HQ4
            have hy1 : t3.alloc (.cells #[.int .i64 0, .int .i64 0, .slice none 0 0] 32) = t4 := ht4.out
            have hy2 := hia.out
            rw [hy1]
            rw [hy2]
            clear hy1 hy2
            refine wpAnyH_ready (rs := [5]) (by kernel_rfl) (by simp) ?_
            refine AllReadyH.cons (o := _) rfl (fun K hK => ?_) AllReadyH.nil
            go_simp
            refine (HLU.out _ HQ4.out.bel).mono ?_
            rintro e t5 ⟨⟨tu, cu, rfl, hf⟩, hbq⟩
            have HQ5 : Hid (FrQ w t5 [(ia, MBox 0 0 none 0 0), (ib, MBox 0 0 none 0 0), (p1, BBox ry cy sb m kb), (p0, BBox rx cx sa n ka)] [fun W => FlM W tb m cb ys, fun W => FlM W ta n ca xs]) := HQ4.out.call hbq
            have HQ5 : Hid (FrQ w t5 [(ia, MBox 0 0 none 0 0), (ib, MBox 0 0 none 0 0), (p1, BBox ry cy sb m kb), (p0, BBox rx cx sa n ka)] [fun W => FlM W tu q cu us, fun W => FlM W tb m cb ys, fun W => FlM W ta n ca xs]) := HQ5.out.add (kept_fl _ _ _ _) hf
            clear hbq
            go_wp2_with fail
            have HQS : Hid (FrQ w t5 [(p1, BBox ry cy sb m kb), (p0, BBox rx cx sa n ka)] []) := HQ5.out.sub (.cons _ (.cons _ (.cons_cons _ (.cons_cons _ .slnil)))) (.cons _ (.cons _ (.cons _ .slnil)))
            refine hK.out _ _ (HKT.out _ HQS) (fun hHeld5 => ?_)
            clear hK K HQS
            try simp only [Act.put, List.setIfInBounds_toArray, List.set_cons_zero, List.set_cons_succ]
            refine wpAnyH_ready (rs := [8]) (by kernel_rfl) (by simp) ?_
            refine AllReadyH.cons (o := _) rfl (fun K hK => ?_) AllReadyH.nil
            obtain ⟨z0, z1, z2⟩ := mcells_of (HQ5.out.at 0 rfl : t5.heap[ia]? = some (MBox 0 0 none 0 0))
            have fz := frzM (HQ5.out.at 0 rfl : t5.heap[ia]? = some (MBox 0 0 none 0 0))
            have HQ6 : Hid (FrQ w (StoM t5 ia rx cx ta n ca) [(ia, MBox rx cx ta n ca), (ib, MBox 0 0 none 0 0), (p1, BBox ry cy sb m kb), (p0, BBox rx cx sa n ka)] [fun W => FlM W tu q cu us, fun W => FlM W tb m cb ys, fun W => FlM W ta n ca xs]) := HQ5.out.sto 0 rfl
            obtain ⟨U6, hU6⟩ : ∃ X, Hid ((StoM t5 ia rx cx ta n ca) = X) := ⟨_, rfl⟩
            rw [hU6.out] at HQ6
            have hU6' := hU6.out
            unfold StoM at hU6'
            go_simp
            go_wp2_with fail
            have HQS : Hid (FrQ w U6 [(p1, BBox ry cy sb m kb), (p0, BBox rx cx sa n ka)] []) := HQ6.out.sub (.cons _ (.cons _ (.cons_cons _ (.cons_cons _ .slnil)))) (.cons _ (.cons _ (.cons _ .slnil)))
            refine hK.out _ _ (HKT.out _ HQS) (fun hHeld6 => ?_)
            clear hK K HQS
            try simp only [Act.put, List.setIfInBounds_toArray, List.set_cons_zero, List.set_cons_succ]
            clear z0 z1 z2 fz
            refine wpAnyH_ready (rs := [9]) (by kernel_rfl) (by simp) ?_
            refine AllReadyH.cons (o := _) rfl (fun K hK => ?_) AllReadyH.nil
            obtain ⟨z0, z1, z2⟩ := mcells_of (HQ6.out.at 1 rfl : U6.heap[ib]? = some (MBox 0 0 none 0 0))
            have fz := frzM (HQ6.out.at 1 rfl : U6.heap[ib]? = some (MBox 0 0 none 0 0))
            have HQ7 : Hid (FrQ w (StoM U6 ib ry cy tb m cb) [(ia, MBox rx cx ta n ca), (ib, MBox ry cy tb m cb), (p1, BBox ry cy sb m kb), (p0, BBox rx cx sa n ka)] [fun W => FlM W tu q cu us, fun W => FlM W tb m cb ys, fun W => FlM W ta n ca xs]) := HQ6.out.sto 1 rfl
            obtain ⟨U7, hU7⟩ : ∃ X, Hid ((StoM U6 ib ry cy tb m cb) = X) := ⟨_, rfl⟩
            rw [hU7.out] at HQ7
            have hU7' := hU7.out
            unfold StoM at hU7'
            go_simp
            go_wp2_with fail
            have HQS : Hid (FrQ w U7 [(p1, BBox ry cy sb m kb), (p0, BBox rx cx sa n ka)] []) := HQ7.out.sub (.cons _ (.cons _ (.cons_cons _ (.cons_cons _ .slnil)))) (.cons _ (.cons _ (.cons _ .slnil)))
            refine hK.out _ _ (HKT.out _ HQS) (fun hHeld7 => ?_)
            clear hK K HQS
            try simp only [Act.put, List.setIfInBounds_toArray, List.set_cons_zero, List.set_cons_succ]
            clear z0 z1 z2 fz
            refine take_at 10 9 (.slice tu q cu) rfl rfl (by kernel_rfl) (by kernel_rfl) (by kernel_rfl) (fun _ _ _ h => h) (Or.inl ⟨by rfl, fun w hSw => by (try dsimp only at hSw); go_simp⟩) (by assumption) ?_
            simp only [Act.put, List.setIfInBounds_toArray, List.set_cons_zero, List.set_cons_succ]
            refine wpAnyH_done (by kernel_rfl) ?_ _
            have HQ7 : Hid (FrQ w U7 [(ib, MBox ry cy tb m cb), (ia, MBox rx cx ta n ca), (p1, BBox ry cy sb m kb), (p0, BBox rx cx sa n ka)] [fun W => FlM W tu q cu us, fun W => FlM W tb m cb ys, fun W => FlM W ta n ca xs]) := HQ7.out.swap
            exact HR.out _ _ ⟨ta, ca, tb, cb, tu, cu, ia, ib, rfl, HQ7.out⟩
        · have HQ3 : Hid (FrQ w (t2.alloc (MBox 0 0 none 0 0)) [(t2.heap.size, MBox 0 0 none 0 0), (ib, MBox 0 0 none 0 0), (p1, BBox ry cy sb m kb), (p0, BBox rx cx sa n ka)] [fun W => FlM W ta n ca xs]) := HQ2.out.alloc _
          go_simp
          go_wp2_with fail
          have HQS : Hid (FrQ w (t2.alloc (MBox 0 0 none 0 0)) [(p1, BBox ry cy sb m kb), (p0, BBox rx cx sa n ka)] []) := HQ3.out.sub (.cons _ (.cons _ (.cons_cons _ (.cons_cons _ .slnil)))) (.cons _ .slnil)
          refine hK.out _ _ (HKT.out _ HQS) (fun hHeld3 => ?_)
          clear hK K HQS
          try simp only [Act.put, List.setIfInBounds_toArray, List.set_cons_zero, List.set_cons_succ]
          obtain ⟨t3, ht3⟩ : ∃ X, Hid (t2.alloc (MBox 0 0 none 0 0) = X) := ⟨_, rfl⟩
          obtain ⟨ia, hia⟩ : ∃ X, Hid (t2.heap.size = X) := ⟨_, rfl⟩
          rw [ht3.out, hia.out] at HQ3
          have hy1 : t2.alloc (.cells #[.int .i64 0, .int .i64 0, .slice none 0 0] 32) = t3 := ht3.out
          have hy2 := hia.out
          rw [hy1]
          rw [hy2]
          clear hy1 hy2
          refine wpAnyH_ready (rs := [3]) (by kernel_rfl) (by simp) ?_
          refine AllReadyH.cons (o := _) rfl (fun K hK => ?_) AllReadyH.nil
          go_simp
          refine (HOY.out _ HQ3.out.bel).mono ?_
          rintro e t4 ⟨⟨tb, cb, rfl, hf⟩, hbq⟩
          have HQ4 : Hid (FrQ w t4 [(ia, MBox 0 0 none 0 0), (ib, MBox 0 0 none 0 0), (p1, BBox ry cy sb m kb), (p0, BBox rx cx sa n ka)] [fun W => FlM W ta n ca xs]) := HQ3.out.call hbq
          have HQ4 : Hid (FrQ w t4 [(ia, MBox 0 0 none 0 0), (ib, MBox 0 0 none 0 0), (p1, BBox ry cy sb m kb), (p0, BBox rx cx sa n ka)] [fun W => FlM W tb m cb ys, fun W => FlM W ta n ca xs]) := HQ4.out.add (kept_fl _ _ _ _) hf
          clear hbq
          unfold MV
          go_wp2_with fail
          have HQS : Hid (FrQ w t4 [(p1, BBox ry cy sb m kb), (p0, BBox rx cx sa n ka)] []) := HQ4.out.sub (.cons _ (.cons _ (.cons_cons _ (.cons_cons _ .slnil)))) (.cons _ (.cons _ .slnil))
          refine hK.out _ _ (HKT.out _ HQS) (fun hHeld4 => ?_)
          clear hK K HQS
          try simp only [Act.put, List.setIfInBounds_toArray, List.set_cons_zero, List.set_cons_succ]
          refine wpAnyH_ready (rs := [5]) (by kernel_rfl) (by simp) ?_
          refine AllReadyH.cons (o := _) rfl (fun K hK => ?_) AllReadyH.nil
          go_simp
          refine (HLU.out _ HQ4.out.bel).mono ?_
          rintro e t5 ⟨⟨tu, cu, rfl, hf⟩, hbq⟩
          have HQ5 : Hid (FrQ w t5 [(ia, MBox 0 0 none 0 0), (ib, MBox 0 0 none 0 0), (p1, BBox ry cy sb m kb), (p0, BBox rx cx sa n ka)] [fun W => FlM W tb m cb ys, fun W => FlM W ta n ca xs]) := HQ4.out.call hbq
          have HQ5 : Hid (FrQ w t5 [(ia, MBox 0 0 none 0 0), (ib, MBox 0 0 none 0 0), (p1, BBox ry cy sb m kb), (p0, BBox rx cx sa n ka)] [fun W => FlM W tu q cu us, fun W => FlM W tb m cb ys, fun W => FlM W ta n ca xs]) := HQ5.out.add (kept_fl _ _ _ _) hf
          clear hbq
          go_wp2_with fail
          have HQS : Hid (FrQ w t5 [(p1, BBox ry cy sb m kb), (p0, BBox rx cx sa n ka)] []) := HQ5.out.sub (.cons _ (.cons _ (.cons_cons _ (.cons_cons _ .slnil)))) (.cons _ (.cons _ (.cons _ .slnil)))
          refine hK.out _ _ (HKT.out _ HQS) (fun hHeld5 => ?_)
          clear hK K HQS
          try simp only [Act.put, List.setIfInBounds_toArray, List.set_cons_zero, List.set_cons_succ]
          refine wpAnyH_ready (rs := [8]) (by kernel_rfl) (by simp) ?_
          refine AllReadyH.cons (o := _) rfl (fun K hK => ?_) AllReadyH.nil
          obtain ⟨z0, z1, z2⟩ := mcells_of (HQ5.out.at 0 rfl : t5.heap[ia]? = some (MBox 0 0 none 0 0))
          have fz := frzM (HQ5.out.at 0 rfl : t5.heap[ia]? = some (MBox 0 0 none 0 0))
          have HQ6 : Hid (FrQ w (StoM t5 ia rx cx ta n ca) [(ia, MBox rx cx ta n ca), (ib, MBox 0 0 none 0 0), (p1, BBox ry cy sb m kb), (p0, BBox rx cx sa n ka)] [fun W => FlM W tu q cu us, fun W => FlM W tb m cb ys, fun W => FlM W ta n ca xs]) := HQ5.out.sto 0 rfl
          obtain ⟨U6, hU6⟩ : ∃ X, Hid ((StoM t5 ia rx cx ta n ca) = X) := ⟨_, rfl⟩
          rw [hU6.out] at HQ6
          have hU6' := hU6.out
          unfold StoM at hU6'
          go_simp
          go_wp2_with fail
          have HQS : Hid (FrQ w U6 [(p1, BBox ry cy sb m kb), (p0, BBox rx cx sa n ka)] []) := HQ6.out.sub (.cons _ (.cons _ (.cons_cons _ (.cons_cons _ .slnil)))) (.cons _ (.cons _ (.cons _ .slnil)))
          refine hK.out _ _ (HKT.out _ HQS) (fun hHeld6 => ?_)
          clear hK K HQS
          try simp only [Act.put, List.setIfInBounds_toArray, List.set_cons_zero, List.set_cons_succ]
          clear z0 z1 z2 fz
          refine wpAnyH_ready (rs := [9]) (by kernel_rfl) (by simp) ?_
          refine AllReadyH.cons (o := _) rfl (fun K hK => ?_) AllReadyH.nil
          obtain ⟨z0, z1, z2⟩ := mcells_of (HQ6.out.at 1 rfl : U6.heap[ib]? = some (MBox 0 0 none 0 0))
          have fz := frzM (HQ6.out.at 1 rfl : U6.heap[ib]? = some (MBox 0 0 none 0 0))
          have HQ7 : Hid (FrQ w (StoM U6 ib ry cy tb m cb) [(ia, MBox rx cx ta n ca), (ib, MBox ry cy tb m cb), (p1, BBox ry cy sb m kb), (p0, BBox rx cx sa n ka)] [fun W => FlM W tu q cu us, fun W => FlM W tb m cb ys, fun W => FlM W ta n ca xs]) := HQ6.out.sto 1 rfl
          obtain ⟨U7, hU7⟩ : ∃ X, Hid ((StoM U6 ib ry cy tb m cb) = X) := ⟨_, rfl⟩
          rw [hU7.out] at HQ7
          have hU7' := hU7.out
          unfold StoM at hU7'
          go_simp
          go_wp2_with fail
          have HQS : Hid (FrQ w U7 [(p1, BBox ry cy sb m kb), (p0, BBox rx cx sa n ka)] []) := HQ7.out.sub (.cons _ (.cons _ (.cons_cons _ (.cons_cons _ .slnil)))) (.cons _ (.cons _ (.cons _ .slnil)))
          refine hK.out _ _ (HKT.out _ HQS) (fun hHeld7 => ?_)
          clear hK K HQS
          try simp only [Act.put, List.setIfInBounds_toArray, List.set_cons_zero, List.set_cons_succ]
          clear z0 z1 z2 fz
          refine take_at 10 9 (.slice tu q cu) rfl rfl (by kernel_rfl) (by kernel_rfl) (by kernel_rfl) (fun _ _ _ h => h) (Or.inl ⟨by rfl, fun w hSw => by (try dsimp only at hSw); go_simp⟩) (by assumption) ?_
          simp only [Act.put, List.setIfInBounds_toArray, List.set_cons_zero, List.set_cons_succ]
          refine wpAnyH_done (by kernel_rfl) ?_ _
          have HQ7 : Hid (FrQ w U7 [(ib, MBox ry cy tb m cb), (ia, MBox rx cx ta n ca), (p1, BBox ry cy sb m kb), (p0, BBox rx cx sa n ka)] [fun W => FlM W tu q cu us, fun W => FlM W tb m cb ys, fun W => FlM W ta n ca xs]) := HQ7.out.swap
          exact HR.out _ _ ⟨ta, ca, tb, cb, tu, cu, ia, ib, rfl, HQ7.out⟩
    · have HQ1 : Hid (FrQ w (V.drew.alloc (MBox 0 0 none 0 0)) [(V.drew.heap.size, MBox 0 0 none 0 0), (p1, BBox ry cy sb m kb), (p0, BBox rx cx sa n ka)] []) := HQ0.out.alloc _
      go_simp
      go_wp2_with fail
      have HQS : Hid (FrQ w (V.drew.alloc (MBox 0 0 none 0 0)) [(p1, BBox ry cy sb m kb), (p0, BBox rx cx sa n ka)] []) := HQ1.out.sub (.cons _ (.cons_cons _ (.cons_cons _ .slnil))) .slnil
      refine hK.out _ _ (HKT.out _ HQS) (fun hHeld1 => ?_)
      clear hK K HQS
      try simp only [Act.put, List.setIfInBounds_toArray, List.set_cons_zero, List.set_cons_succ]
      obtain ⟨t1, ht1⟩ : ∃ X, Hid (V.drew.alloc (MBox 0 0 none 0 0) = X) := ⟨_, rfl⟩
      obtain ⟨ia, hia⟩ : ∃ X, Hid (V.drew.heap.size = X) := ⟨_, rfl⟩
      rw [ht1.out, hia.out] at HQ1
      have hy1 : (V.alloc (.cells #[.int .i64 0, .int .i64 0, .slice none 0 0] 32)).drew = t1 := ht1.out
      have hy2 : V.heap.size = ia := hia.out
      rw [hy1]
      rw [hy2]
      clear hy1 hy2
      refine wpAnyH_ready (rs := [1, 7]) (by kernel_rfl) (by simp) ?_
      refine AllReadyH.cons (o := _) rfl (fun K hK => ?_) (AllReadyH.cons (o := _) rfl (fun K hK => ?_) AllReadyH.nil)
      · go_simp
        refine (HOX.out _ HQ1.out.bel).mono ?_
        rintro e t2 ⟨⟨ta, ca, rfl, hf⟩, hbq⟩
        have HQ2 : Hid (FrQ w t2 [(ia, MBox 0 0 none 0 0), (p1, BBox ry cy sb m kb), (p0, BBox rx cx sa n ka)] []) := HQ1.out.call hbq
        have HQ2 : Hid (FrQ w t2 [(ia, MBox 0 0 none 0 0), (p1, BBox ry cy sb m kb), (p0, BBox rx cx sa n ka)] [fun W => FlM W ta n ca xs]) := HQ2.out.add (kept_fl _ _ _ _) hf
        clear hbq
        unfold MV
        go_wp2_with fail
        have HQS : Hid (FrQ w t2 [(p1, BBox ry cy sb m kb), (p0, BBox rx cx sa n ka)] []) := HQ2.out.sub (.cons _ (.cons_cons _ (.cons_cons _ .slnil))) (.cons _ .slnil)
        refine hK.out _ _ (HKT.out _ HQS) (fun hHeld2 => ?_)
        clear hK K HQS
        try simp only [Act.put, List.setIfInBounds_toArray, List.set_cons_zero, List.set_cons_succ]
        refine wpAnyH_ready (rs := [3, 7]) (by kernel_rfl) (by simp) ?_
        refine AllReadyH.cons (o := _) rfl (fun K hK => ?_) (AllReadyH.cons (o := _) rfl (fun K hK => ?_) AllReadyH.nil)
        · go_simp
          refine (HOY.out _ HQ2.out.bel).mono ?_
          rintro e t3 ⟨⟨tb, cb, rfl, hf⟩, hbq⟩
          have HQ3 : Hid (FrQ w t3 [(ia, MBox 0 0 none 0 0), (p1, BBox ry cy sb m kb), (p0, BBox rx cx sa n ka)] [fun W => FlM W ta n ca xs]) := HQ2.out.call hbq
          have HQ3 : Hid (FrQ w t3 [(ia, MBox 0 0 none 0 0), (p1, BBox ry cy sb m kb), (p0, BBox rx cx sa n ka)] [fun W => FlM W tb m cb ys, fun W => FlM W ta n ca xs]) := HQ3.out.add (kept_fl _ _ _ _) hf
          clear hbq
          unfold MV
          go_wp2_with fail
          have HQS : Hid (FrQ w t3 [(p1, BBox ry cy sb m kb), (p0, BBox rx cx sa n ka)] []) := HQ3.out.sub (.cons _ (.cons_cons _ (.cons_cons _ .slnil))) (.cons _ (.cons _ .slnil))
          refine hK.out _ _ (HKT.out _ HQS) (fun hHeld3 => ?_)
          clear hK K HQS
          try simp only [Act.put, List.setIfInBounds_toArray, List.set_cons_zero, List.set_cons_succ]
          refine wpAnyH_ready (rs := [5, 7]) (by kernel_rfl) (by simp) ?_
          refine AllReadyH.cons (o := _) rfl (fun K hK => ?_) (AllReadyH.cons (o := _) rfl (fun K hK => ?_) AllReadyH.nil)
          · go_simp
            refine (HLU.out _ HQ3.out.bel).mono ?_
            rintro e t4 ⟨⟨tu, cu, rfl, hf⟩, hbq⟩
            have HQ4 : Hid (FrQ w t4 [(ia, MBox 0 0 none 0 0), (p1, BBox ry cy sb m kb), (p0, BBox rx cx sa n ka)] [fun W => FlM W tb m cb ys, fun W => FlM W ta n ca xs]) := HQ3.out.call hbq
            have HQ4 : Hid (FrQ w t4 [(ia, MBox 0 0 none 0 0), (p1, BBox ry cy sb m kb), (p0, BBox rx cx sa n ka)] [fun W => FlM W tu q cu us, fun W => FlM W tb m cb ys, fun W => FlM W ta n ca xs]) := HQ4.out.add (kept_fl _ _ _ _) hf
            clear hbq
            go_wp2_with fail
            have HQS : Hid (FrQ w t4 [(p1, BBox ry cy sb m kb), (p0, BBox rx cx sa n ka)] []) := HQ4.out.sub (.cons _ (.cons_cons _ (.cons_cons _ .slnil))) (.cons _ (.cons _ (.cons _ .slnil)))
            refine hK.out _ _ (HKT.out _ HQS) (fun hHeld4 => ?_)
            clear hK K HQS
            try simp only [Act.put, List.setIfInBounds_toArray, List.set_cons_zero, List.set_cons_succ]
            refine wpAnyH_ready (rs := [7]) (by kernel_rfl) (by simp) ?_
            refine AllReadyH.cons (o := _) rfl (fun K hK => ?_) AllReadyH.nil
            have HQ5 : Hid (FrQ w (t4.alloc (MBox 0 0 none 0 0)) [(t4.heap.size, MBox 0 0 none 0 0), (ia, MBox 0 0 none 0 0), (p1, BBox ry cy sb m kb), (p0, BBox rx cx sa n ka)] [fun W => FlM W tu q cu us, fun W => FlM W tb m cb ys, fun W => FlM W ta n ca xs]) := HQ4.out.alloc _
            go_simp
            go_wp2_with fail
            have HQS : Hid (FrQ w (t4.alloc (MBox 0 0 none 0 0)) [(p1, BBox ry cy sb m kb), (p0, BBox rx cx sa n ka)] []) := HQ5.out.sub (.cons _ (.cons _ (.cons_cons _ (.cons_cons _ .slnil)))) (.cons _ (.cons _ (.cons _ .slnil)))
            refine hK.out _ _ (HKT.out _ HQS) (fun hHeld5 => ?_)
            clear hK K HQS
            try simp only [Act.put, List.setIfInBounds_toArray, List.set_cons_zero, List.set_cons_succ]
            obtain ⟨t5, ht5⟩ : ∃ X, Hid (t4.alloc (MBox 0 0 none 0 0) = X) := ⟨_, rfl⟩
            obtain ⟨ib, hib⟩ : ∃ X, Hid (t4.heap.size = X) := ⟨_, rfl⟩
            rw [ht5.out, hib.out] at HQ5
            have hy1 : t4.alloc (.cells #[.int .i64 0, .int .i64 0, .slice none 0 0] 32) = t5 := ht5.out
            have hy2 := hib.out
            rw [hy1]
            rw [hy2]
            clear hy1 hy2
            refine wpAnyH_ready (rs := [8]) (by kernel_rfl) (by simp) ?_
            refine AllReadyH.cons (o := _) rfl (fun K hK => ?_) AllReadyH.nil
            obtain ⟨z0, z1, z2⟩ := mcells_of (HQ5.out.at 1 rfl : t5.heap[ia]? = some (MBox 0 0 none 0 0))
            have fz := frzM (HQ5.out.at 1 rfl : t5.heap[ia]? = some (MBox 0 0 none 0 0))
            have HQ6 : Hid (FrQ w (StoM t5 ia rx cx ta n ca) [(ib, MBox 0 0 none 0 0), (ia, MBox rx cx ta n ca), (p1, BBox ry cy sb m kb), (p0, BBox rx cx sa n ka)] [fun W => FlM W tu q cu us, fun W => FlM W tb m cb ys, fun W => FlM W ta n ca xs]) := HQ5.out.sto 1 rfl
            obtain ⟨U6, hU6⟩ : ∃ X, Hid ((StoM t5 ia rx cx ta n ca) = X) := ⟨_, rfl⟩
            rw [hU6.out] at HQ6
            have hU6' := hU6.out
            unfold StoM at hU6'
            go_simp
            go_wp2_with fail
            have HQS : Hid (FrQ w U6 [(p1, BBox ry cy sb m kb), (p0, BBox rx cx sa n ka)] []) := HQ6.out.sub (.cons _ (.cons _ (.cons_cons _ (.cons_cons _ .slnil)))) (.cons _ (.cons _ (.cons _ .slnil)))
            refine hK.out _ _ (HKT.out _ HQS) (fun hHeld6 => ?_)
            clear hK K HQS
            try simp only [Act.put, List.setIfInBounds_toArray, List.set_cons_zero, List.set_cons_succ]
            clear z0 z1 z2 fz
            refine wpAnyH_ready (rs := [9]) (by kernel_rfl) (by simp) ?_
            refine AllReadyH.cons (o := _) rfl (fun K hK => ?_) AllReadyH.nil
            obtain ⟨z0, z1, z2⟩ := mcells_of (HQ6.out.at 0 rfl : U6.heap[ib]? = some (MBox 0 0 none 0 0))
            have fz := frzM (HQ6.out.at 0 rfl : U6.heap[ib]? = some (MBox 0 0 none 0 0))
            have HQ7 : Hid (FrQ w (StoM U6 ib ry cy tb m cb) [(ib, MBox ry cy tb m cb), (ia, MBox rx cx ta n ca), (p1, BBox ry cy sb m kb), (p0, BBox rx cx sa n ka)] [fun W => FlM W tu q cu us, fun W => FlM W tb m cb ys, fun W => FlM W ta n ca xs]) := HQ6.out.sto 0 rfl
            obtain ⟨U7, hU7⟩ : ∃ X, Hid ((StoM U6 ib ry cy tb m cb) = X) := ⟨_, rfl⟩
            rw [hU7.out] at HQ7
            have hU7' := hU7.out
            unfold StoM at hU7'
            go_simp
            go_wp2_with fail
            have HQS : Hid (FrQ w U7 [(p1, BBox ry cy sb m kb), (p0, BBox rx cx sa n ka)] []) := HQ7.out.sub (.cons _ (.cons _ (.cons_cons _ (.cons_cons _ .slnil)))) (.cons _ (.cons _ (.cons _ .slnil)))
            refine hK.out _ _ (HKT.out _ HQS) (fun hHeld7 => ?_)
            clear hK K HQS
            try simp only [Act.put, List.setIfInBounds_toArray, List.set_cons_zero, List.set_cons_succ]
            clear z0 z1 z2 fz
            refine take_at 10 9 (.slice tu q cu) rfl rfl (by kernel_rfl) (by kernel_rfl) (by kernel_rfl) (fun _ _ _ h => h) (Or.inl ⟨by rfl, fun w hSw => by (try dsimp only at hSw); go_simp⟩) (by assumption) ?_
            simp only [Act.put, List.setIfInBounds_toArray, List.set_cons_zero, List.set_cons_succ]
            refine wpAnyH_done (by kernel_rfl) ?_ _
            exact HR.out _ _ ⟨ta, ca, tb, cb, tu, cu, ia, ib, rfl, HQ7.out⟩
          · have HQ4 : Hid (FrQ w (t3.alloc (MBox 0 0 none 0 0)) [(t3.heap.size, MBox 0 0 none 0 0), (ia, MBox 0 0 none 0 0), (p1, BBox ry cy sb m kb), (p0, BBox rx cx sa n ka)] [fun W => FlM W tb m cb ys, fun W => FlM W ta n ca xs]) := HQ3.out.alloc _
            go_simp
            go_wp2_with fail
            have HQS : Hid (FrQ w (t3.alloc (MBox 0 0 none 0 0)) [(p1, BBox ry cy sb m kb), (p0, BBox rx cx sa n ka)] []) := HQ4.out.sub (.cons _ (.cons _ (.cons_cons _ (.cons_cons _ .slnil)))) (.cons _ (.cons _ .slnil))
            refine hK.out _ _ (HKT.out _ HQS) (fun hHeld4 => ?_)
            clear hK K HQS
            try simp only [Act.put, List.setIfInBounds_toArray, List.set_cons_zero, List.set_cons_succ]
            obtain ⟨t4, ht4⟩ : ∃ X, Hid (t3.alloc (MBox 0 0 none 0 0) = X) := ⟨_, rfl⟩
            obtain ⟨ib, hib⟩ : ∃ X, Hid (t3.heap.size = X) := ⟨_, rfl⟩
            rw [ht4.out, hib.out] at HQ4
            have hy1 : t3.alloc (.cells #[.int .i64 0, .int .i64 0, .slice none 0 0] 32) = t4 := ht4.out
            have hy2 := hib.out
            rw [hy1]
            rw [hy2]
            clear hy1 hy2
            refine wpAnyH_ready (rs := [5]) (by kernel_rfl) (by simp) ?_
            refine AllReadyH.cons (o := _) rfl (fun K hK => ?_) AllReadyH.nil
            go_simp
            refine (HLU.out _ HQ4.out.bel).mono ?_
            rintro e t5 ⟨⟨tu, cu, rfl, hf⟩, hbq⟩
            have HQ5 : Hid (FrQ w t5 [(ib, MBox 0 0 none 0 0), (ia, MBox 0 0 none 0 0), (p1, BBox ry cy sb m kb), (p0, BBox rx cx sa n ka)] [fun W => FlM W tb m cb ys, fun W => FlM W ta n ca xs]) := HQ4.out.call hbq
            have HQ5 : Hid (FrQ w t5 [(ib, MBox 0 0 none 0 0), (ia, MBox 0 0 none 0 0), (p1, BBox ry cy sb m kb), (p0, BBox rx cx sa n ka)] [fun W => FlM W tu q cu us, fun W => FlM W tb m cb ys, fun W => FlM W ta n ca xs]) := HQ5.out.add (kept_fl _ _ _ _) hf
            clear hbq
            go_wp2_with fail
            have HQS : Hid (FrQ w t5 [(p1, BBox ry cy sb m kb), (p0, BBox rx cx sa n ka)] []) := HQ5.out.sub (.cons _ (.cons _ (.cons_cons _ (.cons_cons _ .slnil)))) (.cons _ (.cons _ (.cons _ .slnil)))
            refine hK.out _ _ (HKT.out _ HQS) (fun hHeld5 => ?_)
            clear hK K HQS
            try simp only [Act.put, List.setIfInBounds_toArray, List.set_cons_zero, List.set_cons_succ]
            refine wpAnyH_ready (rs := [8]) (by kernel_rfl) (by simp) ?_
            refine AllReadyH.cons (o := _) rfl (fun K hK => ?_) AllReadyH.nil
            obtain ⟨z0, z1, z2⟩ := mcells_of (HQ5.out.at 1 rfl : t5.heap[ia]? = some (MBox 0 0 none 0 0))
            have fz := frzM (HQ5.out.at 1 rfl : t5.heap[ia]? = some (MBox 0 0 none 0 0))
            have HQ6 : Hid (FrQ w (StoM t5 ia rx cx ta n ca) [(ib, MBox 0 0 none 0 0), (ia, MBox rx cx ta n ca), (p1, BBox ry cy sb m kb), (p0, BBox rx cx sa n ka)] [fun W => FlM W tu q cu us, fun W => FlM W tb m cb ys, fun W => FlM W ta n ca xs]) := HQ5.out.sto 1 rfl
            obtain ⟨U6, hU6⟩ : ∃ X, Hid ((StoM t5 ia rx cx ta n ca) = X) := ⟨_, rfl⟩
            rw [hU6.out] at HQ6
            have hU6' := hU6.out
            unfold StoM at hU6'
            go_simp
            go_wp2_with fail
            have HQS : Hid (FrQ w U6 [(p1, BBox ry cy sb m kb), (p0, BBox rx cx sa n ka)] []) := HQ6.out.sub (.cons _ (.cons _ (.cons_cons _ (.cons_cons _ .slnil)))) (.cons _ (.cons _ (.cons _ .slnil)))
            refine hK.out _ _ (HKT.out _ HQS) (fun hHeld6 => ?_)
            clear hK K HQS
            try simp only [Act.put, List.setIfInBounds_toArray, List.set_cons_zero, List.set_cons_succ]
            clear z0 z1 z2 fz
            refine wpAnyH_ready (rs := [9]) (by kernel_rfl) (by simp) ?_
            refine AllReadyH.cons (o := _) rfl (fun K hK => ?_) AllReadyH.nil
            obtain ⟨z0, z1, z2⟩ := mcells_of (HQ6.out.at 0 rfl : U6.heap[ib]? = some (MBox 0 0 none 0 0))
            have fz := frzM (HQ6.out.at 0 rfl : U6.heap[ib]? = some (MBox 0 0 none 0 0))
            have HQ7 : Hid (FrQ w (StoM U6 ib ry cy tb m cb) [(ib, MBox ry cy tb m cb), (ia, MBox rx cx ta n ca), (p1, BBox ry cy sb m kb), (p0, BBox rx cx sa n ka)] [fun W => FlM W tu q cu us, fun W => FlM W tb m cb ys, fun W => FlM W ta n ca xs]) := HQ6.out.sto 0 rfl
            obtain ⟨U7, hU7⟩ : ∃ X, Hid ((StoM U6 ib ry cy tb m cb) = X) := ⟨_, rfl⟩
            rw [hU7.out] at HQ7
            have hU7' := hU7.out
            unfold StoM at hU7'
            go_simp
            go_wp2_with fail
            have HQS : Hid (FrQ w U7 [(p1, BBox ry cy sb m kb), (p0, BBox rx cx sa n ka)] []) := HQ7.out.sub (.cons _ (.cons _ (.cons_cons _ (.cons_cons _ .slnil)))) (.cons _ (.cons _ (.cons _ .slnil)))
            refine hK.out _ _ (HKT.out _ HQS) (fun hHeld7 => ?_)
            clear hK K HQS
            try simp only [Act.put, List.setIfInBounds_toArray, List.set_cons_zero, List.set_cons_succ]
            clear z0 z1 z2 fz
            refine take_at 10 9 (.slice tu q cu) rfl rfl (by kernel_rfl) (by kernel_rfl) (by kernel_rfl) (fun _ _ _ h => h) (Or.inl ⟨by rfl, fun w hSw => by (try dsimp only at hSw); go_simp⟩) (by assumption) ?_
            simp only [Act.put, List.setIfInBounds_toArray, List.set_cons_zero, List.set_cons_succ]
            refine wpAnyH_done (by kernel_rfl) ?_ _
            exact HR.out _ _ ⟨ta, ca, tb, cb, tu, cu, ia, ib, rfl, HQ7.out⟩
        · have HQ3 : Hid (FrQ w (t2.alloc (MBox 0 0 none 0 0)) [(t2.heap.size, MBox 0 0 none 0 0), (ia, MBox 0 0 none 0 0), (p1, BBox ry cy sb m kb), (p0, BBox rx cx sa n ka)] [fun W => FlM W ta n ca xs]) := HQ2.out.alloc _
          go_simp
          go_wp2_with fail
          have HQS : Hid (FrQ w (t2.alloc (MBox 0 0 none 0 0)) [(p1, BBox ry cy sb m kb), (p0, BBox rx cx sa n ka)] []) := HQ3.out.sub (.cons _ (.cons _ (.cons_cons _ (.cons_cons _ .slnil)))) (.cons _ .slnil)
          refine hK.out _ _ (HKT.out _ HQS) (fun hHeld3 => ?_)
          clear hK K HQS
          try simp only [Act.put, List.setIfInBounds_toArray, List.set_cons_zero, List.set_cons_succ]
          obtain ⟨t3, ht3⟩ : ∃ X, Hid (t2.alloc (MBox 0 0 none 0 0) = X) := ⟨_, rfl⟩
          obtain ⟨ib, hib⟩ : ∃ X, Hid (t2.heap.size = X) := ⟨_, rfl⟩
          rw [ht3.out, hib.out] at HQ3
          have hy1 : t2.alloc (.cells #[.int .i64 0, .int .i64 0, .slice none 0 0] 32) = t3 := ht3.out
          have hy2 := hib.out
          rw [hy1]
          rw [hy2]
          clear hy1 hy2
          refine wpAnyH_ready (rs := [3]) (by kernel_rfl) (by simp) ?_
          refine AllReadyH.cons (o := _) rfl (fun K hK => ?_) AllReadyH.nil
          go_simp
          refine (HOY.out _ HQ3.out.bel).mono ?_
          rintro e t4 ⟨⟨tb, cb, rfl, hf⟩, hbq⟩
          have HQ4 : Hid (FrQ w t4 [(ib, MBox 0 0 none 0 0), (ia, MBox 0 0 none 0 0), (p1, BBox ry cy sb m kb), (p0, BBox rx cx sa n ka)] [fun W => FlM W ta n ca xs]) := HQ3.out.call hbq
          have HQ4 : Hid (FrQ w t4 [(ib, MBox 0 0 none 0 0), (ia, MBox 0 0 none 0 0), (p1, BBox ry cy sb m kb), (p0, BBox rx cx sa n ka)] [fun W => FlM W tb m cb ys, fun W => FlM W ta n ca xs]) := HQ4.out.add (kept_fl _ _ _ _) hf
          clear hbq
          unfold MV
          go_wp2_with fail
          have HQS : Hid (FrQ w t4 [(p1, BBox ry cy sb m kb), (p0, BBox rx cx sa n ka)] []) := HQ4.out.sub (.cons _ (.cons _ (.cons_cons _ (.cons_cons _ .slnil)))) (.cons _ (.cons _ .slnil))
          refine hK.out _ _ (HKT.out _ HQS) (fun hHeld4 => ?_)
          clear hK K HQS
          try simp only [Act.put, List.setIfInBounds_toArray, List.set_cons_zero, List.set_cons_succ]
          refine wpAnyH_ready (rs := [5]) (by kernel_rfl) (by simp) ?_
          refine AllReadyH.cons (o := _) rfl (fun K hK => ?_) AllReadyH.nil
          go_simp
          refine (HLU.out _ HQ4.out.bel).mono ?_
          rintro e t5 ⟨⟨tu, cu, rfl, hf⟩, hbq⟩
          have HQ5 : Hid (FrQ w t5 [(ib, MBox 0 0 none 0 0), (ia, MBox 0 0 none 0 0), (p1, BBox ry cy sb m kb), (p0, BBox rx cx sa n ka)] [fun W => FlM W tb m cb ys, fun W => FlM W ta n ca xs]) := HQ4.out.call hbq
          have HQ5 : Hid (FrQ w t5 [(ib, MBox 0 0 none 0 0), (ia, MBox 0 0 none 0 0), (p1, BBox ry cy sb m kb), (p0, BBox rx cx sa n ka)] [fun W => FlM W tu q cu us, fun W => FlM W tb m cb ys, fun W => FlM W ta n ca xs]) := HQ5.out.add (kept_fl _ _ _ _) hf
          clear hbq
          go_wp2_with fail
          have HQS : Hid (FrQ w t5 [(p1, BBox ry cy sb m kb), (p0, BBox rx cx sa n ka)] []) := HQ5.out.sub (.cons _ (.cons _ (.cons_cons _ (.cons_cons _ .slnil)))) (.cons _ (.cons _ (.cons _ .slnil)))
          refine hK.out _ _ (HKT.out _ HQS) (fun hHeld5 => ?_)
          clear hK K HQS
          try simp only [Act.put, List.setIfInBounds_toArray, List.set_cons_zero, List.set_cons_succ]
          refine wpAnyH_ready (rs := [8]) (by kernel_rfl) (by simp) ?_
          refine AllReadyH.cons (o := _) rfl (fun K hK => ?_) AllReadyH.nil
          obtain ⟨z0, z1, z2⟩ := mcells_of (HQ5.out.at 1 rfl : t5.heap[ia]? = some (MBox 0 0 none 0 0))
          have fz := frzM (HQ5.out.at 1 rfl : t5.heap[ia]? = some (MBox 0 0 none 0 0))
          have HQ6 : Hid (FrQ w (StoM t5 ia rx cx ta n ca) [(ib, MBox 0 0 none 0 0), (ia, MBox rx cx ta n ca), (p1, BBox ry cy sb m kb), (p0, BBox rx cx sa n ka)] [fun W => FlM W tu q cu us, fun W => FlM W tb m cb ys, fun W => FlM W ta n ca xs]) := HQ5.out.sto 1 rfl
          obtain ⟨U6, hU6⟩ : ∃ X, Hid ((StoM t5 ia rx cx ta n ca) = X) := ⟨_, rfl⟩
          rw [hU6.out] at HQ6
          have hU6' := hU6.out
          unfold StoM at hU6'
          go_simp
          go_wp2_with fail
          have HQS : Hid (FrQ w U6 [(p1, BBox ry cy sb m kb), (p0, BBox rx cx sa n ka)] []) := HQ6.out.sub (.cons _ (.cons _ (.cons_cons _ (.cons_cons _ .slnil)))) (.cons _ (.cons _ (.cons _ .slnil)))
          refine hK.out _ _ (HKT.out _ HQS) (fun hHeld6 => ?_)
          clear hK K HQS
          try simp only [Act.put, List.setIfInBounds_toArray, List.set_cons_zero, List.set_cons_succ]
          clear z0 z1 z2 fz
          refine wpAnyH_ready (rs := [9]) (by kernel_rfl) (by simp) ?_
          refine AllReadyH.cons (o := _) rfl (fun K hK => ?_) AllReadyH.nil
          obtain ⟨z0, z1, z2⟩ := mcells_of (HQ6.out.at 0 rfl : U6.heap[ib]? = some (MBox 0 0 none 0 0))
          have fz := frzM (HQ6.out.at 0 rfl : U6.heap[ib]? = some (MBox 0 0 none 0 0))
          have HQ7 : Hid (FrQ w (StoM U6 ib ry cy tb m cb) [(ib, MBox ry cy tb m cb), (ia, MBox rx cx ta n ca), (p1, BBox ry cy sb m kb), (p0, BBox rx cx sa n ka)] [fun W => FlM W tu q cu us, fun W => FlM W tb m cb ys, fun W => FlM W ta n ca xs]) := HQ6.out.sto 0 rfl
          obtain ⟨U7, hU7⟩ : ∃ X, Hid ((StoM U6 ib ry cy tb m cb) = X) := ⟨_, rfl⟩
          rw [hU7.out] at HQ7
          have hU7' := hU7.out
          unfold StoM at hU7'
          go_simp
          go_wp2_with fail
          have HQS : Hid (FrQ w U7 [(p1, BBox ry cy sb m kb), (p0, BBox rx cx sa n ka)] []) := HQ7.out.sub (.cons _ (.cons _ (.cons_cons _ (.cons_cons _ .slnil)))) (.cons _ (.cons _ (.cons _ .slnil)))
          refine hK.out _ _ (HKT.out _ HQS) (fun hHeld7 => ?_)
          clear hK K HQS
          try simp only [Act.put, List.setIfInBounds_toArray, List.set_cons_zero, List.set_cons_succ]
          clear z0 z1 z2 fz
          refine take_at 10 9 (.slice tu q cu) rfl rfl (by kernel_rfl) (by kernel_rfl) (by kernel_rfl) (fun _ _ _ h => h) (Or.inl ⟨by rfl, fun w hSw => by (try dsimp only at hSw); go_simp⟩) (by assumption) ?_
          simp only [Act.put, List.setIfInBounds_toArray, List.set_cons_zero, List.set_cons_succ]
          refine wpAnyH_done (by kernel_rfl) ?_ _
          exact HR.out _ _ ⟨ta, ca, tb, cb, tu, cu, ia, ib, rfl, HQ7.out⟩
      · have HQ2 : Hid (FrQ w (t1.alloc (MBox 0 0 none 0 0)) [(t1.heap.size, MBox 0 0 none 0 0), (ia, MBox 0 0 none 0 0), (p1, BBox ry cy sb m kb), (p0, BBox rx cx sa n ka)] []) := HQ1.out.alloc _
        go_simp
        go_wp2_with fail
        have HQS : Hid (FrQ w (t1.alloc (MBox 0 0 none 0 0)) [(p1, BBox ry cy sb m kb), (p0, BBox rx cx sa n ka)] []) := HQ2.out.sub (.cons _ (.cons _ (.cons_cons _ (.cons_cons _ .slnil)))) .slnil
        refine hK.out _ _ (HKT.out _ HQS) (fun hHeld2 => ?_)
        clear hK K HQS
        try simp only [Act.put, List.setIfInBounds_toArray, List.set_cons_zero, List.set_cons_succ]
        obtain ⟨t2, ht2⟩ : ∃ X, Hid (t1.alloc (MBox 0 0 none 0 0) = X) := ⟨_, rfl⟩
        obtain ⟨ib, hib⟩ : ∃ X, Hid (t1.heap.size = X) := ⟨_, rfl⟩
        rw [ht2.out, hib.out] at HQ2
        have hy1 : t1.alloc (.cells #[.int .i64 0, .int .i64 0, .slice none 0 0] 32) = t2 := ht2.out
        have hy2 := hib.out
        rw [hy1]
        rw [hy2]
        clear hy1 hy2
        refine wpAnyH_ready (rs := [1]) (by kernel_rfl) (by simp) ?_
        refine AllReadyH.cons (o := _) rfl (fun K hK => ?_) AllReadyH.nil
        go_simp
        refine (HOX.out _ HQ2.out.bel).mono ?_
        rintro e t3 ⟨⟨ta, ca, rfl, hf⟩, hbq⟩
        have HQ3 : Hid (FrQ w t3 [(ib, MBox 0 0 none 0 0), (ia, MBox 0 0 none 0 0), (p1, BBox ry cy sb m kb), (p0, BBox rx cx sa n ka)] []) := HQ2.out.call hbq
        have HQ3 : Hid (FrQ w t3 [(ib, MBox 0 0 none 0 0), (ia, MBox 0 0 none 0 0), (p1, BBox ry cy sb m kb), (p0, BBox rx cx sa n ka)] [fun W => FlM W ta n ca xs]) := HQ3.out.add (kept_fl _ _ _ _) hf
        clear hbq
        unfold MV
        go_wp2_with fail
        have HQS : Hid (FrQ w t3 [(p1, BBox ry cy sb m kb), (p0, BBox rx cx sa n ka)] []) := HQ3.out.sub (.cons _ (.cons _ (.cons_cons _ (.cons_cons _ .slnil)))) (.cons _ .slnil)
        refine hK.out _ _ (HKT.out _ HQS) (fun hHeld3 => ?_)
        clear hK K HQS
        try simp only [Act.put, List.setIfInBounds_toArray, List.set_cons_zero, List.set_cons_succ]
        refine wpAnyH_ready (rs := [3]) (by kernel_rfl) (by simp) ?_
        refine AllReadyH.cons (o := _) rfl (fun K hK => ?_) AllReadyH.nil
        go_simp
        refine (HOY.out _ HQ3.out.bel).mono ?_
        rintro e t4 ⟨⟨tb, cb, rfl, hf⟩, hbq⟩
        have HQ4 : Hid (FrQ w t4 [(ib, MBox 0 0 none 0 0), (ia, MBox 0 0 none 0 0), (p1, BBox ry cy sb m kb), (p0, BBox rx cx sa n ka)] [fun W => FlM W ta n ca xs]) := HQ3.out.call hbq
        have HQ4 : Hid (FrQ w t4 [(ib, MBox 0 0 none 0 0), (ia, MBox 0 0 none 0 0), (p1, BBox ry cy sb m kb), (p0, BBox rx cx sa n ka)] [fun W => FlM W tb m cb ys, fun W => FlM W ta n ca xs]) := HQ4.out.add (kept_fl _ _ _ _) hf
        clear hbq
        unfold MV
        go_wp2_with fail
        have HQS : Hid (FrQ w t4 [(p1, BBox ry cy sb m kb), (p0, BBox rx cx sa n ka)] []) := HQ4.out.sub (.cons _ (.cons _ (.cons_cons _ (.cons_cons _ .slnil)))) (.cons _ (.cons _ .slnil))
        refine hK.out _ _ (HKT.out _ HQS) (fun hHeld4 => ?_)
        clear hK K HQS
        try simp only [Act.put, List.setIfInBounds_toArray, List.set_cons_zero, List.set_cons_succ]
        refine wpAnyH_ready (rs := [5]) (by kernel_rfl) (by simp) ?_
        refine AllReadyH.cons (o := _) rfl (fun K hK => ?_) AllReadyH.nil
        go_simp
        refine (HLU.out _ HQ4.out.bel).mono ?_
        rintro e t5 ⟨⟨tu, cu, rfl, hf⟩, hbq⟩
        have HQ5 : Hid (FrQ w t5 [(ib, MBox 0 0 none 0 0), (ia, MBox 0 0 none 0 0), (p1, BBox ry cy sb m kb), (p0, BBox rx cx sa n ka)] [fun W => FlM W tb m cb ys, fun W => FlM W ta n ca xs]) := HQ4.out.call hbq
        have HQ5 : Hid (FrQ w t5 [(ib, MBox 0 0 none 0 0), (ia, MBox 0 0 none 0 0), (p1, BBox ry cy sb m kb), (p0, BBox rx cx sa n ka)] [fun W => FlM W tu q cu us, fun W => FlM W tb m cb ys, fun W => FlM W ta n ca xs]) := HQ5.out.add (kept_fl _ _ _ _) hf
        clear hbq
        go_wp2_with fail
        have HQS : Hid (FrQ w t5 [(p1, BBox ry cy sb m kb), (p0, BBox rx cx sa n ka)] []) := HQ5.out.sub (.cons _ (.cons _ (.cons_cons _ (.cons_cons _ .slnil)))) (.cons _ (.cons _ (.cons _ .slnil)))
        refine hK.out _ _ (HKT.out _ HQS) (fun hHeld5 => ?_)
        clear hK K HQS
        try simp only [Act.put, List.setIfInBounds_toArray, List.set_cons_zero, List.set_cons_succ]
        refine wpAnyH_ready (rs := [8]) (by kernel_rfl) (by simp) ?_
        refine AllReadyH.cons (o := _) rfl (fun K hK => ?_) AllReadyH.nil
        obtain ⟨z0, z1, z2⟩ := mcells_of (HQ5.out.at 1 rfl : t5.heap[ia]? = some (MBox 0 0 none 0 0))
        have fz := frzM (HQ5.out.at 1 rfl : t5.heap[ia]? = some (MBox 0 0 none 0 0))
        have HQ6 : Hid (FrQ w (StoM t5 ia rx cx ta n ca) [(ib, MBox 0 0 none 0 0), (ia, MBox rx cx ta n ca), (p1, BBox ry cy sb m kb), (p0, BBox rx cx sa n ka)] [fun W => FlM W tu q cu us, fun W => FlM W tb m cb ys, fun W => FlM W ta n ca xs]) := HQ5.out.sto 1 rfl
        obtain ⟨U6, hU6⟩ : ∃ X, Hid ((StoM t5 ia rx cx ta n ca) = X) := ⟨_, rfl⟩
        rw [hU6.out] at HQ6
        have hU6' := hU6.out
        unfold StoM at hU6'
        go_simp
        go_wp2_with fail
        have HQS : Hid (FrQ w U6 [(p1, BBox ry cy sb m kb), (p0, BBox rx cx sa n ka)] []) := HQ6.out.sub (.cons _ (.cons _ (.cons_cons _ (.cons_cons _ .slnil)))) (.cons _ (.cons _ (.cons _ .slnil)))
        refine hK.out _ _ (HKT.out _ HQS) (fun hHeld6 => ?_)
        clear hK K HQS
        try simp only [Act.put, List.setIfInBounds_toArray, List.set_cons_zero, List.set_cons_succ]
        clear z0 z1 z2 fz
        refine wpAnyH_ready (rs := [9]) (by kernel_rfl) (by simp) ?_
        refine AllReadyH.cons (o := _) rfl (fun K hK => ?_) AllReadyH.nil
        obtain ⟨z0, z1, z2⟩ := mcells_of (HQ6.out.at 0 rfl : U6.heap[ib]? = some (MBox 0 0 none 0 0))
        have fz := frzM (HQ6.out.at 0 rfl : U6.heap[ib]? = some (MBox 0 0 none 0 0))
        have HQ7 : Hid (FrQ w (StoM U6 ib ry cy tb m cb) [(ib, MBox ry cy tb m cb), (ia, MBox rx cx ta n ca), (p1, BBox ry cy sb m kb), (p0, BBox rx cx sa n ka)] [fun W => FlM W tu q cu us, fun W => FlM W tb m cb ys, fun W => FlM W ta n ca xs]) := HQ6.out.sto 0 rfl
        obtain ⟨U7, hU7⟩ : ∃ X, Hid ((StoM U6 ib ry cy tb m cb) = X) := ⟨_, rfl⟩
        rw [hU7.out] at HQ7
        have hU7' := hU7.out
        unfold StoM at hU7'
        go_simp
        go_wp2_with fail
        have HQS : Hid (FrQ w U7 [(p1, BBox ry cy sb m kb), (p0, BBox rx cx sa n ka)] []) := HQ7.out.sub (.cons _ (.cons _ (.cons_cons _ (.cons_cons _ .slnil)))) (.cons _ (.cons _ (.cons _ .slnil)))
        refine hK.out _ _ (HKT.out _ HQS) (fun hHeld7 => ?_)
        clear hK K HQS
        try simp only [Act.put, List.setIfInBounds_toArray, List.set_cons_zero, List.set_cons_succ]
        clear z0 z1 z2 fz
        refine take_at 10 9 (.slice tu q cu) rfl rfl (by kernel_rfl) (by kernel_rfl) (by kernel_rfl) (fun _ _ _ h => h) (Or.inl ⟨by rfl, fun w hSw => by (try dsimp only at hSw); go_simp⟩) (by assumption) ?_
        simp only [Act.put, List.setIfInBounds_toArray, List.set_cons_zero, List.set_cons_succ]
        refine wpAnyH_done (by kernel_rfl) ?_ _
        exact HR.out _ _ ⟨ta, ca, tb, cb, tu, cu, ia, ib, rfl, HQ7.out⟩
    · have HQ1 : Hid (FrQ w (V.drew.alloc (MBox 0 0 none 0 0)) [(V.drew.heap.size, MBox 0 0 none 0 0), (p1, BBox ry cy sb m kb), (p0, BBox rx cx sa n ka)] []) := HQ0.out.alloc _
      go_simp
      go_wp2_with fail
      have HQS : Hid (FrQ w (V.drew.alloc (MBox 0 0 none 0 0)) [(p1, BBox ry cy sb m kb), (p0, BBox rx cx sa n ka)] []) := HQ1.out.sub (.cons _ (.cons_cons _ (.cons_cons _ .slnil))) .slnil
      refine hK.out _ _ (HKT.out _ HQS) (fun hHeld1 => ?_)
      clear hK K HQS
      try simp only [Act.put, List.setIfInBounds_toArray, List.set_cons_zero, List.set_cons_succ]
      obtain ⟨t1, ht1⟩ : ∃ X, Hid (V.drew.alloc (MBox 0 0 none 0 0) = X) := ⟨_, rfl⟩
      obtain ⟨ib, hib⟩ : ∃ X, Hid (V.drew.heap.size = X) := ⟨_, rfl⟩
      rw [ht1.out, hib.out] at HQ1
      have hy1 : (V.alloc (.cells #[.int .i64 0, .int .i64 0, .slice none 0 0] 32)).drew = t1 := ht1.out
      have hy2 : V.heap.size = ib := hib.out
      rw [hy1]
      rw [hy2]
      clear hy1 hy2
      refine wpAnyH_ready (rs := [1, 6]) (by kernel_rfl) (by simp) ?_
      refine AllReadyH.cons (o := _) rfl (fun K hK => ?_) (AllReadyH.cons (o := _) rfl (fun K hK => ?_) AllReadyH.nil)
      · go_simp
        refine (HOX.out _ HQ1.out.bel).mono ?_
        rintro e t2 ⟨⟨ta, ca, rfl, hf⟩, hbq⟩
        have HQ2 : Hid (FrQ w t2 [(ib, MBox 0 0 none 0 0), (p1, BBox ry cy sb m kb), (p0, BBox rx cx sa n ka)] []) := HQ1.out.call hbq
        have HQ2 : Hid (FrQ w t2 [(ib, MBox 0 0 none 0 0), (p1, BBox ry cy sb m kb), (p0, BBox rx cx sa n ka)] [fun W => FlM W ta n ca xs]) := HQ2.out.add (kept_fl _ _ _ _) hf
        clear hbq
        unfold MV
        go_wp2_with fail
        have HQS : Hid (FrQ w t2 [(p1, BBox ry cy sb m kb), (p0, BBox rx cx sa n ka)] []) := HQ2.out.sub (.cons _ (.cons_cons _ (.cons_cons _ .slnil))) (.cons _ .slnil)
        refine hK.out _ _ (HKT.out _ HQS) (fun hHeld2 => ?_)
        clear hK K HQS
        try simp only [Act.put, List.setIfInBounds_toArray, List.set_cons_zero, List.set_cons_succ]
        refine wpAnyH_ready (rs := [3, 6]) (by kernel_rfl) (by simp) ?_
        refine AllReadyH.cons (o := _) rfl (fun K hK => ?_) (AllReadyH.cons (o := _) rfl (fun K hK => ?_) AllReadyH.nil)
        · go_simp
          refine (HOY.out _ HQ2.out.bel).mono ?_
          rintro e t3 ⟨⟨tb, cb, rfl, hf⟩, hbq⟩
          have HQ3 : Hid (FrQ w t3 [(ib, MBox 0 0 none 0 0), (p1, BBox ry cy sb m kb), (p0, BBox rx cx sa n ka)] [fun W => FlM W ta n ca xs]) := HQ2.out.call hbq
          have HQ3 : Hid (FrQ w t3 [(ib, MBox 0 0 none 0 0), (p1, BBox ry cy sb m kb), (p0, BBox rx cx sa n ka)] [fun W => FlM W tb m cb ys, fun W => FlM W ta n ca xs]) := HQ3.out.add (kept_fl _ _ _ _) hf
          clear hbq
          unfold MV
          go_wp2_with fail
          have HQS : Hid (FrQ w t3 [(p1, BBox ry cy sb m kb), (p0, BBox rx cx sa n ka)] []) := HQ3.out.sub (.cons _ (.cons_cons _ (.cons_cons _ .slnil))) (.cons _ (.cons _ .slnil))
          refine hK.out _ _ (HKT.out _ HQS) (fun hHeld3 => ?_)
          clear hK K HQS
          try simp only [Act.put, List.setIfInBounds_toArray, List.set_cons_zero, List.set_cons_succ]
          refine wpAnyH_ready (rs := [5, 6]) (by kernel_rfl) (by simp) ?_
          refine AllReadyH.cons (o := _) rfl (fun K hK => ?_) (AllReadyH.cons (o := _) rfl (fun K hK => ?_) AllReadyH.nil)
          · go_simp
            refine (HLU.out _ HQ3.out.bel).mono ?_
            rintro e t4 ⟨⟨tu, cu, rfl, hf⟩, hbq⟩
            have HQ4 : Hid (FrQ w t4 [(ib, MBox 0 0 none 0 0), (p1, BBox ry cy sb m kb), (p0, BBox rx cx sa n ka)] [fun W => FlM W tb m cb ys, fun W => FlM W ta n ca xs]) := HQ3.out.call hbq
            have HQ4 : Hid (FrQ w t4 [(ib, MBox 0 0 none 0 0), (p1, BBox ry cy sb m kb), (p0, BBox rx cx sa n ka)] [fun W => FlM W tu q cu us, fun W => FlM W tb m cb ys, fun W => FlM W ta n ca xs]) := HQ4.out.add (kept_fl _ _ _ _) hf
            clear hbq
            go_wp2_with fail
            have HQS : Hid (FrQ w t4 [(p1, BBox ry cy sb m kb), (p0, BBox rx cx sa n ka)] []) := HQ4.out.sub (.cons _ (.cons_cons _ (.cons_cons _ .slnil))) (.cons _ (.cons _ (.cons _ .slnil)))
            refine hK.out _ _ (HKT.out _ HQS) (fun hHeld4 => ?_)
            clear hK K HQS
            try simp only [Act.put, List.setIfInBounds_toArray, List.set_cons_zero, List.set_cons_succ]
            refine wpAnyH_ready (rs := [6]) (by kernel_rfl) (by simp) ?_
            refine AllReadyH.cons (o := _) rfl (fun K hK => ?_) AllReadyH.nil
            have HQ5 : Hid (FrQ w (t4.alloc (MBox 0 0 none 0 0)) [(t4.heap.size, MBox 0 0 none 0 0), (ib, MBox 0 0 none 0 0), (p1, BBox ry cy sb m kb), (p0, BBox rx cx sa n ka)] [fun W => FlM W tu q cu us, fun W => FlM W tb m cb ys, fun W => FlM W ta n ca xs]) := HQ4.out.alloc _
            go_simp
            go_wp2_with fail
            have HQS : Hid (FrQ w (t4.alloc (MBox 0 0 none 0 0)) [(p1, BBox ry cy sb m kb), (p0, BBox rx cx sa n ka)] []) := HQ5.out.sub (.cons _ (.cons _ (.cons_cons _ (.cons_cons _ .slnil)))) (.cons _ (.cons _ (.cons _ .slnil)))
            refine hK.out _ _ (HKT.out _ HQS) (fun hHeld5 => ?_)
            clear hK K HQS
            try simp only [Act.put, List.setIfInBounds_toArray, List.set_cons_zero, List.set_cons_succ]
            obtain ⟨t5, ht5⟩ : ∃ X, Hid (t4.alloc (MBox 0 0 none 0 0) = X) := ⟨_, rfl⟩
            obtain ⟨ia, hia⟩ : ∃ X, Hid (t4.heap.size = X) := ⟨_, rfl⟩
            rw [ht5.out, hia.out] at HQ5
            have hy1 : t4.alloc (.cells #[.int .i64 0, .int .i64 0, .slice none 0 0] 32) = t5 := ht5.out
            have hy2 := hia.out
            rw [hy1]
            rw [hy2]
            clear hy1 hy2
            refine wpAnyH_ready (rs := [8]) (by kernel_rfl) (by simp) ?_
            refine AllReadyH.cons (o := _) rfl (fun K hK => ?_) AllReadyH.nil
            obtain ⟨z0, z1, z2⟩ := mcells_of (HQ5.out.at 0 rfl : t5.heap[ia]? = some (MBox 0 0 none 0 0))
            have fz := frzM (HQ5.out.at 0 rfl : t5.heap[ia]? = some (MBox 0 0 none 0 0))
            have HQ6 : Hid (FrQ w (StoM t5 ia rx cx ta n ca) [(ia, MBox rx cx ta n ca), (ib, MBox 0 0 none 0 0), (p1, BBox ry cy sb m kb), (p0, BBox rx cx sa n ka)] [fun W => FlM W tu q cu us, fun W => FlM W tb m cb ys, fun W => FlM W ta n ca xs]) := HQ5.out.sto 0 rfl
            obtain ⟨U6, hU6⟩ : ∃ X, Hid ((StoM t5 ia rx cx ta n ca) = X) := ⟨_, rfl⟩
            rw [hU6.out] at HQ6
            have hU6' := hU6.out
            unfold StoM at hU6'
            go_simp
            go_wp2_with fail
            have HQS : Hid (FrQ w U6 [(p1, BBox ry cy sb m kb), (p0, BBox rx cx sa n ka)] []) := HQ6.out.sub (.cons _ (.cons _ (.cons_cons _ (.cons_cons _ .slnil)))) (.cons _ (.cons _ (.cons _ .slnil)))
            refine hK.out _ _ (HKT.out _ HQS) (fun hHeld6 => ?_)
            clear hK K HQS
            try simp only [Act.put, List.setIfInBounds_toArray, List.set_cons_zero, List.set_cons_succ]
            clear z0 z1 z2 fz
            refine wpAnyH_ready (rs := [9]) (by kernel_rfl) (by simp) ?_
            refine AllReadyH.cons (o := _) rfl (fun K hK => ?_) AllReadyH.nil
            obtain ⟨z0, z1, z2⟩ := mcells_of (HQ6.out.at 1 rfl : U6.heap[ib]? = some (MBox 0 0 none 0 0))
            have fz := frzM (HQ6.out.at 1 rfl : U6.heap[ib]? = some (MBox 0 0 none 0 0))
            have HQ7 : Hid (FrQ w (StoM U6 ib ry cy tb m cb) [(ia, MBox rx cx ta n ca), (ib, MBox ry cy tb m cb), (p1, BBox ry cy sb m kb), (p0, BBox rx cx sa n ka)] [fun W => FlM W tu q cu us, fun W => FlM W tb m cb ys, fun W => FlM W ta n ca xs]) := HQ6.out.sto 1 rfl
            obtain ⟨U7, hU7⟩ : ∃ X, Hid ((StoM U6 ib ry cy tb m cb) = X) := ⟨_, rfl⟩
            rw [hU7.out] at HQ7
            have hU7' := hU7.out
            unfold StoM at hU7'
            go_simp
            go_wp2_with fail
            have HQS : Hid (FrQ w U7 [(p1, BBox ry cy sb m kb), (p0, BBox rx cx sa n ka)] []) := HQ7.out.sub (.cons _ (.cons _ (.cons_cons _ (.cons_cons _ .slnil)))) (.cons _ (.cons _ (.cons _ .slnil)))
            refine hK.out _ _ (HKT.out _ HQS) (fun hHeld7 => ?_)
            clear hK K HQS
            try simp only [Act.put, List.setIfInBounds_toArray, List.set_cons_zero, List.set_cons_succ]
            clear z0 z1 z2 fz
            refine take_at 10 9 (.slice tu q cu) rfl rfl (by kernel_rfl) (by kernel_rfl) (by kernel_rfl) (fun _ _ _ h => h) (Or.inl ⟨by rfl, fun w hSw => by (try dsimp only at hSw); go_simp⟩) (by assumption) ?_
            simp only [Act.put, List.setIfInBounds_toArray, List.set_cons_zero, List.set_cons_succ]
            refine wpAnyH_done (by kernel_rfl) ?_ _
            have HQ7 : Hid (FrQ w U7 [(ib, MBox ry cy tb m cb), (ia, MBox rx cx ta n ca), (p1, BBox ry cy sb m kb), (p0, BBox rx cx sa n ka)] [fun W => FlM W tu q cu us, fun W => FlM W tb m cb ys, fun W => FlM W ta n ca xs]) := HQ7.out.swap
            exact HR.out _ _ ⟨ta, ca, tb, cb, tu, cu, ia, ib, rfl, HQ7.out⟩
          · have HQ4 : Hid (FrQ w (t3.alloc (MBox 0 0 none 0 0)) [(t3.heap.size, MBox 0 0 none 0 0), (ib, MBox 0 0 none 0 0), (p1, BBox ry cy sb m kb), (p0, BBox rx cx sa n ka)] [fun W => FlM W tb m cb ys, fun W => FlM W ta n ca xs]) := HQ3.out.alloc _
            go_simp
            go_wp2_with fail
            have HQS : Hid (FrQ w (t3.alloc (MBox 0 0 none 0 0)) [(p1, BBox ry cy sb m kb), (p0, BBox rx cx sa n ka)] []) := HQ4.out.sub (.cons _ (.cons _ (.cons_cons _ (.cons_cons _ .slnil)))) (.cons _ (.cons _ .slnil))
            refine hK.out _ _ (HKT.out _ HQS) (fun hHeld4 => ?_)
            clear hK K HQS
            try simp only [Act.put, List.setIfInBounds_toArray, List.set_cons_zero, List.set_cons_succ]
            obtain ⟨t4, ht4⟩ : ∃ X, Hid (t3.alloc (MBox 0 0 none 0 0) = X) := ⟨_, rfl⟩
            obtain ⟨ia, hia⟩ : ∃ X, Hid (t3.heap.size = X) := ⟨_, rfl⟩
            rw [ht4.out, hia.out] at HQ4
            have hy1 : t3.alloc (.cells #[.int .i64 0, .int .i64 0, .slice none 0 0] 32) = t4 := ht4.out
            have hy2 := hia.out
            rw [hy1]
            rw [hy2]
            clear hy1 hy2
            refine wpAnyH_ready (rs := [5]) (by kernel_rfl) (by simp) ?_
            refine AllReadyH.cons (o := _) rfl (fun K hK => ?_) AllReadyH.nil
            go_simp
            refine (HLU.out _ HQ4.out.bel).mono ?_
            rintro e t5 ⟨⟨tu, cu, rfl, hf⟩, hbq⟩
            have HQ5 : Hid (FrQ w t5 [(ia, MBox 0 0 none 0 0), (ib, MBox 0 0 none 0 0), (p1, BBox ry cy sb m kb), (p0, BBox rx cx sa n ka)] [fun W => FlM W tb m cb ys, fun W => FlM W ta n ca xs]) := HQ4.out.call hbq
            have HQ5 : Hid (FrQ w t5 [(ia, MBox 0 0 none 0 0), (ib, MBox 0 0 none 0 0), (p1, BBox ry cy sb m kb), (p0, BBox rx cx sa n ka)] [fun W => FlM W tu q cu us, fun W => FlM W tb m cb ys, fun W => FlM W ta n ca xs]) := HQ5.out.add (kept_fl _ _ _ _) hf
            clear hbq
            go_wp2_with fail
            have HQS : Hid (FrQ w t5 [(p1, BBox ry cy sb m kb), (p0, BBox rx cx sa n ka)] []) := HQ5.out.sub (.cons _ (.cons _ (.cons_cons _ (.cons_cons _ .slnil)))) (.cons _ (.cons _ (.cons _ .slnil)))
            refine hK.out _ _ (HKT.out _ HQS) (fun hHeld5 => ?_)
            clear hK K HQS
            try simp only [Act.put, List.setIfInBounds_toArray, List.set_cons_zero, List.set_cons_succ]
            refine wpAnyH_ready (rs := [8]) (by kernel_rfl) (by simp) ?_
            refine AllReadyH.cons (o := _) rfl (fun K hK => ?_) AllReadyH.nil
            obtain ⟨z0, z1, z2⟩ := mcells_of (HQ5.out.at 0 rfl : t5.heap[ia]? = some (MBox 0 0 none 0 0))
            have fz := frzM (HQ5.out.at 0 rfl : t5.heap[ia]? = some (MBox 0 0 none 0 0))
            have HQ6 : Hid (FrQ w (StoM t5 ia rx cx ta n ca) [(ia, MBox rx cx ta n ca), (ib, MBox 0 0 none 0 0), (p1, BBox ry cy sb m kb), (p0, BBox rx cx sa n ka)] [fun W => FlM W tu q cu us, fun W => FlM W tb m cb ys, fun W => FlM W ta n ca xs]) := HQ5.out.sto 0 rfl
            obtain ⟨U6, hU6⟩ : ∃ X, Hid ((StoM t5 ia rx cx ta n ca) = X) := ⟨_, rfl⟩
            rw [hU6.out] at HQ6
            have hU6' := hU6.out
            unfold StoM at hU6'
            go_simp
            go_wp2_with fail
            have HQS : Hid (FrQ w U6 [(p1, BBox ry cy sb m kb), (p0, BBox rx cx sa n ka)] []) := HQ6.out.sub (.cons _ (.cons _ (.cons_cons _ (.cons_cons _ .slnil)))) (.cons _ (.cons _ (.cons _ .slnil)))
            refine hK.out _ _ (HKT.out _ HQS) (fun hHeld6 => ?_)
            clear hK K HQS
            try simp only [Act.put, List.setIfInBounds_toArray, List.set_cons_zero, List.set_cons_succ]
            clear z0 z1 z2 fz
            refine wpAnyH_ready (rs := [9]) (by kernel_rfl) (by simp) ?_
            refine AllReadyH.cons (o := _) rfl (fun K hK => ?_) AllReadyH.nil
            obtain ⟨z0, z1, z2⟩ := mcells_of (HQ6.out.at 1 rfl : U6.heap[ib]? = some (MBox 0 0 none 0 0))
            have fz := frzM (HQ6.out.at 1 rfl : U6.heap[ib]? = some (MBox 0 0 none 0 0))
            have HQ7 : Hid (FrQ w (StoM U6 ib ry cy tb m cb) [(ia, MBox rx cx ta n ca), (ib, MBox ry cy tb m cb), (p1, BBox ry cy sb m kb), (p0, BBox rx cx sa n ka)] [fun W => FlM W tu q cu us, fun W => FlM W tb m cb ys, fun W => FlM W ta n ca xs]) := HQ6.out.sto 1 rfl
            obtain ⟨U7, hU7⟩ : ∃ X, Hid ((StoM U6 ib ry cy tb m cb) = X) := ⟨_, rfl⟩
            rw [hU7.out] at HQ7
            have hU7' := hU7.out
            unfold StoM at hU7'
            go_simp
            go_wp2_with fail
            have HQS : Hid (FrQ w U7 [(p1, BBox ry cy sb m kb), (p0, BBox rx cx sa n ka)] []) := HQ7.out.sub (.cons _ (.cons _ (.cons_cons _ (.cons_cons _ .slnil)))) (.cons _ (.cons _ (.cons _ .slnil)))
            refine hK.out _ _ (HKT.out _ HQS) (fun hHeld7 => ?_)
            clear hK K HQS
            try simp only [Act.put, List.setIfInBounds_toArray, List.set_cons_zero, List.set_cons_succ]
            clear z0 z1 z2 fz
            refine take_at 10 9 (.slice tu q cu) rfl rfl (by kernel_rfl) (by kernel_rfl) (by kernel_rfl) (fun _ _ _ h => h) (Or.inl ⟨by rfl, fun w hSw => by (try dsimp only at hSw); go_simp⟩) (by assumption) ?_
            simp only [Act.put, List.setIfInBounds_toArray, List.set_cons_zero, List.set_cons_succ]
            refine wpAnyH_done (by kernel_rfl) ?_ _
            have HQ7 : Hid (FrQ w U7 [(ib, MBox ry cy tb m cb), (ia, MBox rx cx ta n ca), (p1, BBox ry cy sb m kb), (p0, BBox rx cx sa n ka)] [fun W => FlM W tu q cu us, fun W => FlM W tb m cb ys, fun W => FlM W ta n ca xs]) := HQ7.out.swap
            exact HR.out _ _ ⟨ta, ca, tb, cb, tu, cu, ia, ib, rfl, HQ7.out⟩
        · have HQ3 : Hid (FrQ w (t2.alloc (MBox 0 0 none 0 0)) [(t2.heap.size, MBox 0 0 none 0 0), (ib, MBox 0 0 none 0 0), (p1, BBox ry cy sb m kb), (p0, BBox rx cx sa n ka)] [fun W => FlM W ta n ca xs]) := HQ2.out.alloc _
          go_simp
          go_wp2_with fail
          have HQS : Hid (FrQ w (t2.alloc (MBox 0 0 none 0 0)) [(p1, BBox ry cy sb m kb), (p0, BBox rx cx sa n ka)] []) := HQ3.out.sub (.cons _ (.cons _ (.cons_cons _ (.cons_cons _ .slnil)))) (.cons _ .slnil)
          refine hK.out _ _ (HKT.out _ HQS) (fun hHeld3 => ?_)
          clear hK K HQS
          try simp only [Act.put, List.setIfInBounds_toArray, List.set_cons_zero, List.set_cons_succ]
          obtain ⟨t3, ht3⟩ : ∃ X, Hid (t2.alloc (MBox 0 0 none 0 0) = X) := ⟨_, rfl⟩
          obtain ⟨ia, hia⟩ : ∃ X, Hid (t2.heap.size = X) := ⟨_, rfl⟩
          rw [ht3.out, hia.out] at HQ3
          have hy1 : t2.alloc (.cells #[.int .i64 0, .int .i64 0, .slice none 0 0] 32) = t3 := ht3.out
          have hy2 := hia.out
          rw [hy1]
          rw [hy2]
          clear hy1 hy2
          refine wpAnyH_ready (rs := [3]) (by kernel_rfl) (by simp) ?_
          refine AllReadyH.cons (o := _) rfl (fun K hK => ?_) AllReadyH.nil
          go_simp
          refine (HOY.out _ HQ3.out.bel).mono ?_
          rintro e t4 ⟨⟨tb, cb, rfl, hf⟩, hbq⟩
          have HQ4 : Hid (FrQ w t4 [(ia, MBox 0 0 none 0 0), (ib, MBox 0 0 none 0 0), (p1, BBox ry cy sb m kb), (p0, BBox rx cx sa n ka)] [fun W => FlM W ta n ca xs]) := HQ3.out.call hbq
          have HQ4 : Hid (FrQ w t4 [(ia, MBox 0 0 none 0 0), (ib, MBox 0 0 none 0 0), (p1, BBox ry cy sb m kb), (p0, BBox rx cx sa n ka)] [fun W => FlM W tb m cb ys, fun W => FlM W ta n ca xs]) := HQ4.out.add (kept_fl _ _ _ _) hf
          clear hbq
          unfold MV
          go_wp2_with fail
          have HQS : Hid (FrQ w t4 [(p1, BBox ry cy sb m kb), (p0, BBox rx cx sa n ka)] []) := HQ4.out.sub (.cons _ (.cons _ (.cons_cons _ (.cons_cons _ .slnil)))) (.cons _ (.cons _ .slnil))
          refine hK.out _ _ (HKT.out _ HQS) (fun hHeld4 => ?_)
          clear hK K HQS
          try simp only [Act.put, List.setIfInBounds_toArray, List.set_cons_zero, List.set_cons_succ]
          refine wpAnyH_ready (rs := [5]) (by kernel_rfl) (by simp) ?_
          refine AllReadyH.cons (o := _) rfl (fun K hK => ?_) AllReadyH.nil
          go_simp
          refine (HLU.out _ HQ4.out.bel).mono ?_
          rintro e t5 ⟨⟨tu, cu, rfl, hf⟩, hbq⟩
          have HQ5 : Hid (FrQ w t5 [(ia, MBox 0 0 none 0 0), (ib, MBox 0 0 none 0 0), (p1, BBox ry cy sb m kb), (p0, BBox rx cx sa n ka)] [fun W => FlM W tb m cb ys, fun W => FlM W ta n ca xs]) := HQ4.out.call hbq
          have HQ5 : Hid (FrQ w t5 [(ia, MBox 0 0 none 0 0), (ib, MBox 0 0 none 0 0), (p1, BBox ry cy sb m kb), (p0, BBox rx cx sa n ka)] [fun W => FlM W tu q cu us, fun W => FlM W tb m cb ys, fun W => FlM W ta n ca xs]) := HQ5.out.add (kept_fl _ _ _ _) hf
          clear hbq
          go_wp2_with fail
          have HQS : Hid (FrQ w t5 [(p1, BBox ry cy sb m kb), (p0, BBox rx cx sa n ka)] []) := HQ5.out.sub (.cons _ (.cons _ (.cons_cons _ (.cons_cons _ .slnil)))) (.cons _ (.cons _ (.cons _ .slnil)))
          refine hK.out _ _ (HKT.out _ HQS) (fun hHeld5 => ?_)
          clear hK K HQS
          try simp only [Act.put, List.setIfInBounds_toArray, List.set_cons_zero, List.set_cons_succ]
          refine wpAnyH_ready (rs := [8]) (by kernel_rfl) (by simp) ?_
          refine AllReadyH.cons (o := _) rfl (fun K hK => ?_) AllReadyH.nil
          obtain ⟨z0, z1, z2⟩ := mcells_of (HQ5.out.at 0 rfl : t5.heap[ia]? = some (MBox 0 0 none 0 0))
          have fz := frzM (HQ5.out.at 0 rfl : t5.heap[ia]? = some (MBox 0 0 none 0 0))
          have HQ6 : Hid (FrQ w (StoM t5 ia rx cx ta n ca) [(ia, MBox rx cx ta n ca), (ib, MBox 0 0 none 0 0), (p1, BBox ry cy sb m kb), (p0, BBox rx cx sa n ka)] [fun W => FlM W tu q cu us, fun W => FlM W tb m cb ys, fun W => FlM W ta n ca xs]) := HQ5.out.sto 0 rfl
          obtain ⟨U6, hU6⟩ : ∃ X, Hid ((StoM t5 ia rx cx ta n ca) = X) := ⟨_, rfl⟩
          rw [hU6.out] at HQ6
          have hU6' := hU6.out
          unfold StoM at hU6'
          go_simp
          go_wp2_with fail
          have HQS : Hid (FrQ w U6 [(p1, BBox ry cy sb m kb), (p0, BBox rx cx sa n ka)] []) := HQ6.out.sub (.cons _ (.cons _ (.cons_cons _ (.cons_cons _ .slnil)))) (.cons _ (.cons _ (.cons _ .slnil)))
          refine hK.out _ _ (HKT.out _ HQS) (fun hHeld6 => ?_)
          clear hK K HQS
          try simp only [Act.put, List.setIfInBounds_toArray, List.set_cons_zero, List.set_cons_succ]
          clear z0 z1 z2 fz
          refine wpAnyH_ready (rs := [9]) (by kernel_rfl) (by simp) ?_
          refine AllReadyH.cons (o := _) rfl (fun K hK => ?_) AllReadyH.nil
          obtain ⟨z0, z1, z2⟩ := mcells_of (HQ6.out.at 1 rfl : U6.heap[ib]? = some (MBox 0 0 none 0 0))
          have fz := frzM (HQ6.out.at 1 rfl : U6.heap[ib]? = some (MBox 0 0 none 0 0))
          have HQ7 : Hid (FrQ w (StoM U6 ib ry cy tb m cb) [(ia, MBox rx cx ta n ca), (ib, MBox ry cy tb m cb), (p1, BBox ry cy sb m kb), (p0, BBox rx cx sa n ka)] [fun W => FlM W tu q cu us, fun W => FlM W tb m cb ys, fun W => FlM W ta n ca xs]) := HQ6.out.sto 1 rfl
          obtain ⟨U7, hU7⟩ : ∃ X, Hid ((StoM U6 ib ry cy tb m cb) = X) := ⟨_, rfl⟩
          rw [hU7.out] at HQ7
          have hU7' := hU7.out
          unfold StoM at hU7'
          go_simp
          go_wp2_with fail
          have HQS : Hid (FrQ w U7 [(p1, BBox ry cy sb m kb), (p0, BBox rx cx sa n ka)] []) := HQ7.out.sub (.cons _ (.cons _ (.cons_cons _ (.cons_cons _ .slnil)))) (.cons _ (.cons _ (.cons _ .slnil)))
          refine hK.out _ _ (HKT.out _ HQS) (fun hHeld7 => ?_)
          clear hK K HQS
          try simp only [Act.put, List.setIfInBounds_toArray, List.set_cons_zero, List.set_cons_succ]
          clear z0 z1 z2 fz
          refine take_at 10 9 (.slice tu q cu) rfl rfl (by kernel_rfl) (by kernel_rfl) (by kernel_rfl) (fun _ _ _ h => h) (Or.inl ⟨by rfl, fun w hSw => by (try dsimp only at hSw); go_simp⟩) (by assumption) ?_
          simp only [Act.put, List.setIfInBounds_toArray, List.set_cons_zero, List.set_cons_succ]
          refine wpAnyH_done (by kernel_rfl) ?_ _
          have HQ7 : Hid (FrQ w U7 [(ib, MBox ry cy tb m cb), (ia, MBox rx cx ta n ca), (p1, BBox ry cy sb m kb), (p0, BBox rx cx sa n ka)] [fun W => FlM W tu q cu us, fun W => FlM W tb m cb ys, fun W => FlM W ta n ca xs]) := HQ7.out.swap
          exact HR.out _ _ ⟨ta, ca, tb, cb, tu, cu, ia, ib, rfl, HQ7.out⟩
      · have HQ2 : Hid (FrQ w (t1.alloc (MBox 0 0 none 0 0)) [(t1.heap.size, MBox 0 0 none 0 0), (ib, MBox 0 0 none 0 0), (p1, BBox ry cy sb m kb), (p0, BBox rx cx sa n ka)] []) := HQ1.out.alloc _
        go_simp
        go_wp2_with fail
        have HQS : Hid (FrQ w (t1.alloc (MBox 0 0 none 0 0)) [(p1, BBox ry cy sb m kb), (p0, BBox rx cx sa n ka)] []) := HQ2.out.sub (.cons _ (.cons _ (.cons_cons _ (.cons_cons _ .slnil)))) .slnil
        refine hK.out _ _ (HKT.out _ HQS) (fun hHeld2 => ?_)
        clear hK K HQS
        try simp only [Act.put, List.setIfInBounds_toArray, List.set_cons_zero, List.set_cons_succ]
        obtain ⟨t2, ht2⟩ : ∃ X, Hid (t1.alloc (MBox 0 0 none 0 0) = X) := ⟨_, rfl⟩
        obtain ⟨ia, hia⟩ : ∃ X, Hid (t1.heap.size = X) := ⟨_, rfl⟩
        rw [ht2.out, hia.out] at HQ2
        have hy1 : t1.alloc (.cells #[.int .i64 0, .int .i64 0, .slice none 0 0] 32) = t2 := ht2.out
        have hy2 := hia.out
        rw [hy1]
        rw [hy2]
        clear hy1 hy2
        refine wpAnyH_ready (rs := [1]) (by kernel_rfl) (by simp) ?_
        refine AllReadyH.cons (o := _) rfl (fun K hK => ?_) AllReadyH.nil
        go_simp
        refine (HOX.out _ HQ2.out.bel).mono ?_
        rintro e t3 ⟨⟨ta, ca, rfl, hf⟩, hbq⟩
        have HQ3 : Hid (FrQ w t3 [(ia, MBox 0 0 none 0 0), (ib, MBox 0 0 none 0 0), (p1, BBox ry cy sb m kb), (p0, BBox rx cx sa n ka)] []) := HQ2.out.call hbq
        have HQ3 : Hid (FrQ w t3 [(ia, MBox 0 0 none 0 0), (ib, MBox 0 0 none 0 0), (p1, BBox ry cy sb m kb), (p0, BBox rx cx sa n ka)] [fun W => FlM W ta n ca xs]) := HQ3.out.add (kept_fl _ _ _ _) hf
        clear hbq
        unfold MV
        go_wp2_with fail
        have HQS : Hid (FrQ w t3 [(p1, BBox ry cy sb m kb), (p0, BBox rx cx sa n ka)] []) := HQ3.out.sub (.cons _ (.cons _ (.cons_cons _ (.cons_cons _ .slnil)))) (.cons _ .slnil)
        refine hK.out _ _ (HKT.out _ HQS) (fun hHeld3 => ?_)
        clear hK K HQS
        try simp only [Act.put, List.setIfInBounds_toArray, List.set_cons_zero, List.set_cons_succ]
        refine wpAnyH_ready (rs := [3]) (by kernel_rfl) (by simp) ?_
        refine AllReadyH.cons (o := _) rfl (fun K hK => ?_) AllReadyH.nil
        go_simp
        refine (HOY.out _ HQ3.out.bel).mono ?_
        rintro e t4 ⟨⟨tb, cb, rfl, hf⟩, hbq⟩
        have HQ4 : Hid (FrQ w t4 [(ia, MBox 0 0 none 0 0), (ib, MBox 0 0 none 0 0), (p1, BBox ry cy sb m kb), (p0, BBox rx cx sa n ka)] [fun W => FlM W ta n ca xs]) := HQ3.out.call hbq
        have HQ4 : Hid (FrQ w t4 [(ia, MBox 0 0 none 0 0), (ib, MBox 0 0 none 0 0), (p1, BBox ry cy sb m kb), (p0, BBox rx cx sa n ka)] [fun W => FlM W tb m cb ys, fun W => FlM W ta n ca xs]) := HQ4.out.add (kept_fl _ _ _ _) hf
        clear hbq
        unfold MV
        go_wp2_with fail
        have HQS : Hid (FrQ w t4 [(p1, BBox ry cy sb m kb), (p0, BBox rx cx sa n ka)] []) := HQ4.out.sub (.cons _ (.cons _ (.cons_cons _ (.cons_cons _ .slnil)))) (.cons _ (.cons _ .slnil))
        refine hK.out _ _ (HKT.out _ HQS) (fun hHeld4 => ?_)
        clear hK K HQS
        try simp only [Act.put, List.setIfInBounds_toArray, List.set_cons_zero, List.set_cons_succ]
        refine wpAnyH_ready (rs := [5]) (by kernel_rfl) (by simp) ?_
        refine AllReadyH.cons (o := _) rfl (fun K hK => ?_) AllReadyH.nil
        go_simp
        refine (HLU.out _ HQ4.out.bel).mono ?_
        rintro e t5 ⟨⟨tu, cu, rfl, hf⟩, hbq⟩
        have HQ5 : Hid (FrQ w t5 [(ia, MBox 0 0 none 0 0), (ib, MBox 0 0 none 0 0), (p1, BBox ry cy sb m kb), (p0, BBox rx cx sa n ka)] [fun W => FlM W tb m cb ys, fun W => FlM W ta n ca xs]) := HQ4.out.call hbq
        have HQ5 : Hid (FrQ w t5 [(ia, MBox 0 0 none 0 0), (ib, MBox 0 0 none 0 0), (p1, BBox ry cy sb m kb), (p0, BBox rx cx sa n ka)] [fun W => FlM W tu q cu us, fun W => FlM W tb m cb ys, fun W => FlM W ta n ca xs]) := HQ5.out.add (kept_fl _ _ _ _) hf
        clear hbq
        go_wp2_with fail
        have HQS : Hid (FrQ w t5 [(p1, BBox ry cy sb m kb), (p0, BBox rx cx sa n ka)] []) := HQ5.out.sub (.cons _ (.cons _ (.cons_cons _ (.cons_cons _ .slnil)))) (.cons _ (.cons _ (.cons _ .slnil)))
        refine hK.out _ _ (HKT.out _ HQS) (fun hHeld5 => ?_)
        clear hK K HQS
        try simp only [Act.put, List.setIfInBounds_toArray, List.set_cons_zero, List.set_cons_succ]
        refine wpAnyH_ready (rs := [8]) (by kernel_rfl) (by simp) ?_
        refine AllReadyH.cons (o := _) rfl (fun K hK => ?_) AllReadyH.nil
        obtain ⟨z0, z1, z2⟩ := mcells_of (HQ5.out.at 0 rfl : t5.heap[ia]? = some (MBox 0 0 none 0 0))
        have fz := frzM (HQ5.out.at 0 rfl : t5.heap[ia]? = some (MBox 0 0 none 0 0))
        have HQ6 : Hid (FrQ w (StoM t5 ia rx cx ta n ca) [(ia, MBox rx cx ta n ca), (ib, MBox 0 0 none 0 0), (p1, BBox ry cy sb m kb), (p0, BBox rx cx sa n ka)] [fun W => FlM W tu q cu us, fun W => FlM W tb m cb ys, fun W => FlM W ta n ca xs]) := HQ5.out.sto 0 rfl
        obtain ⟨U6, hU6⟩ : ∃ X, Hid ((StoM t5 ia rx cx ta n ca) = X) := ⟨_, rfl⟩
        rw [hU6.out] at HQ6
        have hU6' := hU6.out
        unfold StoM at hU6'
        go_simp
        go_wp2_with fail
        have HQS : Hid (FrQ w U6 [(p1, BBox ry cy sb m kb), (p0, BBox rx cx sa n ka)] []) := HQ6.out.sub (.cons _ (.cons _ (.cons_cons _ (.cons_cons _ .slnil)))) (.cons _ (.cons _ (.cons _ .slnil)))
        refine hK.out _ _ (HKT.out _ HQS) (fun hHeld6 => ?_)
        clear hK K HQS
        try simp only [Act.put, List.setIfInBounds_toArray, List.set_cons_zero, List.set_cons_succ]
        clear z0 z1 z2 fz
        refine wpAnyH_ready (rs := [9]) (by kernel_rfl) (by simp) ?_
        refine AllReadyH.cons (o := _) rfl (fun K hK => ?_) AllReadyH.nil
        obtain ⟨z0, z1, z2⟩ := mcells_of (HQ6.out.at 1 rfl : U6.heap[ib]? = some (MBox 0 0 none 0 0))
        have fz := frzM (HQ6.out.at 1 rfl : U6.heap[ib]? = some (MBox 0 0 none 0 0))
        have HQ7 : Hid (FrQ w (StoM U6 ib ry cy tb m cb) [(ia, MBox rx cx ta n ca), (ib, MBox ry cy tb m cb), (p1, BBox ry cy sb m kb), (p0, BBox rx cx sa n ka)] [fun W => FlM W tu q cu us, fun W => FlM W tb m cb ys, fun W => FlM W ta n ca xs]) := HQ6.out.sto 1 rfl
        obtain ⟨U7, hU7⟩ : ∃ X, Hid ((StoM U6 ib ry cy tb m cb) = X) := ⟨_, rfl⟩
        rw [hU7.out] at HQ7
        have hU7' := hU7.out
        unfold StoM at hU7'
        go_simp
        go_wp2_with fail
        have HQS : Hid (FrQ w U7 [(p1, BBox ry cy sb m kb), (p0, BBox rx cx sa n ka)] []) := HQ7.out.sub (.cons _ (.cons _ (.cons_cons _ (.cons_cons _ .slnil)))) (.cons _ (.cons _ (.cons _ .slnil)))
        refine hK.out _ _ (HKT.out _ HQS) (fun hHeld7 => ?_)
        clear hK K HQS
        try simp only [Act.put, List.setIfInBounds_toArray, List.set_cons_zero, List.set_cons_succ]
        clear z0 z1 z2 fz
        refine take_at 10 9 (.slice tu q cu) rfl rfl (by kernel_rfl) (by kernel_rfl) (by kernel_rfl) (fun _ _ _ h => h) (Or.inl ⟨by rfl, fun w hSw => by (try dsimp only at hSw); go_simp⟩) (by assumption) ?_
        simp only [Act.put, List.setIfInBounds_toArray, List.set_cons_zero, List.set_cons_succ]
        refine wpAnyH_done (by kernel_rfl) ?_ _
        have HQ7 : Hid (FrQ w U7 [(ib, MBox ry cy tb m cb), (ia, MBox rx cx ta n ca), (p1, BBox ry cy sb m kb), (p0, BBox rx cx sa n ka)] [fun W => FlM W tu q cu us, fun W => FlM W tb m cb ys, fun W => FlM W ta n ca xs]) := HQ7.out.swap
        exact HR.out _ _ ⟨ta, ca, tb, cb, tu, cu, ia, ib, rfl, HQ7.out⟩
  · rintro a' w1 ⟨ta, ca, tb, cb, tu, cu, ia, ib, rfl, hF⟩
    simp only [Act.put, List.setIfInBounds_toArray, List.set_cons_zero, List.set_cons_succ]
    have HF : Hid (FrQ w w1 [(ib, MBox ry cy tb m cb), (ia, MBox rx cx ta n ca), (p1, BBox ry cy sb m kb), (p0, BBox rx cx sa n ka)] [fun W => FlM W tu q cu us, fun W => FlM W tb m cb ys, fun W => FlM W ta n ca xs]) := hF
    clear hF HKT HQ0 HQS0
    have HCA := hid (fun W (h : FlM W ta n ca xs) => rCheck_any rx cx ta n ca xs W h HNM.out.1)
    have HCB := hid (fun W (h : FlM W tb m cb ys) => rCheck_any ry cy tb m cb ys W h HNM.out.2.1)
    have HRM := hid (fun W (h : FlM W ta n ca xs) (h2 : FlM W tb m cb ys) hz => rMul_tot rx cx ta n ca xs ry cy tb m cb ys W h h2 hz)
    have HRS := hid (fun W (h : FlM W ta n ca xs) (h2 : FlM W tb m cb ys) hz => rSand_tot rx cx ta n ca xs ry cy tb m cb ys W h h2 hz)
    have HPM := hid (fun W s k t l (h : FlM W s n k xs) (h2 : FlM W t m l ys) => Mul_tot rx cx s n k xs ry cy t m l ys W h h2 HNM.out.1 HNM.out.2.1)
    have HPS := hid (fun W s k t l (h : FlM W s n k xs) (h2 : FlM W t m l ys) => Sand_tot rx cx s n k xs ry cy t m l ys W h h2 HNM.out.1 HNM.out.2.1)
    have HFT := hid (fun b W h => First_two b (chkM rx cx n xs) (chkM ry cy m ys) W h)
    rw [first_two2] at HFT
    have HMN : Hid (first2 (chkM rx cx n xs) (chkM ry cy m ys) ≠ 0 → mulT rx cx n xs ry cy m ys = first2 (chkM rx cx n xs) (chkM ry cy m ys)) := fun h => by unfold mulT; rw [if_neg h]
    have HSN : Hid (first2 (chkM rx cx n xs) (chkM ry cy m ys) ≠ 0 → sndT rx cx n xs ry cy m ys = first2 (chkM rx cx n xs) (chkM ry cy m ys)) := fun h => by unfold sndT; rw [if_neg h]
    obtain ⟨T2, hT2⟩ : ∃ t, Hid (first2 (chkM rx cx n xs) (chkM ry cy m ys) = t) := ⟨_, rfl⟩
    rw [hT2.out] at HFT HRM HRS HMN HSN
    obtain ⟨MT, hMT⟩ : ∃ t, Hid (mulT rx cx n xs ry cy m ys = t) := ⟨_, rfl⟩
    rw [hMT.out] at HRM HPM HMN
    obtain ⟨ST, hST⟩ : ∃ t, Hid (sndT rx cx n xs ry cy m ys = t) := ⟨_, rfl⟩
    rw [hST.out] at HRS HPS HSN
    obtain ⟨EA, hEA⟩ : ∃ t, Hid (chkM rx cx n xs = t) := ⟨_, rfl⟩
    obtain ⟨EB, hEB⟩ : ∃ t, Hid (chkM ry cy m ys = t) := ⟨_, rfl⟩
    rw [hEA.out] at HCA HFT
    rw [hEB.out] at HCB HFT
    obtain ⟨pv, hpv⟩ : ∃ t, Hid (prdV xs ys cx.toNat cy.toNat = t) := ⟨_, rfl⟩
    rw [hpv.out] at HRM HPM
    obtain ⟨sv, hsv⟩ : ∃ t, Hid (sndV xs ys cx.toNat = t) := ⟨_, rfl⟩
    rw [hsv.out] at HRS HPS
    obtain ⟨R, hR⟩ : ∃ t, Hid (rx.toNat = t) := ⟨_, rfl⟩
    obtain ⟨C, hC⟩ : ∃ t, Hid (cy.toNat = t) := ⟨_, rfl⟩
    rw [hR.out] at HRM HPM HRS HPS
    rw [hC.out] at HRM HPM
    have HKT : Hid (∀ W, Hid (FrQ w W [(ib, MBox ry cy tb m cb), (ia, MBox rx cx ta n ca), (p1, BBox ry cy sb m kb), (p0, BBox rx cx sa n ka)] [fun W => FlM W tu q cu us, fun W => FlM W tb m cb ys, fun W => FlM W ta n ca xs]) → (W.cell? ⟨ia, 0, none⟩ = some (.int .i64 rx) ∧ W.cell? ⟨ia, 1, none⟩ = some (.int .i64 cx) ∧ W.cell? ⟨ia, 2, none⟩ = some (.slice ta n ca) ∧ W.cell? ⟨ib, 0, none⟩ = some (.int .i64 ry) ∧ W.cell? ⟨ib, 1, none⟩ = some (.int .i64 cy) ∧ W.cell? ⟨ib, 2, none⟩ = some (.slice tb m cb)) ∧ Hid (FrQ w W [(ib, MBox ry cy tb m cb), (ia, MBox rx cx ta n ca), (p1, BBox ry cy sb m kb), (p0, BBox rx cx sa n ka)] [fun W => FlM W tu q cu us, fun W => FlM W tb m cb ys, fun W => FlM W ta n ca xs])) := fun W hW => by
      obtain ⟨a00, a01, a02⟩ := mcells_of (hW.out.at 1 rfl : W.heap[ia]? = some (MBox rx cx ta n ca))
      obtain ⟨a10, a11, a12⟩ := mcells_of (hW.out.at 0 rfl : W.heap[ib]? = some (MBox ry cy tb m cb))
      exact ⟨⟨a00, a01, a02, a10, a11, a12⟩, hW⟩
    have HQ0 : Hid (FrQ w w1.drew [(ib, MBox ry cy tb m cb), (ia, MBox rx cx ta n ca), (p1, BBox ry cy sb m kb), (p0, BBox rx cx sa n ka)] [fun W => FlM W tu q cu us, fun W => FlM W tb m cb ys, fun W => FlM W ta n ca xs]) := HF.out.drew
    have HQS0 : Hid (FrQ w w1.drew [(ib, MBox ry cy tb m cb), (ia, MBox rx cx ta n ca), (p1, BBox ry cy sb m kb), (p0, BBox rx cx sa n ka)] [fun W => FlM W tu q cu us, fun W => FlM W tb m cb ys, fun W => FlM W ta n ca xs]) := HQ0.out.sub (.cons_cons _ (.cons_cons _ (.cons_cons _ (.cons_cons _ .slnil)))) (.cons_cons _ (.cons_cons _ (.cons_cons _ .slnil)))
    go_wp2_with fail
    refine wp_region_held_drew (S := fun W => (W.cell? ⟨ia, 0, none⟩ = some (.int .i64 rx) ∧ W.cell? ⟨ia, 1, none⟩ = some (.int .i64 cx) ∧ W.cell? ⟨ia, 2, none⟩ = some (.slice ta n ca) ∧ W.cell? ⟨ib, 0, none⟩ = some (.int .i64 ry) ∧ W.cell? ⟨ib, 1, none⟩ = some (.int .i64 cy) ∧ W.cell? ⟨ib, 2, none⟩ = some (.slice tb m cb)) ∧ Hid (FrQ w W [(ib, MBox ry cy tb m cb), (ia, MBox rx cx ta n ca), (p1, BBox ry cy sb m kb), (p0, BBox rx cx sa n ka)] [fun W => FlM W tu q cu us, fun W => FlM W tb m cb ys, fun W => FlM W ta n ca xs])) (by kernel_rfl) (HKT.out _ HQS0) (fun hHeld => ?_)
    refine take_at 0 23 (.agg #[.int .i64 rx, .int .i64 cx, .slice ta n ca]) rfl rfl (by kernel_rfl) (by kernel_rfl) (by kernel_rfl) (fun _ _ _ h => h) (Or.inl ⟨by rfl, fun w hSw => by (try dsimp only at hSw); go_simp⟩) (by assumption) ?_
    simp only [Act.put, List.setIfInBounds_toArray, List.set_cons_zero, List.set_cons_succ]
    refine take_at 2 25 (.agg #[.int .i64 ry, .int .i64 cy, .slice tb m cb]) rfl rfl (by kernel_rfl) (by kernel_rfl) (by kernel_rfl) (fun _ _ _ h => h) (Or.inl ⟨by rfl, fun w hSw => by (try dsimp only at hSw); go_simp⟩) (by assumption) ?_
    simp only [Act.put, List.setIfInBounds_toArray, List.set_cons_zero, List.set_cons_succ]
    refine wpAnyH_ready (rs := [1]) (by kernel_rfl) (by simp) ?_
    refine AllReadyH.cons (o := _) rfl (fun K hK => ?_) AllReadyH.nil
    go_simp
    refine (HCA.out _ (HQ0.out.get (g := fun W => FlM W ta n ca xs) 2 rfl)).mono ?_
    rintro e t1 ⟨rfl, hbq⟩
    have HQ1 : Hid (FrQ w t1 [(ib, MBox ry cy tb m cb), (ia, MBox rx cx ta n ca), (p1, BBox ry cy sb m kb), (p0, BBox rx cx sa n ka)] [fun W => FlM W tu q cu us, fun W => FlM W tb m cb ys, fun W => FlM W ta n ca xs]) := HQ0.out.call hbq
    clear hbq
    go_wp2_with fail
    have HQS : Hid (FrQ w t1 [(ib, MBox ry cy tb m cb), (ia, MBox rx cx ta n ca), (p1, BBox ry cy sb m kb), (p0, BBox rx cx sa n ka)] [fun W => FlM W tu q cu us, fun W => FlM W tb m cb ys, fun W => FlM W ta n ca xs]) := HQ1.out.sub (.cons_cons _ (.cons_cons _ (.cons_cons _ (.cons_cons _ .slnil)))) (.cons_cons _ (.cons_cons _ (.cons_cons _ .slnil)))
    refine hK.out _ _ (HKT.out _ HQS) (fun hHeld1 => ?_)
    clear hK K HQS
    try simp only [Act.put, List.setIfInBounds_toArray, List.set_cons_zero, List.set_cons_succ]
    refine wpAnyH_ready (rs := [3]) (by kernel_rfl) (by simp) ?_
    refine AllReadyH.cons (o := _) rfl (fun K hK => ?_) AllReadyH.nil
    go_simp
    refine (HCB.out _ (HQ1.out.get (g := fun W => FlM W tb m cb ys) 1 rfl)).mono ?_
    rintro e t2 ⟨rfl, hbq⟩
    have HQ2 : Hid (FrQ w t2 [(ib, MBox ry cy tb m cb), (ia, MBox rx cx ta n ca), (p1, BBox ry cy sb m kb), (p0, BBox rx cx sa n ka)] [fun W => FlM W tu q cu us, fun W => FlM W tb m cb ys, fun W => FlM W ta n ca xs]) := HQ1.out.call hbq
    clear hbq
    go_wp2_with fail
    have HQS : Hid (FrQ w t2 [(ib, MBox ry cy tb m cb), (ia, MBox rx cx ta n ca), (p1, BBox ry cy sb m kb), (p0, BBox rx cx sa n ka)] [fun W => FlM W tu q cu us, fun W => FlM W tb m cb ys, fun W => FlM W ta n ca xs]) := HQ2.out.sub (.cons_cons _ (.cons_cons _ (.cons_cons _ (.cons_cons _ .slnil)))) (.cons_cons _ (.cons_cons _ (.cons_cons _ .slnil)))
    refine hK.out _ _ (HKT.out _ HQS) (fun hHeld2 => ?_)
    clear hK K HQS
    try simp only [Act.put, List.setIfInBounds_toArray, List.set_cons_zero, List.set_cons_succ]
    refine wpAnyH_ready (rs := [4]) (by kernel_rfl) (by simp) ?_
    refine AllReadyH.cons (o := _) rfl (fun K hK => ?_) AllReadyH.nil
    have HQ3 : Hid (FrQ w (t2.alloc (I2 EA EB)) [(t2.heap.size, I2 EA EB), (ib, MBox ry cy tb m cb), (ia, MBox rx cx ta n ca), (p1, BBox ry cy sb m kb), (p0, BBox rx cx sa n ka)] [fun W => FlM W tu q cu us, fun W => FlM W tb m cb ys, fun W => FlM W ta n ca xs]) := HQ2.out.alloc _
    go_simp
    go_wp2_with fail
    have HQS : Hid (FrQ w (t2.alloc (I2 EA EB)) [(ib, MBox ry cy tb m cb), (ia, MBox rx cx ta n ca), (p1, BBox ry cy sb m kb), (p0, BBox rx cx sa n ka)] [fun W => FlM W tu q cu us, fun W => FlM W tb m cb ys, fun W => FlM W ta n ca xs]) := HQ3.out.sub (.cons _ (.cons_cons _ (.cons_cons _ (.cons_cons _ (.cons_cons _ .slnil))))) (.cons_cons _ (.cons_cons _ (.cons_cons _ .slnil)))
    refine hK.out _ _ (HKT.out _ HQS) (fun hHeld3 => ?_)
    clear hK K HQS
    try simp only [Act.put, List.setIfInBounds_toArray, List.set_cons_zero, List.set_cons_succ]
    obtain ⟨t3, ht3⟩ : ∃ X, Hid (t2.alloc (I2 EA EB) = X) := ⟨_, rfl⟩
    obtain ⟨ix, hix⟩ : ∃ X, Hid (t2.heap.size = X) := ⟨_, rfl⟩
    rw [ht3.out, hix.out] at HQ3
    have hy1 : t2.alloc (.cells #[.int .i64 EA, .int .i64 EB] 3) = t3 := ht3.out
    have hy2 := hix.out
    rw [hy1]
    rw [hy2]
    clear hy1 hy2
    refine wpAnyH_ready (rs := [5]) (by kernel_rfl) (by simp) ?_
    refine AllReadyH.cons (o := _) rfl (fun K hK => ?_) AllReadyH.nil
    go_simp
    refine (HFT.out _ _ (HQ3.out.at 0 rfl : t3.heap[ix]? = some (I2 EA EB))).mono ?_
    rintro e ww ⟨rfl, hw⟩
    rw [hw]
    clear hw
    go_wp2_with fail
    have HQS : Hid (FrQ w t3 [(ib, MBox ry cy tb m cb), (ia, MBox rx cx ta n ca), (p1, BBox ry cy sb m kb), (p0, BBox rx cx sa n ka)] [fun W => FlM W tu q cu us, fun W => FlM W tb m cb ys, fun W => FlM W ta n ca xs]) := HQ3.out.sub (.cons _ (.cons_cons _ (.cons_cons _ (.cons_cons _ (.cons_cons _ .slnil))))) (.cons_cons _ (.cons_cons _ (.cons_cons _ .slnil)))
    refine hK.out _ _ (HKT.out _ HQS) (fun hHeld4 => ?_)
    clear hK K HQS
    try simp only [Act.put, List.setIfInBounds_toArray, List.set_cons_zero, List.set_cons_succ]
    refine take_at 6 10 (.int .i64 T2) rfl rfl (by kernel_rfl) (by kernel_rfl) (by kernel_rfl) (fun _ _ _ h => h) (Or.inl ⟨by rfl, fun w hSw => by (try dsimp only at hSw); go_simp⟩) (by assumption) ?_
    simp only [Act.put, List.setIfInBounds_toArray, List.set_cons_zero, List.set_cons_succ]
    refine wpAnyH_done (by kernel_rfl) ?_ _
    have HF : Hid (FrQ w t3 [(ix, I2 EA EB), (ib, MBox ry cy tb m cb), (ia, MBox rx cx ta n ca), (p1, BBox ry cy sb m kb), (p0, BBox rx cx sa n ka)] [fun W => FlM W tu q cu us, fun W => FlM W tb m cb ys, fun W => FlM W ta n ca xs]) := HQ3.out
    clear HKT HQ0 HQS0
    have HF : Hid (FrQ w t3 [(ib, MBox ry cy tb m cb), (ia, MBox rx cx ta n ca), (p1, BBox ry cy sb m kb), (p0, BBox rx cx sa n ka)] [fun W => FlM W tu q cu us, fun W => FlM W tb m cb ys, fun W => FlM W ta n ca xs]) := HF.out.sub (.cons _ (.cons_cons _ (.cons_cons _ (.cons_cons _ (.cons_cons _ .slnil))))) (.cons_cons _ (.cons_cons _ (.cons_cons _ .slnil)))
    have HF : Hid (FrQ w (t3.alloc (MBox 0 0 none 0 0)) [(t3.heap.size, MBox 0 0 none 0 0), (ib, MBox ry cy tb m cb), (ia, MBox rx cx ta n ca), (p1, BBox ry cy sb m kb), (p0, BBox rx cx sa n ka)] [fun W => FlM W tu q cu us, fun W => FlM W tb m cb ys, fun W => FlM W ta n ca xs]) := HF.out.alloc _
    obtain ⟨V2, hV2⟩ : ∃ V, Hid (t3.alloc (MBox 0 0 none 0 0) = V) := ⟨_, rfl⟩
    obtain ⟨ih, hih⟩ : ∃ t, Hid (t3.heap.size = t) := ⟨_, rfl⟩
    rw [hV2.out, hih.out] at HF
    have hV2' := hV2.out
    unfold MBox at hV2'
    have hih' := hih.out
    go_upto_if 31 with fail
    go_cut [12] from 17 (fun s12 W => s12 = .int .i64 MT ∧ ∃ (Z0 Z1 : Int) (Z2 : Option Addr) (Z3 Z4 : Nat), Hid (FrQ w W [(ih, MBox Z0 Z1 Z2 Z3 Z4), (ib, MBox ry cy tb m cb), (ia, MBox rx cx ta n ca), (p1, BBox ry cy sb m kb), (p0, BBox rx cx sa n ka)] [fun W => MT = 0 → ResM MT R C pv W Z0 Z1 Z2 Z3 Z4, fun W => FlM W tu q cu us, fun W => FlM W tb m cb ys, fun W => FlM W ta n ca xs]))
    case first =>
      by_cases hT0 : T2 = 0
      · have HRZ := hid (fun W h h2 => HRM.out W h h2 hT0)
        subst hT0
        obtain ⟨c00, c01, c02⟩ := mcells_of (HF.out.at 2 rfl : V2.heap[ia]? = some (MBox rx cx ta n ca))
        obtain ⟨c10, c11, c12⟩ := mcells_of (HF.out.at 1 rfl : V2.heap[ib]? = some (MBox ry cy tb m cb))
        go_wp2_with fail
        refine (HRZ.out _ (HF.out.get (g := fun W => FlM W ta n ca xs) 2 rfl) (HF.out.get (g := fun W => FlM W tb m cb ys) 1 rfl)).mono ?_
        rintro e u3 ⟨⟨D0, D1, D2, D3, D4, rfl, hres⟩, hb⟩
        have HF : Hid (FrQ w u3 [(ih, MBox 0 0 none 0 0), (ib, MBox ry cy tb m cb), (ia, MBox rx cx ta n ca), (p1, BBox ry cy sb m kb), (p0, BBox rx cx sa n ka)] [fun W => FlM W tu q cu us, fun W => FlM W tb m cb ys, fun W => FlM W ta n ca xs]) := HF.out.call hb
        have HF : Hid (FrQ w u3 [(ih, MBox 0 0 none 0 0), (ib, MBox ry cy tb m cb), (ia, MBox rx cx ta n ca), (p1, BBox ry cy sb m kb), (p0, BBox rx cx sa n ka)] [fun W => MT = 0 → ResM MT R C pv W D0 D1 D2 D3 D4, fun W => FlM W tu q cu us, fun W => FlM W tb m cb ys, fun W => FlM W ta n ca xs]) := HF.out.add (kept_resi _ _ _ _ _ _ _ _ _) (fun _ => hres)
        clear hb
        clear hres HRZ
        obtain ⟨z0, z1, z2⟩ := mcells_of (HF.out.at 0 rfl : u3.heap[ih]? = some (MBox 0 0 none 0 0))
        have fz := frzM (HF.out.at 0 rfl : u3.heap[ih]? = some (MBox 0 0 none 0 0))
        have HF : Hid (FrQ w (StoM u3 ih D0 D1 D2 D3 D4) [(ih, MBox D0 D1 D2 D3 D4), (ib, MBox ry cy tb m cb), (ia, MBox rx cx ta n ca), (p1, BBox ry cy sb m kb), (p0, BBox rx cx sa n ka)] [fun W => MT = 0 → ResM MT R C pv W D0 D1 D2 D3 D4, fun W => FlM W tu q cu us, fun W => FlM W tb m cb ys, fun W => FlM W ta n ca xs]) := HF.out.sto 0 rfl
        obtain ⟨U4, hU4⟩ : ∃ V, Hid ((StoM u3 ih D0 D1 D2 D3 D4) = V) := ⟨_, rfl⟩
        rw [hU4.out] at HF
        have hU4' := hU4.out
        unfold StoM at hU4'
        go_wp2_with fail
        go_meet
        exact ⟨rfl, _, _, _, _, _, HF⟩
      · have hne : (T2 == 0) = false := by simpa using hT0
        have hmn := HMN.out hT0
        have HNZ := hid hT0
        clear hT0
        have HF : Hid (FrQ w V2 [(ih, MBox 0 0 none 0 0), (ib, MBox ry cy tb m cb), (ia, MBox rx cx ta n ca), (p1, BBox ry cy sb m kb), (p0, BBox rx cx sa n ka)] [fun W => MT = 0 → ResM MT R C pv W 0 0 none 0 0, fun W => FlM W tu q cu us, fun W => FlM W tb m cb ys, fun W => FlM W ta n ca xs]) := HF.out.add (kept_resi _ _ _ _ _ _ _ _ _) (fun h => absurd (hmn.symm.trans h) HNZ.out)
        go_wp2_with fail
        go_meet
        exact ⟨by rw [hmn], _, _, _, _, _, HF⟩
    case rest =>
      obtain ⟨rfl, Z0, Z1, Z2, Z3, Z4, HF⟩ := hcut
      have HKT : Hid (∀ W, Hid (FrQ w W [(ih, MBox Z0 Z1 Z2 Z3 Z4), (ib, MBox ry cy tb m cb), (ia, MBox rx cx ta n ca), (p1, BBox ry cy sb m kb), (p0, BBox rx cx sa n ka)] [fun W => MT = 0 → ResM MT R C pv W Z0 Z1 Z2 Z3 Z4, fun W => FlM W tu q cu us, fun W => FlM W tb m cb ys, fun W => FlM W ta n ca xs]) → (W.cell? ⟨p0, 0, none⟩ = some (.int .i64 rx) ∧ W.cell? ⟨p0, 1, none⟩ = some (.int .i64 cx) ∧ W.cell? ⟨p0, 2, none⟩ = some (.slice sa n ka) ∧ W.cell? ⟨p1, 0, none⟩ = some (.int .i64 ry) ∧ W.cell? ⟨p1, 1, none⟩ = some (.int .i64 cy) ∧ W.cell? ⟨p1, 2, none⟩ = some (.slice sb m kb)) ∧ Hid (FrQ w W [(ih, MBox Z0 Z1 Z2 Z3 Z4), (ib, MBox ry cy tb m cb), (ia, MBox rx cx ta n ca), (p1, BBox ry cy sb m kb), (p0, BBox rx cx sa n ka)] [fun W => MT = 0 → ResM MT R C pv W Z0 Z1 Z2 Z3 Z4, fun W => FlM W tu q cu us, fun W => FlM W tb m cb ys, fun W => FlM W ta n ca xs])) := fun W hW => by
        obtain ⟨a00, a01, a02⟩ := bcells_of (hW.out.at 4 rfl : W.heap[p0]? = some (BBox rx cx sa n ka))
        obtain ⟨a10, a11, a12⟩ := bcells_of (hW.out.at 3 rfl : W.heap[p1]? = some (BBox ry cy sb m kb))
        exact ⟨⟨a00, a01, a02, a10, a11, a12⟩, hW⟩
      have HQ0 : Hid (FrQ w wc.drew [(ih, MBox Z0 Z1 Z2 Z3 Z4), (ib, MBox ry cy tb m cb), (ia, MBox rx cx ta n ca), (p1, BBox ry cy sb m kb), (p0, BBox rx cx sa n ka)] [fun W => MT = 0 → ResM MT R C pv W Z0 Z1 Z2 Z3 Z4, fun W => FlM W tu q cu us, fun W => FlM W tb m cb ys, fun W => FlM W ta n ca xs]) := HF.out.drew
      have HQS0 : Hid (FrQ w wc.drew [(ih, MBox Z0 Z1 Z2 Z3 Z4), (ib, MBox ry cy tb m cb), (ia, MBox rx cx ta n ca), (p1, BBox ry cy sb m kb), (p0, BBox rx cx sa n ka)] [fun W => MT = 0 → ResM MT R C pv W Z0 Z1 Z2 Z3 Z4, fun W => FlM W tu q cu us, fun W => FlM W tb m cb ys, fun W => FlM W ta n ca xs]) := HQ0.out.sub (.cons_cons _ (.cons_cons _ (.cons_cons _ (.cons_cons _ (.cons_cons _ .slnil))))) (.cons_cons _ (.cons_cons _ (.cons_cons _ (.cons_cons _ .slnil))))
      go_wp2_with fail
      refine region_merge2 (fun a0 a' w' => ∃ (tx : Option Addr) (kx : Nat) (tz : Option Addr) (ky : Nat) (X0 X1 : Int) (X2 : Option Addr) (X3 X4 ig : Nat), a' = Act.put (Act.put (Act.put (Act.put (Act.put (Act.put (Act.put (Act.put (Act.put (Act.put (a0) (some 39) (.agg #[.int .i64 rx, .int .i64 cx, .slice sa n ka])) (some 41) (.agg #[.int .i64 ry, .int .i64 cy, .slice sb m kb])) (some 40) (.agg #[.int .i64 rx, .int .i64 cx, .slice tx n kx])) (some 42) (.agg #[.int .i64 ry, .int .i64 cy, .slice tz m ky])) (some 43) (.tuple #[.agg #[.int .i64 X0, .int .i64 X1, .slice X2 X3 X4], .int .i64 MT])) (some 38) (.tuple #[.agg #[.int .i64 X0, .int .i64 X1, .slice X2 X3 X4], .int .i64 MT])) (some 44) (.agg #[.int .i64 X0, .int .i64 X1, .slice X2 X3 X4])) (some 45) (.int .i64 MT)) (some 13) (.pointer (some ⟨ig, 0, none⟩))) (some 14) (.int .i64 MT) ∧ FrQ w w' [(ig, MBox X0 X1 X2 X3 X4), (ih, MBox Z0 Z1 Z2 Z3 Z4), (ib, MBox ry cy tb m cb), (ia, MBox rx cx ta n ca), (p1, BBox ry cy sb m kb), (p0, BBox rx cx sa n ka)] [fun W => ResM MT R C pv W X0 X1 X2 X3 X4, fun W => FlM W tz m ky ys, fun W => FlM W tx n kx xs, fun W => MT = 0 → ResM MT R C pv W Z0 Z1 Z2 Z3 Z4, fun W => FlM W tu q cu us, fun W => FlM W tb m cb ys, fun W => FlM W ta n ca xs]) (fun HR => ?_) ?_
      · simp only [Act.put, List.setIfInBounds_toArray, List.set_cons_zero, List.set_cons_succ] at HR
        refine wp_region_held_drew (S := fun W => (W.cell? ⟨p0, 0, none⟩ = some (.int .i64 rx) ∧ W.cell? ⟨p0, 1, none⟩ = some (.int .i64 cx) ∧ W.cell? ⟨p0, 2, none⟩ = some (.slice sa n ka) ∧ W.cell? ⟨p1, 0, none⟩ = some (.int .i64 ry) ∧ W.cell? ⟨p1, 1, none⟩ = some (.int .i64 cy) ∧ W.cell? ⟨p1, 2, none⟩ = some (.slice sb m kb)) ∧ Hid (FrQ w W [(ih, MBox Z0 Z1 Z2 Z3 Z4), (ib, MBox ry cy tb m cb), (ia, MBox rx cx ta n ca), (p1, BBox ry cy sb m kb), (p0, BBox rx cx sa n ka)] [fun W => MT = 0 → ResM MT R C pv W Z0 Z1 Z2 Z3 Z4, fun W => FlM W tu q cu us, fun W => FlM W tb m cb ys, fun W => FlM W ta n ca xs])) (by kernel_rfl) (HKT.out _ HQS0) (fun hHeld => ?_)
        refine take_at 0 39 (.agg #[.int .i64 rx, .int .i64 cx, .slice sa n ka]) rfl rfl (by kernel_rfl) (by kernel_rfl) (by kernel_rfl) (fun _ _ _ h => h) (Or.inl ⟨by rfl, fun w hSw => by (try dsimp only at hSw); go_simp⟩) (by assumption) ?_
        simp only [Act.put, List.setIfInBounds_toArray, List.set_cons_zero, List.set_cons_succ]
        refine take_at 2 41 (.agg #[.int .i64 ry, .int .i64 cy, .slice sb m kb]) rfl rfl (by kernel_rfl) (by kernel_rfl) (by kernel_rfl) (fun _ _ _ h => h) (Or.inl ⟨by rfl, fun w hSw => by (try dsimp only at hSw); go_simp⟩) (by assumption) ?_
        simp only [Act.put, List.setIfInBounds_toArray, List.set_cons_zero, List.set_cons_succ]
        refine wpAnyH_ready (rs := [1, 8]) (by kernel_rfl) (by simp) ?_
        refine AllReadyH.cons (o := _) rfl (fun K hK => ?_) (AllReadyH.cons (o := _) rfl (fun K hK => ?_) AllReadyH.nil)
        · go_simp
          refine (HOX.out _ HQ0.out.bel).mono ?_
          rintro e t1 ⟨⟨tx, kx, rfl, hf⟩, hbq⟩
          have HQ1 : Hid (FrQ w t1 [(ih, MBox Z0 Z1 Z2 Z3 Z4), (ib, MBox ry cy tb m cb), (ia, MBox rx cx ta n ca), (p1, BBox ry cy sb m kb), (p0, BBox rx cx sa n ka)] [fun W => MT = 0 → ResM MT R C pv W Z0 Z1 Z2 Z3 Z4, fun W => FlM W tu q cu us, fun W => FlM W tb m cb ys, fun W => FlM W ta n ca xs]) := HQ0.out.call hbq
          have HQ1 : Hid (FrQ w t1 [(ih, MBox Z0 Z1 Z2 Z3 Z4), (ib, MBox ry cy tb m cb), (ia, MBox rx cx ta n ca), (p1, BBox ry cy sb m kb), (p0, BBox rx cx sa n ka)] [fun W => FlM W tx n kx xs, fun W => MT = 0 → ResM MT R C pv W Z0 Z1 Z2 Z3 Z4, fun W => FlM W tu q cu us, fun W => FlM W tb m cb ys, fun W => FlM W ta n ca xs]) := HQ1.out.add (kept_fl _ _ _ _) hf
          clear hbq
          unfold MV
          go_wp2_with fail
          have HQS : Hid (FrQ w t1 [(ih, MBox Z0 Z1 Z2 Z3 Z4), (ib, MBox ry cy tb m cb), (ia, MBox rx cx ta n ca), (p1, BBox ry cy sb m kb), (p0, BBox rx cx sa n ka)] [fun W => MT = 0 → ResM MT R C pv W Z0 Z1 Z2 Z3 Z4, fun W => FlM W tu q cu us, fun W => FlM W tb m cb ys, fun W => FlM W ta n ca xs]) := HQ1.out.sub (.cons_cons _ (.cons_cons _ (.cons_cons _ (.cons_cons _ (.cons_cons _ .slnil))))) (.cons _ (.cons_cons _ (.cons_cons _ (.cons_cons _ (.cons_cons _ .slnil)))))
          refine hK.out _ _ (HKT.out _ HQS) (fun hHeld1 => ?_)
          clear hK K HQS
          try simp only [Act.put, List.setIfInBounds_toArray, List.set_cons_zero, List.set_cons_succ]
          refine wpAnyH_ready (rs := [3, 8]) (by kernel_rfl) (by simp) ?_
          refine AllReadyH.cons (o := _) rfl (fun K hK => ?_) (AllReadyH.cons (o := _) rfl (fun K hK => ?_) AllReadyH.nil)
          · go_simp
            refine (HOY.out _ HQ1.out.bel).mono ?_
            rintro e t2 ⟨⟨tz, ky, rfl, hf⟩, hbq⟩
            have HQ2 : Hid (FrQ w t2 [(ih, MBox Z0 Z1 Z2 Z3 Z4), (ib, MBox ry cy tb m cb), (ia, MBox rx cx ta n ca), (p1, BBox ry cy sb m kb), (p0, BBox rx cx sa n ka)] [fun W => FlM W tx n kx xs, fun W => MT = 0 → ResM MT R C pv W Z0 Z1 Z2 Z3 Z4, fun W => FlM W tu q cu us, fun W => FlM W tb m cb ys, fun W => FlM W ta n ca xs]) := HQ1.out.call hbq
            have HQ2 : Hid (FrQ w t2 [(ih, MBox Z0 Z1 Z2 Z3 Z4), (ib, MBox ry cy tb m cb), (ia, MBox rx cx ta n ca), (p1, BBox ry cy sb m kb), (p0, BBox rx cx sa n ka)] [fun W => FlM W tz m ky ys, fun W => FlM W tx n kx xs, fun W => MT = 0 → ResM MT R C pv W Z0 Z1 Z2 Z3 Z4, fun W => FlM W tu q cu us, fun W => FlM W tb m cb ys, fun W => FlM W ta n ca xs]) := HQ2.out.add (kept_fl _ _ _ _) hf
            clear hbq
            unfold MV
            go_wp2_with fail
            have HQS : Hid (FrQ w t2 [(ih, MBox Z0 Z1 Z2 Z3 Z4), (ib, MBox ry cy tb m cb), (ia, MBox rx cx ta n ca), (p1, BBox ry cy sb m kb), (p0, BBox rx cx sa n ka)] [fun W => MT = 0 → ResM MT R C pv W Z0 Z1 Z2 Z3 Z4, fun W => FlM W tu q cu us, fun W => FlM W tb m cb ys, fun W => FlM W ta n ca xs]) := HQ2.out.sub (.cons_cons _ (.cons_cons _ (.cons_cons _ (.cons_cons _ (.cons_cons _ .slnil))))) (.cons _ (.cons _ (.cons_cons _ (.cons_cons _ (.cons_cons _ (.cons_cons _ .slnil))))))
            refine hK.out _ _ (HKT.out _ HQS) (fun hHeld2 => ?_)
            clear hK K HQS
            try simp only [Act.put, List.setIfInBounds_toArray, List.set_cons_zero, List.set_cons_succ]
            refine wpAnyH_ready (rs := [4, 8]) (by kernel_rfl) (by simp) ?_
            refine AllReadyH.cons (o := _) rfl (fun K hK => ?_) (AllReadyH.cons (o := _) rfl (fun K hK => ?_) AllReadyH.nil)
            · go_simp
              refine (HPM.out _ _ _ _ _ (HQ2.out.get (g := fun W => FlM W tx n kx xs) 1 rfl) (HQ2.out.get (g := fun W => FlM W tz m ky ys) 0 rfl)).mono ?_
              rintro e t3 ⟨⟨X0, X1, X2, X3, X4, rfl, hres⟩, hbq⟩
              have HQ3 : Hid (FrQ w t3 [(ih, MBox Z0 Z1 Z2 Z3 Z4), (ib, MBox ry cy tb m cb), (ia, MBox rx cx ta n ca), (p1, BBox ry cy sb m kb), (p0, BBox rx cx sa n ka)] [fun W => FlM W tz m ky ys, fun W => FlM W tx n kx xs, fun W => MT = 0 → ResM MT R C pv W Z0 Z1 Z2 Z3 Z4, fun W => FlM W tu q cu us, fun W => FlM W tb m cb ys, fun W => FlM W ta n ca xs]) := HQ2.out.call hbq
              have HQ3 : Hid (FrQ w t3 [(ih, MBox Z0 Z1 Z2 Z3 Z4), (ib, MBox ry cy tb m cb), (ia, MBox rx cx ta n ca), (p1, BBox ry cy sb m kb), (p0, BBox rx cx sa n ka)] [fun W => ResM MT R C pv W X0 X1 X2 X3 X4, fun W => FlM W tz m ky ys, fun W => FlM W tx n kx xs, fun W => MT = 0 → ResM MT R C pv W Z0 Z1 Z2 Z3 Z4, fun W => FlM W tu q cu us, fun W => FlM W tb m cb ys, fun W => FlM W ta n ca xs]) := HQ3.out.add (kept_res _ _ _ _ _ _ _ _ _) hres
              clear hbq
              clear hres
              go_wp2_with fail
              have HQS : Hid (FrQ w t3 [(ih, MBox Z0 Z1 Z2 Z3 Z4), (ib, MBox ry cy tb m cb), (ia, MBox rx cx ta n ca), (p1, BBox ry cy sb m kb), (p0, BBox rx cx sa n ka)] [fun W => MT = 0 → ResM MT R C pv W Z0 Z1 Z2 Z3 Z4, fun W => FlM W tu q cu us, fun W => FlM W tb m cb ys, fun W => FlM W ta n ca xs]) := HQ3.out.sub (.cons_cons _ (.cons_cons _ (.cons_cons _ (.cons_cons _ (.cons_cons _ .slnil))))) (.cons _ (.cons _ (.cons _ (.cons_cons _ (.cons_cons _ (.cons_cons _ (.cons_cons _ .slnil)))))))
              refine hK.out _ _ (HKT.out _ HQS) (fun hHeld3 => ?_)
              clear hK K HQS
              try simp only [Act.put, List.setIfInBounds_toArray, List.set_cons_zero, List.set_cons_succ]
              refine take_at 5 38 (.tuple #[.agg #[.int .i64 X0, .int .i64 X1, .slice X2 X3 X4], .int .i64 MT]) rfl rfl (by kernel_rfl) (by kernel_rfl) (by kernel_rfl) (fun _ _ _ h => h) (Or.inl ⟨by rfl, fun w hSw => by (try dsimp only at hSw); go_simp⟩) (by assumption) ?_
              simp only [Act.put, List.setIfInBounds_toArray, List.set_cons_zero, List.set_cons_succ]
              refine take_at 6 44 (.agg #[.int .i64 X0, .int .i64 X1, .slice X2 X3 X4]) rfl rfl (by kernel_rfl) (by kernel_rfl) (by kernel_rfl) (fun _ _ _ h => h) (Or.inl ⟨by rfl, fun w hSw => by (try dsimp only at hSw); go_simp⟩) (by assumption) ?_
              simp only [Act.put, List.setIfInBounds_toArray, List.set_cons_zero, List.set_cons_succ]
              refine take_at 7 45 (.int .i64 MT) rfl rfl (by kernel_rfl) (by kernel_rfl) (by kernel_rfl) (fun _ _ _ h => h) (Or.inl ⟨by rfl, fun w hSw => by (try dsimp only at hSw); go_simp⟩) (by assumption) ?_
              simp only [Act.put, List.setIfInBounds_toArray, List.set_cons_zero, List.set_cons_succ]
              refine wpAnyH_ready (rs := [8]) (by kernel_rfl) (by simp) ?_
              refine AllReadyH.cons (o := _) rfl (fun K hK => ?_) AllReadyH.nil
              have HQ4 : Hid (FrQ w (t3.alloc (MBox 0 0 none 0 0)) [(t3.heap.size, MBox 0 0 none 0 0), (ih, MBox Z0 Z1 Z2 Z3 Z4), (ib, MBox ry cy tb m cb), (ia, MBox rx cx ta n ca), (p1, BBox ry cy sb m kb), (p0, BBox rx cx sa n ka)] [fun W => ResM MT R C pv W X0 X1 X2 X3 X4, fun W => FlM W tz m ky ys, fun W => FlM W tx n kx xs, fun W => MT = 0 → ResM MT R C pv W Z0 Z1 Z2 Z3 Z4, fun W => FlM W tu q cu us, fun W => FlM W tb m cb ys, fun W => FlM W ta n ca xs]) := HQ3.out.alloc _
              go_simp
              go_wp2_with fail
              have HQS : Hid (FrQ w (t3.alloc (MBox 0 0 none 0 0)) [(ih, MBox Z0 Z1 Z2 Z3 Z4), (ib, MBox ry cy tb m cb), (ia, MBox rx cx ta n ca), (p1, BBox ry cy sb m kb), (p0, BBox rx cx sa n ka)] [fun W => MT = 0 → ResM MT R C pv W Z0 Z1 Z2 Z3 Z4, fun W => FlM W tu q cu us, fun W => FlM W tb m cb ys, fun W => FlM W ta n ca xs]) := HQ4.out.sub (.cons _ (.cons_cons _ (.cons_cons _ (.cons_cons _ (.cons_cons _ (.cons_cons _ .slnil)))))) (.cons _ (.cons _ (.cons _ (.cons_cons _ (.cons_cons _ (.cons_cons _ (.cons_cons _ .slnil)))))))
              refine hK.out _ _ (HKT.out _ HQS) (fun hHeld4 => ?_)
              clear hK K HQS
              try simp only [Act.put, List.setIfInBounds_toArray, List.set_cons_zero, List.set_cons_succ]
              obtain ⟨t4, ht4⟩ : ∃ X, Hid (t3.alloc (MBox 0 0 none 0 0) = X) := ⟨_, rfl⟩
              obtain ⟨ig, hig⟩ : ∃ X, Hid (t3.heap.size = X) := ⟨_, rfl⟩
              rw [ht4.out, hig.out] at HQ4
              have hy1 : t3.alloc (.cells #[.int .i64 0, .int .i64 0, .slice none 0 0] 32) = t4 := ht4.out
              have hy2 := hig.out
              rw [hy1]
              rw [hy2]
              clear hy1 hy2
              refine wpAnyH_ready (rs := [9]) (by kernel_rfl) (by simp) ?_
              refine AllReadyH.cons (o := _) rfl (fun K hK => ?_) AllReadyH.nil
              obtain ⟨z0, z1, z2⟩ := mcells_of (HQ4.out.at 0 rfl : t4.heap[ig]? = some (MBox 0 0 none 0 0))
              have fz := frzM (HQ4.out.at 0 rfl : t4.heap[ig]? = some (MBox 0 0 none 0 0))
              have HQ5 : Hid (FrQ w (StoM t4 ig X0 X1 X2 X3 X4) [(ig, MBox X0 X1 X2 X3 X4), (ih, MBox Z0 Z1 Z2 Z3 Z4), (ib, MBox ry cy tb m cb), (ia, MBox rx cx ta n ca), (p1, BBox ry cy sb m kb), (p0, BBox rx cx sa n ka)] [fun W => ResM MT R C pv W X0 X1 X2 X3 X4, fun W => FlM W tz m ky ys, fun W => FlM W tx n kx xs, fun W => MT = 0 → ResM MT R C pv W Z0 Z1 Z2 Z3 Z4, fun W => FlM W tu q cu us, fun W => FlM W tb m cb ys, fun W => FlM W ta n ca xs]) := HQ4.out.sto 0 rfl
              obtain ⟨U5, hU5⟩ : ∃ X, Hid ((StoM t4 ig X0 X1 X2 X3 X4) = X) := ⟨_, rfl⟩
              rw [hU5.out] at HQ5
              have hU5' := hU5.out
              unfold StoM at hU5'
              go_simp
              go_wp2_with fail
              have HQS : Hid (FrQ w U5 [(ih, MBox Z0 Z1 Z2 Z3 Z4), (ib, MBox ry cy tb m cb), (ia, MBox rx cx ta n ca), (p1, BBox ry cy sb m kb), (p0, BBox rx cx sa n ka)] [fun W => MT = 0 → ResM MT R C pv W Z0 Z1 Z2 Z3 Z4, fun W => FlM W tu q cu us, fun W => FlM W tb m cb ys, fun W => FlM W ta n ca xs]) := HQ5.out.sub (.cons _ (.cons_cons _ (.cons_cons _ (.cons_cons _ (.cons_cons _ (.cons_cons _ .slnil)))))) (.cons _ (.cons _ (.cons _ (.cons_cons _ (.cons_cons _ (.cons_cons _ (.cons_cons _ .slnil)))))))
              refine hK.out _ _ (HKT.out _ HQS) (fun hHeld5 => ?_)
              clear hK K HQS
              try simp only [Act.put, List.setIfInBounds_toArray, List.set_cons_zero, List.set_cons_succ]
              clear z0 z1 z2 fz
              refine take_at 10 14 (.int .i64 MT) rfl rfl (by kernel_rfl) (by kernel_rfl) (by kernel_rfl) (fun _ _ _ h => h) (Or.inl ⟨by rfl, fun w hSw => by (try dsimp only at hSw); go_simp⟩) (by assumption) ?_
              simp only [Act.put, List.setIfInBounds_toArray, List.set_cons_zero, List.set_cons_succ]
              refine wpAnyH_done (by kernel_rfl) ?_ _
              exact HR.out _ _ ⟨tx, kx, tz, ky, X0, X1, X2, X3, X4, ig, rfl, HQ5.out⟩
            · have HQ3 : Hid (FrQ w (t2.alloc (MBox 0 0 none 0 0)) [(t2.heap.size, MBox 0 0 none 0 0), (ih, MBox Z0 Z1 Z2 Z3 Z4), (ib, MBox ry cy tb m cb), (ia, MBox rx cx ta n ca), (p1, BBox ry cy sb m kb), (p0, BBox rx cx sa n ka)] [fun W => FlM W tz m ky ys, fun W => FlM W tx n kx xs, fun W => MT = 0 → ResM MT R C pv W Z0 Z1 Z2 Z3 Z4, fun W => FlM W tu q cu us, fun W => FlM W tb m cb ys, fun W => FlM W ta n ca xs]) := HQ2.out.alloc _
              go_simp
              go_wp2_with fail
              have HQS : Hid (FrQ w (t2.alloc (MBox 0 0 none 0 0)) [(ih, MBox Z0 Z1 Z2 Z3 Z4), (ib, MBox ry cy tb m cb), (ia, MBox rx cx ta n ca), (p1, BBox ry cy sb m kb), (p0, BBox rx cx sa n ka)] [fun W => MT = 0 → ResM MT R C pv W Z0 Z1 Z2 Z3 Z4, fun W => FlM W tu q cu us, fun W => FlM W tb m cb ys, fun W => FlM W ta n ca xs]) := HQ3.out.sub (.cons _ (.cons_cons _ (.cons_cons _ (.cons_cons _ (.cons_cons _ (.cons_cons _ .slnil)))))) (.cons _ (.cons _ (.cons_cons _ (.cons_cons _ (.cons_cons _ (.cons_cons _ .slnil))))))
              refine hK.out _ _ (HKT.out _ HQS) (fun hHeld3 => ?_)
              clear hK K HQS
              try simp only [Act.put, List.setIfInBounds_toArray, List.set_cons_zero, List.set_cons_succ]
              obtain ⟨t3, ht3⟩ : ∃ X, Hid (t2.alloc (MBox 0 0 none 0 0) = X) := ⟨_, rfl⟩
              obtain ⟨ig, hig⟩ : ∃ X, Hid (t2.heap.size = X) := ⟨_, rfl⟩
              rw [ht3.out, hig.out] at HQ3
              have hy1 : t2.alloc (.cells #[.int .i64 0, .int .i64 0, .slice none 0 0] 32) = t3 := ht3.out
              have hy2 := hig.out
              rw [hy1]
              rw [hy2]
              clear hy1 hy2
              refine wpAnyH_ready (rs := [4]) (by kernel_rfl) (by simp) ?_
              refine AllReadyH.cons (o := _) rfl (fun K hK => ?_) AllReadyH.nil
              go_simp
              refine (HPM.out _ _ _ _ _ (HQ3.out.get (g := fun W => FlM W tx n kx xs) 1 rfl) (HQ3.out.get (g := fun W => FlM W tz m ky ys) 0 rfl)).mono ?_
              rintro e t4 ⟨⟨X0, X1, X2, X3, X4, rfl, hres⟩, hbq⟩
              have HQ4 : Hid (FrQ w t4 [(ig, MBox 0 0 none 0 0), (ih, MBox Z0 Z1 Z2 Z3 Z4), (ib, MBox ry cy tb m cb), (ia, MBox rx cx ta n ca), (p1, BBox ry cy sb m kb), (p0, BBox rx cx sa n ka)] [fun W => FlM W tz m ky ys, fun W => FlM W tx n kx xs, fun W => MT = 0 → ResM MT R C pv W Z0 Z1 Z2 Z3 Z4, fun W => FlM W tu q cu us, fun W => FlM W tb m cb ys, fun W => FlM W ta n ca xs]) := HQ3.out.call hbq
              have HQ4 : Hid (FrQ w t4 [(ig, MBox 0 0 none 0 0), (ih, MBox Z0 Z1 Z2 Z3 Z4), (ib, MBox ry cy tb m cb), (ia, MBox rx cx ta n ca), (p1, BBox ry cy sb m kb), (p0, BBox rx cx sa n ka)] [fun W => ResM MT R C pv W X0 X1 X2 X3 X4, fun W => FlM W tz m ky ys, fun W => FlM W tx n kx xs, fun W => MT = 0 → ResM MT R C pv W Z0 Z1 Z2 Z3 Z4, fun W => FlM W tu q cu us, fun W => FlM W tb m cb ys, fun W => FlM W ta n ca xs]) := HQ4.out.add (kept_res _ _ _ _ _ _ _ _ _) hres
              clear hbq
              clear hres
              go_wp2_with fail
              have HQS : Hid (FrQ w t4 [(ih, MBox Z0 Z1 Z2 Z3 Z4), (ib, MBox ry cy tb m cb), (ia, MBox rx cx ta n ca), (p1, BBox ry cy sb m kb), (p0, BBox rx cx sa n ka)] [fun W => MT = 0 → ResM MT R C pv W Z0 Z1 Z2 Z3 Z4, fun W => FlM W tu q cu us, fun W => FlM W tb m cb ys, fun W => FlM W ta n ca xs]) := HQ4.out.sub (.cons _ (.cons_cons _ (.cons_cons _ (.cons_cons _ (.cons_cons _ (.cons_cons _ .slnil)))))) (.cons _ (.cons _ (.cons _ (.cons_cons _ (.cons_cons _ (.cons_cons _ (.cons_cons _ .slnil)))))))
              refine hK.out _ _ (HKT.out _ HQS) (fun hHeld4 => ?_)
              clear hK K HQS
              try simp only [Act.put, List.setIfInBounds_toArray, List.set_cons_zero, List.set_cons_succ]
              refine take_at 5 38 (.tuple #[.agg #[.int .i64 X0, .int .i64 X1, .slice X2 X3 X4], .int .i64 MT]) rfl rfl (by kernel_rfl) (by kernel_rfl) (by kernel_rfl) (fun _ _ _ h => h) (Or.inl ⟨by rfl, fun w hSw => by (try dsimp only at hSw); go_simp⟩) (by assumption) ?_
              simp only [Act.put, List.setIfInBounds_toArray, List.set_cons_zero, List.set_cons_succ]
              refine take_at 6 44 (.agg #[.int .i64 X0, .int .i64 X1, .slice X2 X3 X4]) rfl rfl (by kernel_rfl) (by kernel_rfl) (by kernel_rfl) (fun _ _ _ h => h) (Or.inl ⟨by rfl, fun w hSw => by (try dsimp only at hSw); go_simp⟩) (by assumption) ?_
              simp only [Act.put, List.setIfInBounds_toArray, List.set_cons_zero, List.set_cons_succ]
              refine take_at 7 45 (.int .i64 MT) rfl rfl (by kernel_rfl) (by kernel_rfl) (by kernel_rfl) (fun _ _ _ h => h) (Or.inl ⟨by rfl, fun w hSw => by (try dsimp only at hSw); go_simp⟩) (by assumption) ?_
              simp only [Act.put, List.setIfInBounds_toArray, List.set_cons_zero, List.set_cons_succ]
              refine wpAnyH_ready (rs := [9]) (by kernel_rfl) (by simp) ?_
              refine AllReadyH.cons (o := _) rfl (fun K hK => ?_) AllReadyH.nil
              obtain ⟨z0, z1, z2⟩ := mcells_of (HQ4.out.at 0 rfl : t4.heap[ig]? = some (MBox 0 0 none 0 0))
              have fz := frzM (HQ4.out.at 0 rfl : t4.heap[ig]? = some (MBox 0 0 none 0 0))
              have HQ5 : Hid (FrQ w (StoM t4 ig X0 X1 X2 X3 X4) [(ig, MBox X0 X1 X2 X3 X4), (ih, MBox Z0 Z1 Z2 Z3 Z4), (ib, MBox ry cy tb m cb), (ia, MBox rx cx ta n ca), (p1, BBox ry cy sb m kb), (p0, BBox rx cx sa n ka)] [fun W => ResM MT R C pv W X0 X1 X2 X3 X4, fun W => FlM W tz m ky ys, fun W => FlM W tx n kx xs, fun W => MT = 0 → ResM MT R C pv W Z0 Z1 Z2 Z3 Z4, fun W => FlM W tu q cu us, fun W => FlM W tb m cb ys, fun W => FlM W ta n ca xs]) := HQ4.out.sto 0 rfl
              obtain ⟨U5, hU5⟩ : ∃ X, Hid ((StoM t4 ig X0 X1 X2 X3 X4) = X) := ⟨_, rfl⟩
              rw [hU5.out] at HQ5
              have hU5' := hU5.out
              unfold StoM at hU5'
              go_simp
              go_wp2_with fail
              have HQS : Hid (FrQ w U5 [(ih, MBox Z0 Z1 Z2 Z3 Z4), (ib, MBox ry cy tb m cb), (ia, MBox rx cx ta n ca), (p1, BBox ry cy sb m kb), (p0, BBox rx cx sa n ka)] [fun W => MT = 0 → ResM MT R C pv W Z0 Z1 Z2 Z3 Z4, fun W => FlM W tu q cu us, fun W => FlM W tb m cb ys, fun W => FlM W ta n ca xs]) := HQ5.out.sub (.cons _ (.cons_cons _ (.cons_cons _ (.cons_cons _ (.cons_cons _ (.cons_cons _ .slnil)))))) (.cons _ (.cons _ (.cons _ (.cons_cons _ (.cons_cons _ (.cons_cons _ (.cons_cons _ .slnil)))))))
              refine hK.out _ _ (HKT.out _ HQS) (fun hHeld5 => ?_)
              clear hK K HQS
              try simp only [Act.put, List.setIfInBounds_toArray, List.set_cons_zero, List.set_cons_succ]
              clear z0 z1 z2 fz
              refine take_at 10 14 (.int .i64 MT) rfl rfl (by kernel_rfl) (by kernel_rfl) (by kernel_rfl) (fun _ _ _ h => h) (Or.inl ⟨by rfl, fun w hSw => by (try dsimp only at hSw); go_simp⟩) (by assumption) ?_
              simp only [Act.put, List.setIfInBounds_toArray, List.set_cons_zero, List.set_cons_succ]
              refine wpAnyH_done (by kernel_rfl) ?_ _
              exact HR.out _ _ ⟨tx, kx, tz, ky, X0, X1, X2, X3, X4, ig, rfl, HQ5.out⟩
          · have HQ2 : Hid (FrQ w (t1.alloc (MBox 0 0 none 0 0)) [(t1.heap.size, MBox 0 0 none 0 0), (ih, MBox Z0 Z1 Z2 Z3 Z4), (ib, MBox ry cy tb m cb), (ia, MBox rx cx ta n ca), (p1, BBox ry cy sb m kb), (p0, BBox rx cx sa n ka)] [fun W => FlM W tx n kx xs, fun W => MT = 0 → ResM MT R C pv W Z0 Z1 Z2 Z3 Z4, fun W => FlM W tu q cu us, fun W => FlM W tb m cb ys, fun W => FlM W ta n ca xs]) := HQ1.out.alloc _
            go_simp
            go_wp2_with fail
            have HQS : Hid (FrQ w (t1.alloc (MBox 0 0 none 0 0)) [(ih, MBox Z0 Z1 Z2 Z3 Z4), (ib, MBox ry cy tb m cb), (ia, MBox rx cx ta n ca), (p1, BBox ry cy sb m kb), (p0, BBox rx cx sa n ka)] [fun W => MT = 0 → ResM MT R C pv W Z0 Z1 Z2 Z3 Z4, fun W => FlM W tu q cu us, fun W => FlM W tb m cb ys, fun W => FlM W ta n ca xs]) := HQ2.out.sub (.cons _ (.cons_cons _ (.cons_cons _ (.cons_cons _ (.cons_cons _ (.cons_cons _ .slnil)))))) (.cons _ (.cons_cons _ (.cons_cons _ (.cons_cons _ (.cons_cons _ .slnil)))))
            refine hK.out _ _ (HKT.out _ HQS) (fun hHeld2 => ?_)
            clear hK K HQS
            try simp only [Act.put, List.setIfInBounds_toArray, List.set_cons_zero, List.set_cons_succ]
            obtain ⟨t2, ht2⟩ : ∃ X, Hid (t1.alloc (MBox 0 0 none 0 0) = X) := ⟨_, rfl⟩
            obtain ⟨ig, hig⟩ : ∃ X, Hid (t1.heap.size = X) := ⟨_, rfl⟩
            rw [ht2.out, hig.out] at HQ2
            have hy1 : t1.alloc (.cells #[.int .i64 0, .int .i64 0, .slice none 0 0] 32) = t2 := ht2.out
            have hy2 := hig.out
            rw [hy1]
            rw [hy2]
            clear hy1 hy2
            refine wpAnyH_ready (rs := [3]) (by kernel_rfl) (by simp) ?_
            refine AllReadyH.cons (o := _) rfl (fun K hK => ?_) AllReadyH.nil
            go_simp
            refine (HOY.out _ HQ2.out.bel).mono ?_
            rintro e t3 ⟨⟨tz, ky, rfl, hf⟩, hbq⟩
            have HQ3 : Hid (FrQ w t3 [(ig, MBox 0 0 none 0 0), (ih, MBox Z0 Z1 Z2 Z3 Z4), (ib, MBox ry cy tb m cb), (ia, MBox rx cx ta n ca), (p1, BBox ry cy sb m kb), (p0, BBox rx cx sa n ka)] [fun W => FlM W tx n kx xs, fun W => MT = 0 → ResM MT R C pv W Z0 Z1 Z2 Z3 Z4, fun W => FlM W tu q cu us, fun W => FlM W tb m cb ys, fun W => FlM W ta n ca xs]) := HQ2.out.call hbq
            have HQ3 : Hid (FrQ w t3 [(ig, MBox 0 0 none 0 0), (ih, MBox Z0 Z1 Z2 Z3 Z4), (ib, MBox ry cy tb m cb), (ia, MBox rx cx ta n ca), (p1, BBox ry cy sb m kb), (p0, BBox rx cx sa n ka)] [fun W => FlM W tz m ky ys, fun W => FlM W tx n kx xs, fun W => MT = 0 → ResM MT R C pv W Z0 Z1 Z2 Z3 Z4, fun W => FlM W tu q cu us, fun W => FlM W tb m cb ys, fun W => FlM W ta n ca xs]) := HQ3.out.add (kept_fl _ _ _ _) hf
            clear hbq
            unfold MV
            go_wp2_with fail
            have HQS : Hid (FrQ w t3 [(ih, MBox Z0 Z1 Z2 Z3 Z4), (ib, MBox ry cy tb m cb), (ia, MBox rx cx ta n ca), (p1, BBox ry cy sb m kb), (p0, BBox rx cx sa n ka)] [fun W => MT = 0 → ResM MT R C pv W Z0 Z1 Z2 Z3 Z4, fun W => FlM W tu q cu us, fun W => FlM W tb m cb ys, fun W => FlM W ta n ca xs]) := HQ3.out.sub (.cons _ (.cons_cons _ (.cons_cons _ (.cons_cons _ (.cons_cons _ (.cons_cons _ .slnil)))))) (.cons _ (.cons _ (.cons_cons _ (.cons_cons _ (.cons_cons _ (.cons_cons _ .slnil))))))
            refine hK.out _ _ (HKT.out _ HQS) (fun hHeld3 => ?_)
            clear hK K HQS
            try simp only [Act.put, List.setIfInBounds_toArray, List.set_cons_zero, List.set_cons_succ]
            refine wpAnyH_ready (rs := [4]) (by kernel_rfl) (by simp) ?_
            refine AllReadyH.cons (o := _) rfl (fun K hK => ?_) AllReadyH.nil
            go_simp
            refine (HPM.out _ _ _ _ _ (HQ3.out.get (g := fun W => FlM W tx n kx xs) 1 rfl) (HQ3.out.get (g := fun W => FlM W tz m ky ys) 0 rfl)).mono ?_
            rintro e t4 ⟨⟨X0, X1, X2, X3, X4, rfl, hres⟩, hbq⟩
            have HQ4 : Hid (FrQ w t4 [(ig, MBox 0 0 none 0 0), (ih, MBox Z0 Z1 Z2 Z3 Z4), (ib, MBox ry cy tb m cb), (ia, MBox rx cx ta n ca), (p1, BBox ry cy sb m kb), (p0, BBox rx cx sa n ka)] [fun W => FlM W tz m ky ys, fun W => FlM W tx n kx xs, fun W => MT = 0 → ResM MT R C pv W Z0 Z1 Z2 Z3 Z4, fun W => FlM W tu q cu us, fun W => FlM W tb m cb ys, fun W => FlM W ta n ca xs]) := HQ3.out.call hbq
            have HQ4 : Hid (FrQ w t4 [(ig, MBox 0 0 none 0 0), (ih, MBox Z0 Z1 Z2 Z3 Z4), (ib, MBox ry cy tb m cb), (ia, MBox rx cx ta n ca), (p1, BBox ry cy sb m kb), (p0, BBox rx cx sa n ka)] [fun W => ResM MT R C pv W X0 X1 X2 X3 X4, fun W => FlM W tz m ky ys, fun W => FlM W tx n kx xs, fun W => MT = 0 → ResM MT R C pv W Z0 Z1 Z2 Z3 Z4, fun W => FlM W tu q cu us, fun W => FlM W tb m cb ys, fun W => FlM W ta n ca xs]) := HQ4.out.add (kept_res _ _ _ _ _ _ _ _ _) hres
            clear hbq
            clear hres
            go_wp2_with fail
            have HQS : Hid (FrQ w t4 [(ih, MBox Z0 Z1 Z2 Z3 Z4), (ib, MBox ry cy tb m cb), (ia, MBox rx cx ta n ca), (p1, BBox ry cy sb m kb), (p0, BBox rx cx sa n ka)] [fun W => MT = 0 → ResM MT R C pv W Z0 Z1 Z2 Z3 Z4, fun W => FlM W tu q cu us, fun W => FlM W tb m cb ys, fun W => FlM W ta n ca xs]) := HQ4.out.sub (.cons _ (.cons_cons _ (.cons_cons _ (.cons_cons _ (.cons_cons _ (.cons_cons _ .slnil)))))) (.cons _ (.cons _ (.cons _ (.cons_cons _ (.cons_cons _ (.cons_cons _ (.cons_cons _ .slnil)))))))
            refine hK.out _ _ (HKT.out _ HQS) (fun hHeld4 => ?_)
            clear hK K HQS
            try simp only [Act.put, List.setIfInBounds_toArray, List.set_cons_zero, List.set_cons_succ]
            refine take_at 5 38 (.tuple #[.agg #[.int .i64 X0, .int .i64 X1, .slice X2 X3 X4], .int .i64 MT]) rfl rfl (by kernel_rfl) (by kernel_rfl) (by kernel_rfl) (fun _ _ _ h => h) (Or.inl ⟨by rfl, fun w hSw => by (try dsimp only at hSw); go_simp⟩) (by assumption) ?_
            simp only [Act.put, List.setIfInBounds_toArray, List.set_cons_zero, List.set_cons_succ]
            refine take_at 6 44 (.agg #[.int .i64 X0, .int .i64 X1, .slice X2 X3 X4]) rfl rfl (by kernel_rfl) (by kernel_rfl) (by kernel_rfl) (fun _ _ _ h => h) (Or.inl ⟨by rfl, fun w hSw => by (try dsimp only at hSw); go_simp⟩) (by assumption) ?_
            simp only [Act.put, List.setIfInBounds_toArray, List.set_cons_zero, List.set_cons_succ]
            refine take_at 7 45 (.int .i64 MT) rfl rfl (by kernel_rfl) (by kernel_rfl) (by kernel_rfl) (fun _ _ _ h => h) (Or.inl ⟨by rfl, fun w hSw => by (try dsimp only at hSw); go_simp⟩) (by assumption) ?_
            simp only [Act.put, List.setIfInBounds_toArray, List.set_cons_zero, List.set_cons_succ]
            refine wpAnyH_ready (rs := [9]) (by kernel_rfl) (by simp) ?_
            refine AllReadyH.cons (o := _) rfl (fun K hK => ?_) AllReadyH.nil
            obtain ⟨z0, z1, z2⟩ := mcells_of (HQ4.out.at 0 rfl : t4.heap[ig]? = some (MBox 0 0 none 0 0))
            have fz := frzM (HQ4.out.at 0 rfl : t4.heap[ig]? = some (MBox 0 0 none 0 0))
            have HQ5 : Hid (FrQ w (StoM t4 ig X0 X1 X2 X3 X4) [(ig, MBox X0 X1 X2 X3 X4), (ih, MBox Z0 Z1 Z2 Z3 Z4), (ib, MBox ry cy tb m cb), (ia, MBox rx cx ta n ca), (p1, BBox ry cy sb m kb), (p0, BBox rx cx sa n ka)] [fun W => ResM MT R C pv W X0 X1 X2 X3 X4, fun W => FlM W tz m ky ys, fun W => FlM W tx n kx xs, fun W => MT = 0 → ResM MT R C pv W Z0 Z1 Z2 Z3 Z4, fun W => FlM W tu q cu us, fun W => FlM W tb m cb ys, fun W => FlM W ta n ca xs]) := HQ4.out.sto 0 rfl
            obtain ⟨U5, hU5⟩ : ∃ X, Hid ((StoM t4 ig X0 X1 X2 X3 X4) = X) := ⟨_, rfl⟩
            rw [hU5.out] at HQ5
            have hU5' := hU5.out
            unfold StoM at hU5'
            go_simp
            go_wp2_with fail
            have HQS : Hid (FrQ w U5 [(ih, MBox Z0 Z1 Z2 Z3 Z4), (ib, MBox ry cy tb m cb), (ia, MBox rx cx ta n ca), (p1, BBox ry cy sb m kb), (p0, BBox rx cx sa n ka)] [fun W => MT = 0 → ResM MT R C pv W Z0 Z1 Z2 Z3 Z4, fun W => FlM W tu q cu us, fun W => FlM W tb m cb ys, fun W => FlM W ta n ca xs]) := HQ5.out.sub (.cons _ (.cons_cons _ (.cons_cons _ (.cons_cons _ (.cons_cons _ (.cons_cons _ .slnil)))))) (.cons _ (.cons _ (.cons _ (.cons_cons _ (.cons_cons _ (.cons_cons _ (.cons_cons _ .slnil)))))))
            refine hK.out _ _ (HKT.out _ HQS) (fun hHeld5 => ?_)
            clear hK K HQS
            try simp only [Act.put, List.setIfInBounds_toArray, List.set_cons_zero, List.set_cons_succ]
            clear z0 z1 z2 fz
            refine take_at 10 14 (.int .i64 MT) rfl rfl (by kernel_rfl) (by kernel_rfl) (by kernel_rfl) (fun _ _ _ h => h) (Or.inl ⟨by rfl, fun w hSw => by (try dsimp only at hSw); go_simp⟩) (by assumption) ?_
            simp only [Act.put, List.setIfInBounds_toArray, List.set_cons_zero, List.set_cons_succ]
            refine wpAnyH_done (by kernel_rfl) ?_ _
            exact HR.out _ _ ⟨tx, kx, tz, ky, X0, X1, X2, X3, X4, ig, rfl, HQ5.out⟩
        · have HQ1 : Hid (FrQ w (wc.drew.alloc (MBox 0 0 none 0 0)) [(wc.drew.heap.size, MBox 0 0 none 0 0), (ih, MBox Z0 Z1 Z2 Z3 Z4), (ib, MBox ry cy tb m cb), (ia, MBox rx cx ta n ca), (p1, BBox ry cy sb m kb), (p0, BBox rx cx sa n ka)] [fun W => MT = 0 → ResM MT R C pv W Z0 Z1 Z2 Z3 Z4, fun W => FlM W tu q cu us, fun W => FlM W tb m cb ys, fun W => FlM W ta n ca xs]) := HQ0.out.alloc _
          go_simp
          go_wp2_with fail
          have HQS : Hid (FrQ w (wc.drew.alloc (MBox 0 0 none 0 0)) [(ih, MBox Z0 Z1 Z2 Z3 Z4), (ib, MBox ry cy tb m cb), (ia, MBox rx cx ta n ca), (p1, BBox ry cy sb m kb), (p0, BBox rx cx sa n ka)] [fun W => MT = 0 → ResM MT R C pv W Z0 Z1 Z2 Z3 Z4, fun W => FlM W tu q cu us, fun W => FlM W tb m cb ys, fun W => FlM W ta n ca xs]) := HQ1.out.sub (.cons _ (.cons_cons _ (.cons_cons _ (.cons_cons _ (.cons_cons _ (.cons_cons _ .slnil)))))) (.cons_cons _ (.cons_cons _ (.cons_cons _ (.cons_cons _ .slnil))))
          refine hK.out _ _ (HKT.out _ HQS) (fun hHeld1 => ?_)
          clear hK K HQS
          try simp only [Act.put, List.setIfInBounds_toArray, List.set_cons_zero, List.set_cons_succ]
          obtain ⟨t1, ht1⟩ : ∃ X, Hid (wc.drew.alloc (MBox 0 0 none 0 0) = X) := ⟨_, rfl⟩
          obtain ⟨ig, hig⟩ : ∃ X, Hid (wc.drew.heap.size = X) := ⟨_, rfl⟩
          rw [ht1.out, hig.out] at HQ1
          have hy1 : (wc.alloc (.cells #[.int .i64 0, .int .i64 0, .slice none 0 0] 32)).drew = t1 := ht1.out
          have hy2 : wc.heap.size = ig := hig.out
          rw [hy1]
          rw [hy2]
          clear hy1 hy2
          refine wpAnyH_ready (rs := [1]) (by kernel_rfl) (by simp) ?_
          refine AllReadyH.cons (o := _) rfl (fun K hK => ?_) AllReadyH.nil
          go_simp
          refine (HOX.out _ HQ1.out.bel).mono ?_
          rintro e t2 ⟨⟨tx, kx, rfl, hf⟩, hbq⟩
          have HQ2 : Hid (FrQ w t2 [(ig, MBox 0 0 none 0 0), (ih, MBox Z0 Z1 Z2 Z3 Z4), (ib, MBox ry cy tb m cb), (ia, MBox rx cx ta n ca), (p1, BBox ry cy sb m kb), (p0, BBox rx cx sa n ka)] [fun W => MT = 0 → ResM MT R C pv W Z0 Z1 Z2 Z3 Z4, fun W => FlM W tu q cu us, fun W => FlM W tb m cb ys, fun W => FlM W ta n ca xs]) := HQ1.out.call hbq
          have HQ2 : Hid (FrQ w t2 [(ig, MBox 0 0 none 0 0), (ih, MBox Z0 Z1 Z2 Z3 Z4), (ib, MBox ry cy tb m cb), (ia, MBox rx cx ta n ca), (p1, BBox ry cy sb m kb), (p0, BBox rx cx sa n ka)] [fun W => FlM W tx n kx xs, fun W => MT = 0 → ResM MT R C pv W Z0 Z1 Z2 Z3 Z4, fun W => FlM W tu q cu us, fun W => FlM W tb m cb ys, fun W => FlM W ta n ca xs]) := HQ2.out.add (kept_fl _ _ _ _) hf
          clear hbq
          unfold MV
          go_wp2_with fail
          have HQS : Hid (FrQ w t2 [(ih, MBox Z0 Z1 Z2 Z3 Z4), (ib, MBox ry cy tb m cb), (ia, MBox rx cx ta n ca), (p1, BBox ry cy sb m kb), (p0, BBox rx cx sa n ka)] [fun W => MT = 0 → ResM MT R C pv W Z0 Z1 Z2 Z3 Z4, fun W => FlM W tu q cu us, fun W => FlM W tb m cb ys, fun W => FlM W ta n ca xs]) := HQ2.out.sub (.cons _ (.cons_cons _ (.cons_cons _ (.cons_cons _ (.cons_cons _ (.cons_cons _ .slnil)))))) (.cons _ (.cons_cons _ (.cons_cons _ (.cons_cons _ (.cons_cons _ .slnil)))))
          refine hK.out _ _ (HKT.out _ HQS) (fun hHeld2 => ?_)
          clear hK K HQS
          try simp only [Act.put, List.setIfInBounds_toArray, List.set_cons_zero, List.set_cons_succ]
          refine wpAnyH_ready (rs := [3]) (by kernel_rfl) (by simp) ?_
          refine AllReadyH.cons (o := _) rfl (fun K hK => ?_) AllReadyH.nil
          go_simp
          refine (HOY.out _ HQ2.out.bel).mono ?_
          rintro e t3 ⟨⟨tz, ky, rfl, hf⟩, hbq⟩
          have HQ3 : Hid (FrQ w t3 [(ig, MBox 0 0 none 0 0), (ih, MBox Z0 Z1 Z2 Z3 Z4), (ib, MBox ry cy tb m cb), (ia, MBox rx cx ta n ca), (p1, BBox ry cy sb m kb), (p0, BBox rx cx sa n ka)] [fun W => FlM W tx n kx xs, fun W => MT = 0 → ResM MT R C pv W Z0 Z1 Z2 Z3 Z4, fun W => FlM W tu q cu us, fun W => FlM W tb m cb ys, fun W => FlM W ta n ca xs]) := HQ2.out.call hbq
          have HQ3 : Hid (FrQ w t3 [(ig, MBox 0 0 none 0 0), (ih, MBox Z0 Z1 Z2 Z3 Z4), (ib, MBox ry cy tb m cb), (ia, MBox rx cx ta n ca), (p1, BBox ry cy sb m kb), (p0, BBox rx cx sa n ka)] [fun W => FlM W tz m ky ys, fun W => FlM W tx n kx xs, fun W => MT = 0 → ResM MT R C pv W Z0 Z1 Z2 Z3 Z4, fun W => FlM W tu q cu us, fun W => FlM W tb m cb ys, fun W => FlM W ta n ca xs]) := HQ3.out.add (kept_fl _ _ _ _) hf
          clear hbq
          unfold MV
          go_wp2_with fail
          have HQS : Hid (FrQ w t3 [(ih, MBox Z0 Z1 Z2 Z3 Z4), (ib, MBox ry cy tb m cb), (ia, MBox rx cx ta n ca), (p1, BBox ry cy sb m kb), (p0, BBox rx cx sa n ka)] [fun W => MT = 0 → ResM MT R C pv W Z0 Z1 Z2 Z3 Z4, fun W => FlM W tu q cu us, fun W => FlM W tb m cb ys, fun W => FlM W ta n ca xs]) := HQ3.out.sub (.cons _ (.cons_cons _ (.cons_cons _ (.cons_cons _ (.cons_cons _ (.cons_cons _ .slnil)))))) (.cons _ (.cons _ (.cons_cons _ (.cons_cons _ (.cons_cons _ (.cons_cons _ .slnil))))))
          refine hK.out _ _ (HKT.out _ HQS) (fun hHeld3 => ?_)
          clear hK K HQS
          try simp only [Act.put, List.setIfInBounds_toArray, List.set_cons_zero, List.set_cons_succ]
          refine wpAnyH_ready (rs := [4]) (by kernel_rfl) (by simp) ?_
          refine AllReadyH.cons (o := _) rfl (fun K hK => ?_) AllReadyH.nil
          go_simp
          refine (HPM.out _ _ _ _ _ (HQ3.out.get (g := fun W => FlM W tx n kx xs) 1 rfl) (HQ3.out.get (g := fun W => FlM W tz m ky ys) 0 rfl)).mono ?_
          rintro e t4 ⟨⟨X0, X1, X2, X3, X4, rfl, hres⟩, hbq⟩
          have HQ4 : Hid (FrQ w t4 [(ig, MBox 0 0 none 0 0), (ih, MBox Z0 Z1 Z2 Z3 Z4), (ib, MBox ry cy tb m cb), (ia, MBox rx cx ta n ca), (p1, BBox ry cy sb m kb), (p0, BBox rx cx sa n ka)] [fun W => FlM W tz m ky ys, fun W => FlM W tx n kx xs, fun W => MT = 0 → ResM MT R C pv W Z0 Z1 Z2 Z3 Z4, fun W => FlM W tu q cu us, fun W => FlM W tb m cb ys, fun W => FlM W ta n ca xs]) := HQ3.out.call hbq
          have HQ4 : Hid (FrQ w t4 [(ig, MBox 0 0 none 0 0), (ih, MBox Z0 Z1 Z2 Z3 Z4), (ib, MBox ry cy tb m cb), (ia, MBox rx cx ta n ca), (p1, BBox ry cy sb m kb), (p0, BBox rx cx sa n ka)] [fun W => ResM MT R C pv W X0 X1 X2 X3 X4, fun W => FlM W tz m ky ys, fun W => FlM W tx n kx xs, fun W => MT = 0 → ResM MT R C pv W Z0 Z1 Z2 Z3 Z4, fun W => FlM W tu q cu us, fun W => FlM W tb m cb ys, fun W => FlM W ta n ca xs]) := HQ4.out.add (kept_res _ _ _ _ _ _ _ _ _) hres
          clear hbq
          clear hres
          go_wp2_with fail
          have HQS : Hid (FrQ w t4 [(ih, MBox Z0 Z1 Z2 Z3 Z4), (ib, MBox ry cy tb m cb), (ia, MBox rx cx ta n ca), (p1, BBox ry cy sb m kb), (p0, BBox rx cx sa n ka)] [fun W => MT = 0 → ResM MT R C pv W Z0 Z1 Z2 Z3 Z4, fun W => FlM W tu q cu us, fun W => FlM W tb m cb ys, fun W => FlM W ta n ca xs]) := HQ4.out.sub (.cons _ (.cons_cons _ (.cons_cons _ (.cons_cons _ (.cons_cons _ (.cons_cons _ .slnil)))))) (.cons _ (.cons _ (.cons _ (.cons_cons _ (.cons_cons _ (.cons_cons _ (.cons_cons _ .slnil)))))))
          refine hK.out _ _ (HKT.out _ HQS) (fun hHeld4 => ?_)
          clear hK K HQS
          try simp only [Act.put, List.setIfInBounds_toArray, List.set_cons_zero, List.set_cons_succ]
          refine take_at 5 38 (.tuple #[.agg #[.int .i64 X0, .int .i64 X1, .slice X2 X3 X4], .int .i64 MT]) rfl rfl (by kernel_rfl) (by kernel_rfl) (by kernel_rfl) (fun _ _ _ h => h) (Or.inl ⟨by rfl, fun w hSw => by (try dsimp only at hSw); go_simp⟩) (by assumption) ?_
          simp only [Act.put, List.setIfInBounds_toArray, List.set_cons_zero, List.set_cons_succ]
          refine take_at 6 44 (.agg #[.int .i64 X0, .int .i64 X1, .slice X2 X3 X4]) rfl rfl (by kernel_rfl) (by kernel_rfl) (by kernel_rfl) (fun _ _ _ h => h) (Or.inl ⟨by rfl, fun w hSw => by (try dsimp only at hSw); go_simp⟩) (by assumption) ?_
          simp only [Act.put, List.setIfInBounds_toArray, List.set_cons_zero, List.set_cons_succ]
          refine take_at 7 45 (.int .i64 MT) rfl rfl (by kernel_rfl) (by kernel_rfl) (by kernel_rfl) (fun _ _ _ h => h) (Or.inl ⟨by rfl, fun w hSw => by (try dsimp only at hSw); go_simp⟩) (by assumption) ?_
          simp only [Act.put, List.setIfInBounds_toArray, List.set_cons_zero, List.set_cons_succ]
          refine wpAnyH_ready (rs := [9]) (by kernel_rfl) (by simp) ?_
          refine AllReadyH.cons (o := _) rfl (fun K hK => ?_) AllReadyH.nil
          obtain ⟨z0, z1, z2⟩ := mcells_of (HQ4.out.at 0 rfl : t4.heap[ig]? = some (MBox 0 0 none 0 0))
          have fz := frzM (HQ4.out.at 0 rfl : t4.heap[ig]? = some (MBox 0 0 none 0 0))
          have HQ5 : Hid (FrQ w (StoM t4 ig X0 X1 X2 X3 X4) [(ig, MBox X0 X1 X2 X3 X4), (ih, MBox Z0 Z1 Z2 Z3 Z4), (ib, MBox ry cy tb m cb), (ia, MBox rx cx ta n ca), (p1, BBox ry cy sb m kb), (p0, BBox rx cx sa n ka)] [fun W => ResM MT R C pv W X0 X1 X2 X3 X4, fun W => FlM W tz m ky ys, fun W => FlM W tx n kx xs, fun W => MT = 0 → ResM MT R C pv W Z0 Z1 Z2 Z3 Z4, fun W => FlM W tu q cu us, fun W => FlM W tb m cb ys, fun W => FlM W ta n ca xs]) := HQ4.out.sto 0 rfl
          obtain ⟨U5, hU5⟩ : ∃ X, Hid ((StoM t4 ig X0 X1 X2 X3 X4) = X) := ⟨_, rfl⟩
          rw [hU5.out] at HQ5
          have hU5' := hU5.out
          unfold StoM at hU5'
          go_simp
          go_wp2_with fail
          have HQS : Hid (FrQ w U5 [(ih, MBox Z0 Z1 Z2 Z3 Z4), (ib, MBox ry cy tb m cb), (ia, MBox rx cx ta n ca), (p1, BBox ry cy sb m kb), (p0, BBox rx cx sa n ka)] [fun W => MT = 0 → ResM MT R C pv W Z0 Z1 Z2 Z3 Z4, fun W => FlM W tu q cu us, fun W => FlM W tb m cb ys, fun W => FlM W ta n ca xs]) := HQ5.out.sub (.cons _ (.cons_cons _ (.cons_cons _ (.cons_cons _ (.cons_cons _ (.cons_cons _ .slnil)))))) (.cons _ (.cons _ (.cons _ (.cons_cons _ (.cons_cons _ (.cons_cons _ (.cons_cons _ .slnil)))))))
          refine hK.out _ _ (HKT.out _ HQS) (fun hHeld5 => ?_)
          clear hK K HQS
          try simp only [Act.put, List.setIfInBounds_toArray, List.set_cons_zero, List.set_cons_succ]
          clear z0 z1 z2 fz
          refine take_at 10 14 (.int .i64 MT) rfl rfl (by kernel_rfl) (by kernel_rfl) (by kernel_rfl) (fun _ _ _ h => h) (Or.inl ⟨by rfl, fun w hSw => by (try dsimp only at hSw); go_simp⟩) (by assumption) ?_
          simp only [Act.put, List.setIfInBounds_toArray, List.set_cons_zero, List.set_cons_succ]
          refine wpAnyH_done (by kernel_rfl) ?_ _
          exact HR.out _ _ ⟨tx, kx, tz, ky, X0, X1, X2, X3, X4, ig, rfl, HQ5.out⟩
      · rintro a' w3 ⟨tx, kx, tz, ky, X0, X1, X2, X3, X4, ig, rfl, hF⟩
        simp only [Act.put, List.setIfInBounds_toArray, List.set_cons_zero, List.set_cons_succ]
        have HF : Hid (FrQ w w3 [(ig, MBox X0 X1 X2 X3 X4), (ih, MBox Z0 Z1 Z2 Z3 Z4), (ib, MBox ry cy tb m cb), (ia, MBox rx cx ta n ca), (p1, BBox ry cy sb m kb), (p0, BBox rx cx sa n ka)] [fun W => ResM MT R C pv W X0 X1 X2 X3 X4, fun W => FlM W tz m ky ys, fun W => FlM W tx n kx xs, fun W => MT = 0 → ResM MT R C pv W Z0 Z1 Z2 Z3 Z4, fun W => FlM W tu q cu us, fun W => FlM W tb m cb ys, fun W => FlM W ta n ca xs]) := hF
        clear hF HKT HQ0 HQS0
        have HF : Hid (FrQ w w3 [(ig, MBox X0 X1 X2 X3 X4), (ih, MBox Z0 Z1 Z2 Z3 Z4), (ib, MBox ry cy tb m cb), (ia, MBox rx cx ta n ca), (p1, BBox ry cy sb m kb), (p0, BBox rx cx sa n ka)] [fun W => ResM MT R C pv W X0 X1 X2 X3 X4, fun W => MT = 0 → ResM MT R C pv W Z0 Z1 Z2 Z3 Z4, fun W => FlM W tu q cu us, fun W => FlM W tb m cb ys, fun W => FlM W ta n ca xs]) := HF.out.sub (.cons_cons _ (.cons_cons _ (.cons_cons _ (.cons_cons _ (.cons_cons _ (.cons_cons _ .slnil)))))) (.cons_cons _ (.cons _ (.cons _ (.cons_cons _ (.cons_cons _ (.cons_cons _ (.cons_cons _ .slnil)))))))
        obtain ⟨c00, c01, c02⟩ := mcells_of (HF.out.at 0 rfl : w3.heap[ig]? = some (MBox X0 X1 X2 X3 X4))
        obtain ⟨c10, c11, c12⟩ := mcells_of (HF.out.at 1 rfl : w3.heap[ih]? = some (MBox Z0 Z1 Z2 Z3 Z4))
        go_wp2_with fail
        refine (told_res MT R C pv _ _ _ _ _ _ _ _ _ _ _ (HF.out.get (g := fun W => ResM MT R C pv W X0 X1 X2 X3 X4) 0 rfl) (HF.out.get (g := fun W => MT = 0 → ResM MT R C pv W Z0 Z1 Z2 Z3 Z4) 1 rfl)).mono ?_
        rintro e u4 ⟨rfl, hb⟩
        have HF : Hid (FrQ w u4 [(ig, MBox X0 X1 X2 X3 X4), (ih, MBox Z0 Z1 Z2 Z3 Z4), (ib, MBox ry cy tb m cb), (ia, MBox rx cx ta n ca), (p1, BBox ry cy sb m kb), (p0, BBox rx cx sa n ka)] [fun W => ResM MT R C pv W X0 X1 X2 X3 X4, fun W => MT = 0 → ResM MT R C pv W Z0 Z1 Z2 Z3 Z4, fun W => FlM W tu q cu us, fun W => FlM W tb m cb ys, fun W => FlM W ta n ca xs]) := HF.out.call hb
        clear hb
        go_wp2_with fail
        refine (awake8_any _).mono ?_
        rintro e u5 ⟨rfl, hb⟩
        have HF : Hid (FrQ w u5 [(ig, MBox X0 X1 X2 X3 X4), (ih, MBox Z0 Z1 Z2 Z3 Z4), (ib, MBox ry cy tb m cb), (ia, MBox rx cx ta n ca), (p1, BBox ry cy sb m kb), (p0, BBox rx cx sa n ka)] [fun W => ResM MT R C pv W X0 X1 X2 X3 X4, fun W => MT = 0 → ResM MT R C pv W Z0 Z1 Z2 Z3 Z4, fun W => FlM W tu q cu us, fun W => FlM W tb m cb ys, fun W => FlM W ta n ca xs]) := HF.out.call hb
        clear hb
        have HF : Hid (FrQ w u5 [(ig, MBox X0 X1 X2 X3 X4), (ih, MBox Z0 Z1 Z2 Z3 Z4), (ib, MBox ry cy tb m cb), (ia, MBox rx cx ta n ca), (p1, BBox ry cy sb m kb), (p0, BBox rx cx sa n ka)] [fun W => FlM W tu q cu us, fun W => FlM W tb m cb ys, fun W => FlM W ta n ca xs]) := HF.out.sub (.cons_cons _ (.cons_cons _ (.cons_cons _ (.cons_cons _ (.cons_cons _ (.cons_cons _ .slnil)))))) (.cons _ (.cons _ (.cons_cons _ (.cons_cons _ (.cons_cons _ .slnil)))))
        go_upto_if 58 with fail
        go_cut [12] from 17 (fun s12 W => s12 = .int .i64 ST ∧ ∃ (Q0 Q1 : Int) (Q2 : Option Addr) (Q3 Q4 : Nat), Hid (FrQ w W [(ig, MBox X0 X1 X2 X3 X4), (ih, MBox Q0 Q1 Q2 Q3 Q4), (ib, MBox ry cy tb m cb), (ia, MBox rx cx ta n ca), (p1, BBox ry cy sb m kb), (p0, BBox rx cx sa n ka)] [fun W => ST = 0 → ResM ST R R sv W Q0 Q1 Q2 Q3 Q4, fun W => FlM W tu q cu us, fun W => FlM W tb m cb ys, fun W => FlM W ta n ca xs]))
        case first =>
          by_cases hT0 : T2 = 0
          · have HRZ := hid (fun W h h2 => HRS.out W h h2 hT0)
            subst hT0
            obtain ⟨c00, c01, c02⟩ := mcells_of (HF.out.at 3 rfl : u5.heap[ia]? = some (MBox rx cx ta n ca))
            obtain ⟨c10, c11, c12⟩ := mcells_of (HF.out.at 2 rfl : u5.heap[ib]? = some (MBox ry cy tb m cb))
            go_wp2_with fail
            refine (HRZ.out _ (HF.out.get (g := fun W => FlM W ta n ca xs) 2 rfl) (HF.out.get (g := fun W => FlM W tb m cb ys) 1 rfl)).mono ?_
            rintro e u6 ⟨⟨D0, D1, D2, D3, D4, rfl, hres⟩, hb⟩
            have HF : Hid (FrQ w u6 [(ig, MBox X0 X1 X2 X3 X4), (ih, MBox Z0 Z1 Z2 Z3 Z4), (ib, MBox ry cy tb m cb), (ia, MBox rx cx ta n ca), (p1, BBox ry cy sb m kb), (p0, BBox rx cx sa n ka)] [fun W => FlM W tu q cu us, fun W => FlM W tb m cb ys, fun W => FlM W ta n ca xs]) := HF.out.call hb
            have HF : Hid (FrQ w u6 [(ig, MBox X0 X1 X2 X3 X4), (ih, MBox Z0 Z1 Z2 Z3 Z4), (ib, MBox ry cy tb m cb), (ia, MBox rx cx ta n ca), (p1, BBox ry cy sb m kb), (p0, BBox rx cx sa n ka)] [fun W => ST = 0 → ResM ST R R sv W D0 D1 D2 D3 D4, fun W => FlM W tu q cu us, fun W => FlM W tb m cb ys, fun W => FlM W ta n ca xs]) := HF.out.add (kept_resi _ _ _ _ _ _ _ _ _) (fun _ => hres)
            clear hb
            clear hres HRZ
            obtain ⟨z0, z1, z2⟩ := mcells_of (HF.out.at 1 rfl : u6.heap[ih]? = some (MBox Z0 Z1 Z2 Z3 Z4))
            have fz := frzM (HF.out.at 1 rfl : u6.heap[ih]? = some (MBox Z0 Z1 Z2 Z3 Z4))
            have HF : Hid (FrQ w (StoM u6 ih D0 D1 D2 D3 D4) [(ig, MBox X0 X1 X2 X3 X4), (ih, MBox D0 D1 D2 D3 D4), (ib, MBox ry cy tb m cb), (ia, MBox rx cx ta n ca), (p1, BBox ry cy sb m kb), (p0, BBox rx cx sa n ka)] [fun W => ST = 0 → ResM ST R R sv W D0 D1 D2 D3 D4, fun W => FlM W tu q cu us, fun W => FlM W tb m cb ys, fun W => FlM W ta n ca xs]) := HF.out.sto 1 rfl
            obtain ⟨U7, hU7⟩ : ∃ V, Hid ((StoM u6 ih D0 D1 D2 D3 D4) = V) := ⟨_, rfl⟩
            rw [hU7.out] at HF
            have hU7' := hU7.out
            unfold StoM at hU7'
            go_wp2_with fail
            go_meet
            exact ⟨rfl, _, _, _, _, _, HF⟩
          · have hne : (T2 == 0) = false := by simpa using hT0
            have hmn := HSN.out hT0
            have HNZ := hid hT0
            clear hT0
            have HF : Hid (FrQ w u5 [(ig, MBox X0 X1 X2 X3 X4), (ih, MBox Z0 Z1 Z2 Z3 Z4), (ib, MBox ry cy tb m cb), (ia, MBox rx cx ta n ca), (p1, BBox ry cy sb m kb), (p0, BBox rx cx sa n ka)] [fun W => ST = 0 → ResM ST R R sv W Z0 Z1 Z2 Z3 Z4, fun W => FlM W tu q cu us, fun W => FlM W tb m cb ys, fun W => FlM W ta n ca xs]) := HF.out.add (kept_resi _ _ _ _ _ _ _ _ _) (fun h => absurd (hmn.symm.trans h) HNZ.out)
            go_wp2_with fail
            go_meet
            exact ⟨by rw [hmn], _, _, _, _, _, HF⟩
        case rest =>
          obtain ⟨rfl, Q0, Q1, Q2, Q3, Q4, HF⟩ := hcut
          have HKT : Hid (∀ W, Hid (FrQ w W [(ih, MBox Q0 Q1 Q2 Q3 Q4), (ib, MBox ry cy tb m cb), (ia, MBox rx cx ta n ca), (p1, BBox ry cy sb m kb), (p0, BBox rx cx sa n ka)] [fun W => ST = 0 → ResM ST R R sv W Q0 Q1 Q2 Q3 Q4, fun W => FlM W tu q cu us, fun W => FlM W tb m cb ys, fun W => FlM W ta n ca xs]) → (W.cell? ⟨p0, 0, none⟩ = some (.int .i64 rx) ∧ W.cell? ⟨p0, 1, none⟩ = some (.int .i64 cx) ∧ W.cell? ⟨p0, 2, none⟩ = some (.slice sa n ka) ∧ W.cell? ⟨p1, 0, none⟩ = some (.int .i64 ry) ∧ W.cell? ⟨p1, 1, none⟩ = some (.int .i64 cy) ∧ W.cell? ⟨p1, 2, none⟩ = some (.slice sb m kb)) ∧ Hid (FrQ w W [(ih, MBox Q0 Q1 Q2 Q3 Q4), (ib, MBox ry cy tb m cb), (ia, MBox rx cx ta n ca), (p1, BBox ry cy sb m kb), (p0, BBox rx cx sa n ka)] [fun W => ST = 0 → ResM ST R R sv W Q0 Q1 Q2 Q3 Q4, fun W => FlM W tu q cu us, fun W => FlM W tb m cb ys, fun W => FlM W ta n ca xs])) := fun W hW => by
            obtain ⟨a00, a01, a02⟩ := bcells_of (hW.out.at 4 rfl : W.heap[p0]? = some (BBox rx cx sa n ka))
            obtain ⟨a10, a11, a12⟩ := bcells_of (hW.out.at 3 rfl : W.heap[p1]? = some (BBox ry cy sb m kb))
            exact ⟨⟨a00, a01, a02, a10, a11, a12⟩, hW⟩
          have HQ0 : Hid (FrQ w wc.drew [(ig, MBox X0 X1 X2 X3 X4), (ih, MBox Q0 Q1 Q2 Q3 Q4), (ib, MBox ry cy tb m cb), (ia, MBox rx cx ta n ca), (p1, BBox ry cy sb m kb), (p0, BBox rx cx sa n ka)] [fun W => ST = 0 → ResM ST R R sv W Q0 Q1 Q2 Q3 Q4, fun W => FlM W tu q cu us, fun W => FlM W tb m cb ys, fun W => FlM W ta n ca xs]) := HF.out.drew
          have HQS0 : Hid (FrQ w wc.drew [(ih, MBox Q0 Q1 Q2 Q3 Q4), (ib, MBox ry cy tb m cb), (ia, MBox rx cx ta n ca), (p1, BBox ry cy sb m kb), (p0, BBox rx cx sa n ka)] [fun W => ST = 0 → ResM ST R R sv W Q0 Q1 Q2 Q3 Q4, fun W => FlM W tu q cu us, fun W => FlM W tb m cb ys, fun W => FlM W ta n ca xs]) := HQ0.out.sub (.cons _ (.cons_cons _ (.cons_cons _ (.cons_cons _ (.cons_cons _ (.cons_cons _ .slnil)))))) (.cons_cons _ (.cons_cons _ (.cons_cons _ (.cons_cons _ .slnil))))
          go_wp2_with fail
          refine wp_region_held_drew (S := fun W => (W.cell? ⟨p0, 0, none⟩ = some (.int .i64 rx) ∧ W.cell? ⟨p0, 1, none⟩ = some (.int .i64 cx) ∧ W.cell? ⟨p0, 2, none⟩ = some (.slice sa n ka) ∧ W.cell? ⟨p1, 0, none⟩ = some (.int .i64 ry) ∧ W.cell? ⟨p1, 1, none⟩ = some (.int .i64 cy) ∧ W.cell? ⟨p1, 2, none⟩ = some (.slice sb m kb)) ∧ Hid (FrQ w W [(ih, MBox Q0 Q1 Q2 Q3 Q4), (ib, MBox ry cy tb m cb), (ia, MBox rx cx ta n ca), (p1, BBox ry cy sb m kb), (p0, BBox rx cx sa n ka)] [fun W => ST = 0 → ResM ST R R sv W Q0 Q1 Q2 Q3 Q4, fun W => FlM W tu q cu us, fun W => FlM W tb m cb ys, fun W => FlM W ta n ca xs])) (by kernel_rfl) (HKT.out _ HQS0) (fun hHeld => ?_)
          refine take_at 0 66 (.agg #[.int .i64 rx, .int .i64 cx, .slice sa n ka]) rfl rfl (by kernel_rfl) (by kernel_rfl) (by kernel_rfl) (fun _ _ _ h => h) (Or.inl ⟨by rfl, fun w hSw => by (try dsimp only at hSw); go_simp⟩) (by assumption) ?_
          simp only [Act.put, List.setIfInBounds_toArray, List.set_cons_zero, List.set_cons_succ]
          refine take_at 2 68 (.agg #[.int .i64 ry, .int .i64 cy, .slice sb m kb]) rfl rfl (by kernel_rfl) (by kernel_rfl) (by kernel_rfl) (fun _ _ _ h => h) (Or.inl ⟨by rfl, fun w hSw => by (try dsimp only at hSw); go_simp⟩) (by assumption) ?_
          simp only [Act.put, List.setIfInBounds_toArray, List.set_cons_zero, List.set_cons_succ]
          refine wpAnyH_ready (rs := [1]) (by kernel_rfl) (by simp) ?_
          refine AllReadyH.cons (o := _) rfl (fun K hK => ?_) AllReadyH.nil
          go_simp
          refine (HOX.out _ HQ0.out.bel).mono ?_
          rintro e t1 ⟨⟨tx, kx, rfl, hf⟩, hbq⟩
          have HQ1 : Hid (FrQ w t1 [(ig, MBox X0 X1 X2 X3 X4), (ih, MBox Q0 Q1 Q2 Q3 Q4), (ib, MBox ry cy tb m cb), (ia, MBox rx cx ta n ca), (p1, BBox ry cy sb m kb), (p0, BBox rx cx sa n ka)] [fun W => ST = 0 → ResM ST R R sv W Q0 Q1 Q2 Q3 Q4, fun W => FlM W tu q cu us, fun W => FlM W tb m cb ys, fun W => FlM W ta n ca xs]) := HQ0.out.call hbq
          have HQ1 : Hid (FrQ w t1 [(ig, MBox X0 X1 X2 X3 X4), (ih, MBox Q0 Q1 Q2 Q3 Q4), (ib, MBox ry cy tb m cb), (ia, MBox rx cx ta n ca), (p1, BBox ry cy sb m kb), (p0, BBox rx cx sa n ka)] [fun W => FlM W tx n kx xs, fun W => ST = 0 → ResM ST R R sv W Q0 Q1 Q2 Q3 Q4, fun W => FlM W tu q cu us, fun W => FlM W tb m cb ys, fun W => FlM W ta n ca xs]) := HQ1.out.add (kept_fl _ _ _ _) hf
          clear hbq
          unfold MV
          go_wp2_with fail
          have HQS : Hid (FrQ w t1 [(ih, MBox Q0 Q1 Q2 Q3 Q4), (ib, MBox ry cy tb m cb), (ia, MBox rx cx ta n ca), (p1, BBox ry cy sb m kb), (p0, BBox rx cx sa n ka)] [fun W => ST = 0 → ResM ST R R sv W Q0 Q1 Q2 Q3 Q4, fun W => FlM W tu q cu us, fun W => FlM W tb m cb ys, fun W => FlM W ta n ca xs]) := HQ1.out.sub (.cons _ (.cons_cons _ (.cons_cons _ (.cons_cons _ (.cons_cons _ (.cons_cons _ .slnil)))))) (.cons _ (.cons_cons _ (.cons_cons _ (.cons_cons _ (.cons_cons _ .slnil)))))
          refine hK.out _ _ (HKT.out _ HQS) (fun hHeld1 => ?_)
          clear hK K HQS
          try simp only [Act.put, List.setIfInBounds_toArray, List.set_cons_zero, List.set_cons_succ]
          refine wpAnyH_ready (rs := [3]) (by kernel_rfl) (by simp) ?_
          refine AllReadyH.cons (o := _) rfl (fun K hK => ?_) AllReadyH.nil
          go_simp
          refine (HOY.out _ HQ1.out.bel).mono ?_
          rintro e t2 ⟨⟨tz, ky, rfl, hf⟩, hbq⟩
          have HQ2 : Hid (FrQ w t2 [(ig, MBox X0 X1 X2 X3 X4), (ih, MBox Q0 Q1 Q2 Q3 Q4), (ib, MBox ry cy tb m cb), (ia, MBox rx cx ta n ca), (p1, BBox ry cy sb m kb), (p0, BBox rx cx sa n ka)] [fun W => FlM W tx n kx xs, fun W => ST = 0 → ResM ST R R sv W Q0 Q1 Q2 Q3 Q4, fun W => FlM W tu q cu us, fun W => FlM W tb m cb ys, fun W => FlM W ta n ca xs]) := HQ1.out.call hbq
          have HQ2 : Hid (FrQ w t2 [(ig, MBox X0 X1 X2 X3 X4), (ih, MBox Q0 Q1 Q2 Q3 Q4), (ib, MBox ry cy tb m cb), (ia, MBox rx cx ta n ca), (p1, BBox ry cy sb m kb), (p0, BBox rx cx sa n ka)] [fun W => FlM W tz m ky ys, fun W => FlM W tx n kx xs, fun W => ST = 0 → ResM ST R R sv W Q0 Q1 Q2 Q3 Q4, fun W => FlM W tu q cu us, fun W => FlM W tb m cb ys, fun W => FlM W ta n ca xs]) := HQ2.out.add (kept_fl _ _ _ _) hf
          clear hbq
          unfold MV
          go_wp2_with fail
          have HQS : Hid (FrQ w t2 [(ih, MBox Q0 Q1 Q2 Q3 Q4), (ib, MBox ry cy tb m cb), (ia, MBox rx cx ta n ca), (p1, BBox ry cy sb m kb), (p0, BBox rx cx sa n ka)] [fun W => ST = 0 → ResM ST R R sv W Q0 Q1 Q2 Q3 Q4, fun W => FlM W tu q cu us, fun W => FlM W tb m cb ys, fun W => FlM W ta n ca xs]) := HQ2.out.sub (.cons _ (.cons_cons _ (.cons_cons _ (.cons_cons _ (.cons_cons _ (.cons_cons _ .slnil)))))) (.cons _ (.cons _ (.cons_cons _ (.cons_cons _ (.cons_cons _ (.cons_cons _ .slnil))))))
          refine hK.out _ _ (HKT.out _ HQS) (fun hHeld2 => ?_)
          clear hK K HQS
          try simp only [Act.put, List.setIfInBounds_toArray, List.set_cons_zero, List.set_cons_succ]
          refine wpAnyH_ready (rs := [4]) (by kernel_rfl) (by simp) ?_
          refine AllReadyH.cons (o := _) rfl (fun K hK => ?_) AllReadyH.nil
          go_simp
          refine (HPS.out _ _ _ _ _ (HQ2.out.get (g := fun W => FlM W tx n kx xs) 1 rfl) (HQ2.out.get (g := fun W => FlM W tz m ky ys) 0 rfl)).mono ?_
          rintro e t3 ⟨⟨J0, J1, J2, J3, J4, rfl, hres⟩, hbq⟩
          have HQ3 : Hid (FrQ w t3 [(ig, MBox X0 X1 X2 X3 X4), (ih, MBox Q0 Q1 Q2 Q3 Q4), (ib, MBox ry cy tb m cb), (ia, MBox rx cx ta n ca), (p1, BBox ry cy sb m kb), (p0, BBox rx cx sa n ka)] [fun W => FlM W tz m ky ys, fun W => FlM W tx n kx xs, fun W => ST = 0 → ResM ST R R sv W Q0 Q1 Q2 Q3 Q4, fun W => FlM W tu q cu us, fun W => FlM W tb m cb ys, fun W => FlM W ta n ca xs]) := HQ2.out.call hbq
          have HQ3 : Hid (FrQ w t3 [(ig, MBox X0 X1 X2 X3 X4), (ih, MBox Q0 Q1 Q2 Q3 Q4), (ib, MBox ry cy tb m cb), (ia, MBox rx cx ta n ca), (p1, BBox ry cy sb m kb), (p0, BBox rx cx sa n ka)] [fun W => ResM ST R R sv W J0 J1 J2 J3 J4, fun W => FlM W tz m ky ys, fun W => FlM W tx n kx xs, fun W => ST = 0 → ResM ST R R sv W Q0 Q1 Q2 Q3 Q4, fun W => FlM W tu q cu us, fun W => FlM W tb m cb ys, fun W => FlM W ta n ca xs]) := HQ3.out.add (kept_res _ _ _ _ _ _ _ _ _) hres
          clear hbq
          clear hres
          go_wp2_with fail
          have HQS : Hid (FrQ w t3 [(ih, MBox Q0 Q1 Q2 Q3 Q4), (ib, MBox ry cy tb m cb), (ia, MBox rx cx ta n ca), (p1, BBox ry cy sb m kb), (p0, BBox rx cx sa n ka)] [fun W => ST = 0 → ResM ST R R sv W Q0 Q1 Q2 Q3 Q4, fun W => FlM W tu q cu us, fun W => FlM W tb m cb ys, fun W => FlM W ta n ca xs]) := HQ3.out.sub (.cons _ (.cons_cons _ (.cons_cons _ (.cons_cons _ (.cons_cons _ (.cons_cons _ .slnil)))))) (.cons _ (.cons _ (.cons _ (.cons_cons _ (.cons_cons _ (.cons_cons _ (.cons_cons _ .slnil)))))))
          refine hK.out _ _ (HKT.out _ HQS) (fun hHeld3 => ?_)
          clear hK K HQS
          try simp only [Act.put, List.setIfInBounds_toArray, List.set_cons_zero, List.set_cons_succ]
          refine take_at 5 65 (.tuple #[.agg #[.int .i64 J0, .int .i64 J1, .slice J2 J3 J4], .int .i64 ST]) rfl rfl (by kernel_rfl) (by kernel_rfl) (by kernel_rfl) (fun _ _ _ h => h) (Or.inl ⟨by rfl, fun w hSw => by (try dsimp only at hSw); go_simp⟩) (by assumption) ?_
          simp only [Act.put, List.setIfInBounds_toArray, List.set_cons_zero, List.set_cons_succ]
          refine take_at 6 71 (.agg #[.int .i64 J0, .int .i64 J1, .slice J2 J3 J4]) rfl rfl (by kernel_rfl) (by kernel_rfl) (by kernel_rfl) (fun _ _ _ h => h) (Or.inl ⟨by rfl, fun w hSw => by (try dsimp only at hSw); go_simp⟩) (by assumption) ?_
          simp only [Act.put, List.setIfInBounds_toArray, List.set_cons_zero, List.set_cons_succ]
          refine take_at 7 72 (.int .i64 ST) rfl rfl (by kernel_rfl) (by kernel_rfl) (by kernel_rfl) (fun _ _ _ h => h) (Or.inl ⟨by rfl, fun w hSw => by (try dsimp only at hSw); go_simp⟩) (by assumption) ?_
          simp only [Act.put, List.setIfInBounds_toArray, List.set_cons_zero, List.set_cons_succ]
          refine wpAnyH_ready (rs := [8]) (by kernel_rfl) (by simp) ?_
          refine AllReadyH.cons (o := _) rfl (fun K hK => ?_) AllReadyH.nil
          obtain ⟨z0, z1, z2⟩ := mcells_of (HQ3.out.at 0 rfl : t3.heap[ig]? = some (MBox X0 X1 X2 X3 X4))
          have fz := frzM (HQ3.out.at 0 rfl : t3.heap[ig]? = some (MBox X0 X1 X2 X3 X4))
          have HQ4 : Hid (FrQ w (StoM t3 ig J0 J1 J2 J3 J4) [(ig, MBox J0 J1 J2 J3 J4), (ih, MBox Q0 Q1 Q2 Q3 Q4), (ib, MBox ry cy tb m cb), (ia, MBox rx cx ta n ca), (p1, BBox ry cy sb m kb), (p0, BBox rx cx sa n ka)] [fun W => ResM ST R R sv W J0 J1 J2 J3 J4, fun W => FlM W tz m ky ys, fun W => FlM W tx n kx xs, fun W => ST = 0 → ResM ST R R sv W Q0 Q1 Q2 Q3 Q4, fun W => FlM W tu q cu us, fun W => FlM W tb m cb ys, fun W => FlM W ta n ca xs]) := HQ3.out.sto 0 rfl
          obtain ⟨U4, hU4⟩ : ∃ X, Hid ((StoM t3 ig J0 J1 J2 J3 J4) = X) := ⟨_, rfl⟩
          rw [hU4.out] at HQ4
          have hU4' := hU4.out
          unfold StoM at hU4'
          go_simp
          go_wp2_with fail
          have HQS : Hid (FrQ w U4 [(ih, MBox Q0 Q1 Q2 Q3 Q4), (ib, MBox ry cy tb m cb), (ia, MBox rx cx ta n ca), (p1, BBox ry cy sb m kb), (p0, BBox rx cx sa n ka)] [fun W => ST = 0 → ResM ST R R sv W Q0 Q1 Q2 Q3 Q4, fun W => FlM W tu q cu us, fun W => FlM W tb m cb ys, fun W => FlM W ta n ca xs]) := HQ4.out.sub (.cons _ (.cons_cons _ (.cons_cons _ (.cons_cons _ (.cons_cons _ (.cons_cons _ .slnil)))))) (.cons _ (.cons _ (.cons _ (.cons_cons _ (.cons_cons _ (.cons_cons _ (.cons_cons _ .slnil)))))))
          refine hK.out _ _ (HKT.out _ HQS) (fun hHeld4 => ?_)
          clear hK K HQS
          try simp only [Act.put, List.setIfInBounds_toArray, List.set_cons_zero, List.set_cons_succ]
          clear z0 z1 z2 fz
          refine take_at 9 14 (.int .i64 ST) rfl rfl (by kernel_rfl) (by kernel_rfl) (by kernel_rfl) (fun _ _ _ h => h) (Or.inl ⟨by rfl, fun w hSw => by (try dsimp only at hSw); go_simp⟩) (by assumption) ?_
          simp only [Act.put, List.setIfInBounds_toArray, List.set_cons_zero, List.set_cons_succ]
          refine wpAnyH_done (by kernel_rfl) ?_ _
          have HF : Hid (FrQ w U4 [(ig, MBox J0 J1 J2 J3 J4), (ih, MBox Q0 Q1 Q2 Q3 Q4), (ib, MBox ry cy tb m cb), (ia, MBox rx cx ta n ca), (p1, BBox ry cy sb m kb), (p0, BBox rx cx sa n ka)] [fun W => ResM ST R R sv W J0 J1 J2 J3 J4, fun W => FlM W tz m ky ys, fun W => FlM W tx n kx xs, fun W => ST = 0 → ResM ST R R sv W Q0 Q1 Q2 Q3 Q4, fun W => FlM W tu q cu us, fun W => FlM W tb m cb ys, fun W => FlM W ta n ca xs]) := HQ4.out
          clear HKT HQ0 HQS0
          have HF : Hid (FrQ w U4 [(ig, MBox J0 J1 J2 J3 J4), (ih, MBox Q0 Q1 Q2 Q3 Q4), (ib, MBox ry cy tb m cb), (ia, MBox rx cx ta n ca), (p1, BBox ry cy sb m kb), (p0, BBox rx cx sa n ka)] [fun W => ResM ST R R sv W J0 J1 J2 J3 J4, fun W => ST = 0 → ResM ST R R sv W Q0 Q1 Q2 Q3 Q4, fun W => FlM W tu q cu us, fun W => FlM W tb m cb ys, fun W => FlM W ta n ca xs]) := HF.out.sub (.cons_cons _ (.cons_cons _ (.cons_cons _ (.cons_cons _ (.cons_cons _ (.cons_cons _ .slnil)))))) (.cons_cons _ (.cons _ (.cons _ (.cons_cons _ (.cons_cons _ (.cons_cons _ (.cons_cons _ .slnil)))))))
          obtain ⟨c00, c01, c02⟩ := mcells_of (HF.out.at 0 rfl : U4.heap[ig]? = some (MBox J0 J1 J2 J3 J4))
          obtain ⟨c10, c11, c12⟩ := mcells_of (HF.out.at 1 rfl : U4.heap[ih]? = some (MBox Q0 Q1 Q2 Q3 Q4))
          go_wp2_with fail
          refine (told_res ST R R sv _ _ _ _ _ _ _ _ _ _ _ (HF.out.get (g := fun W => ResM ST R R sv W J0 J1 J2 J3 J4) 0 rfl) (HF.out.get (g := fun W => ST = 0 → ResM ST R R sv W Q0 Q1 Q2 Q3 Q4) 1 rfl)).mono ?_
          rintro e u6 ⟨rfl, hb⟩
          have HF : Hid (FrQ w u6 [(ig, MBox J0 J1 J2 J3 J4), (ih, MBox Q0 Q1 Q2 Q3 Q4), (ib, MBox ry cy tb m cb), (ia, MBox rx cx ta n ca), (p1, BBox ry cy sb m kb), (p0, BBox rx cx sa n ka)] [fun W => ResM ST R R sv W J0 J1 J2 J3 J4, fun W => ST = 0 → ResM ST R R sv W Q0 Q1 Q2 Q3 Q4, fun W => FlM W tu q cu us, fun W => FlM W tb m cb ys, fun W => FlM W ta n ca xs]) := HF.out.call hb
          clear hb
          have HF : Hid (FrQ w u6 [(ib, MBox ry cy tb m cb), (ia, MBox rx cx ta n ca), (p1, BBox ry cy sb m kb), (p0, BBox rx cx sa n ka)] [fun W => FlM W tu q cu us, fun W => FlM W tb m cb ys, fun W => FlM W ta n ca xs]) := HF.out.sub (.cons _ (.cons _ (.cons_cons _ (.cons_cons _ (.cons_cons _ (.cons_cons _ .slnil)))))) (.cons _ (.cons _ (.cons_cons _ (.cons_cons _ (.cons_cons _ .slnil)))))
          have HPV := hid (fun W s k t l (h : FlM W s n k xs) (h2 : FlM W t q l us) => MulVec_tot rx cx s n k xs t q l us W h h2 HNM.out.1 HNM.out.2.2)
          have HRV := hid (fun W (h : FlM W ta n ca xs) (h2 : FlM W tu q cu us) hz => rMulVec_tot rx cx ta n ca xs tu q cu us W h h2 hz)
          have HLI := hid (fun W (h : FlM W tu q cu us) => rList_any tu q cu us W h HNM.out.2.2)
          have HVE : Hid (vecE rx cx n xs q us = firstL [chkM rx cx n xs, lstE q us, shpE cx q]) := vec_first _ _ _ _ _ _
          have HVT : Hid (vecE rx cx n xs q us = 0 → vecT rx cx n xs q us = if finF rx.toNat (vecV xs us cx.toNat) = true then 0 else 5) := fun h => by unfold vecT; rw [if_pos h]
          have HVN : Hid (vecE rx cx n xs q us ≠ 0 → vecT rx cx n xs q us = vecE rx cx n xs q us) := fun h => by unfold vecT; rw [if_neg h]
          obtain ⟨VE, hVE⟩ : ∃ t, Hid (vecE rx cx n xs q us = t) := ⟨_, rfl⟩
          obtain ⟨VT, hVT⟩ : ∃ t, Hid (vecT rx cx n xs q us = t) := ⟨_, rfl⟩
          obtain ⟨vv, hvv⟩ : ∃ t, Hid (vecV xs us cx.toNat = t) := ⟨_, rfl⟩
          obtain ⟨EU, hEU⟩ : ∃ t, Hid (lstE q us = t) := ⟨_, rfl⟩
          rw [hVE.out] at HVE HVT HVN HRV
          rw [hVT.out] at HVT HVN HPV
          rw [hvv.out, hR.out] at HVT HPV HRV
          rw [hEU.out] at HVE HLI
          rw [hEA.out] at HVE
          obtain ⟨c00, c01, c02⟩ := bcells_of (HF.out.at 3 rfl : u6.heap[p0]? = some (BBox rx cx sa n ka))
          go_wp2_with fail
          refine (HOX.out _ HF.out.bel).mono ?_
          rintro e u7 ⟨⟨tx, kx, rfl, hf⟩, hb⟩
          have HF : Hid (FrQ w u7 [(ib, MBox ry cy tb m cb), (ia, MBox rx cx ta n ca), (p1, BBox ry cy sb m kb), (p0, BBox rx cx sa n ka)] [fun W => FlM W tu q cu us, fun W => FlM W tb m cb ys, fun W => FlM W ta n ca xs]) := HF.out.call hb
          have HF : Hid (FrQ w u7 [(ib, MBox ry cy tb m cb), (ia, MBox rx cx ta n ca), (p1, BBox ry cy sb m kb), (p0, BBox rx cx sa n ka)] [fun W => FlM W tx n kx xs, fun W => FlM W tu q cu us, fun W => FlM W tb m cb ys, fun W => FlM W ta n ca xs]) := HF.out.add (kept_fl _ _ _ _) hf
          clear hb
          unfold MV
          clear hf
          go_wp2_with fail
          refine (HLU.out _ HF.out.bel).mono ?_
          rintro e u8 ⟨⟨tv, kv, rfl, hf⟩, hb⟩
          have HF : Hid (FrQ w u8 [(ib, MBox ry cy tb m cb), (ia, MBox rx cx ta n ca), (p1, BBox ry cy sb m kb), (p0, BBox rx cx sa n ka)] [fun W => FlM W tx n kx xs, fun W => FlM W tu q cu us, fun W => FlM W tb m cb ys, fun W => FlM W ta n ca xs]) := HF.out.call hb
          have HF : Hid (FrQ w u8 [(ib, MBox ry cy tb m cb), (ia, MBox rx cx ta n ca), (p1, BBox ry cy sb m kb), (p0, BBox rx cx sa n ka)] [fun W => FlM W tv q kv us, fun W => FlM W tx n kx xs, fun W => FlM W tu q cu us, fun W => FlM W tb m cb ys, fun W => FlM W ta n ca xs]) := HF.out.add (kept_fl _ _ _ _) hf
          clear hb
          clear hf
          go_wp2_with fail
          refine (HPV.out _ _ _ _ _ (HF.out.get (g := fun W => FlM W tx n kx xs) 1 rfl) (HF.out.get (g := fun W => FlM W tv q kv us) 0 rfl)).mono ?_
          rintro e u9 ⟨⟨s1, k1, l1, rfl, hls⟩, hb⟩
          have HF : Hid (FrQ w u9 [(ib, MBox ry cy tb m cb), (ia, MBox rx cx ta n ca), (p1, BBox ry cy sb m kb), (p0, BBox rx cx sa n ka)] [fun W => FlM W tv q kv us, fun W => FlM W tx n kx xs, fun W => FlM W tu q cu us, fun W => FlM W tb m cb ys, fun W => FlM W ta n ca xs]) := HF.out.call hb
          have HF : Hid (FrQ w u9 [(ib, MBox ry cy tb m cb), (ia, MBox rx cx ta n ca), (p1, BBox ry cy sb m kb), (p0, BBox rx cx sa n ka)] [fun W => LsC VT R vv W s1 k1 l1, fun W => FlM W tv q kv us, fun W => FlM W tx n kx xs, fun W => FlM W tu q cu us, fun W => FlM W tb m cb ys, fun W => FlM W ta n ca xs]) := HF.out.add (kept_lsc _ _ _ _ _ _) hls
          clear hb
          clear hls
          have HF : Hid (FrQ w u9 [(ib, MBox ry cy tb m cb), (ia, MBox rx cx ta n ca), (p1, BBox ry cy sb m kb), (p0, BBox rx cx sa n ka)] [fun W => LsC VT R vv W s1 k1 l1, fun W => FlM W tu q cu us, fun W => FlM W tb m cb ys, fun W => FlM W ta n ca xs]) := HF.out.sub (.cons_cons _ (.cons_cons _ (.cons_cons _ (.cons_cons _ .slnil)))) (.cons_cons _ (.cons _ (.cons _ (.cons_cons _ (.cons_cons _ (.cons_cons _ .slnil))))))
          go_upto_region 17 with fail
          go_cut [12] from 17 (fun s12 W => s12 = .int .i64 VE ∧ Hid (FrQ w W [(ib, MBox ry cy tb m cb), (ia, MBox rx cx ta n ca), (p1, BBox ry cy sb m kb), (p0, BBox rx cx sa n ka)] [fun W => LsC VT R vv W s1 k1 l1, fun W => FlM W tu q cu us, fun W => FlM W tb m cb ys, fun W => FlM W ta n ca xs]))
          case first =>
            by_cases hcq : cx = (q : Int)
            · have hsh : shpE cx q = 0 := by unfold shpE; rw [if_pos hcq]
              rw [hsh] at HVE
              have hcb : (cx != (q : Int)) = false := by simpa using hcq
              have HCQ := hid hcq
              clear hsh hcq
              have HKT : Hid (∀ W, Hid (FrQ w W [(ib, MBox ry cy tb m cb), (ia, MBox rx cx ta n ca), (p1, BBox ry cy sb m kb), (p0, BBox rx cx sa n ka)] [fun W => LsC VT R vv W s1 k1 l1, fun W => FlM W tu q cu us, fun W => FlM W tb m cb ys, fun W => FlM W ta n ca xs]) → (W.cell? ⟨ia, 0, none⟩ = some (.int .i64 rx) ∧ W.cell? ⟨ia, 1, none⟩ = some (.int .i64 cx) ∧ W.cell? ⟨ia, 2, none⟩ = some (.slice ta n ca) ∧ W.cell? ⟨p0, 0, none⟩ = some (.int .i64 rx) ∧ W.cell? ⟨p0, 1, none⟩ = some (.int .i64 cx) ∧ W.cell? ⟨p0, 2, none⟩ = some (.slice sa n ka)) ∧ Hid (FrQ w W [(ib, MBox ry cy tb m cb), (ia, MBox rx cx ta n ca), (p1, BBox ry cy sb m kb), (p0, BBox rx cx sa n ka)] [fun W => LsC VT R vv W s1 k1 l1, fun W => FlM W tu q cu us, fun W => FlM W tb m cb ys, fun W => FlM W ta n ca xs])) := fun W hW => by
                obtain ⟨a00, a01, a02⟩ := mcells_of (hW.out.at 1 rfl : W.heap[ia]? = some (MBox rx cx ta n ca))
                obtain ⟨a10, a11, a12⟩ := bcells_of (hW.out.at 3 rfl : W.heap[p0]? = some (BBox rx cx sa n ka))
                exact ⟨⟨a00, a01, a02, a10, a11, a12⟩, hW⟩
              have HQ0 : Hid (FrQ w u9.drew [(ib, MBox ry cy tb m cb), (ia, MBox rx cx ta n ca), (p1, BBox ry cy sb m kb), (p0, BBox rx cx sa n ka)] [fun W => LsC VT R vv W s1 k1 l1, fun W => FlM W tu q cu us, fun W => FlM W tb m cb ys, fun W => FlM W ta n ca xs]) := HF.out.drew
              have HQS0 : Hid (FrQ w u9.drew [(ib, MBox ry cy tb m cb), (ia, MBox rx cx ta n ca), (p1, BBox ry cy sb m kb), (p0, BBox rx cx sa n ka)] [fun W => LsC VT R vv W s1 k1 l1, fun W => FlM W tu q cu us, fun W => FlM W tb m cb ys, fun W => FlM W ta n ca xs]) := HQ0.out.sub (.cons_cons _ (.cons_cons _ (.cons_cons _ (.cons_cons _ .slnil)))) (.cons_cons _ (.cons_cons _ (.cons_cons _ (.cons_cons _ .slnil))))
              go_wp2_with fail
              refine wp_region_held_drew (S := fun W => (W.cell? ⟨ia, 0, none⟩ = some (.int .i64 rx) ∧ W.cell? ⟨ia, 1, none⟩ = some (.int .i64 cx) ∧ W.cell? ⟨ia, 2, none⟩ = some (.slice ta n ca) ∧ W.cell? ⟨p0, 0, none⟩ = some (.int .i64 rx) ∧ W.cell? ⟨p0, 1, none⟩ = some (.int .i64 cx) ∧ W.cell? ⟨p0, 2, none⟩ = some (.slice sa n ka)) ∧ Hid (FrQ w W [(ib, MBox ry cy tb m cb), (ia, MBox rx cx ta n ca), (p1, BBox ry cy sb m kb), (p0, BBox rx cx sa n ka)] [fun W => LsC VT R vv W s1 k1 l1, fun W => FlM W tu q cu us, fun W => FlM W tb m cb ys, fun W => FlM W ta n ca xs])) (by kernel_rfl) (HKT.out _ HQS0) (fun hHeld => ?_)
              refine take_at 0 87 (.agg #[.int .i64 rx, .int .i64 cx, .slice ta n ca]) rfl rfl (by kernel_rfl) (by kernel_rfl) (by kernel_rfl) (fun _ _ _ h => h) (Or.inl ⟨by rfl, fun w hSw => by (try dsimp only at hSw); go_simp⟩) (by assumption) ?_
              simp only [Act.put, List.setIfInBounds_toArray, List.set_cons_zero, List.set_cons_succ]
              refine take_at 2 89 (.slice tu q cu) rfl rfl (by kernel_rfl) (by kernel_rfl) (by kernel_rfl) (fun _ _ _ h => h) (Or.inl ⟨by rfl, fun w hSw => by (try dsimp only at hSw); go_simp⟩) (by assumption) ?_
              simp only [Act.put, List.setIfInBounds_toArray, List.set_cons_zero, List.set_cons_succ]
              refine take_at 4 91 (.pointer (some ⟨p0, 1, none⟩)) rfl rfl (by kernel_rfl) (by kernel_rfl) (by kernel_rfl) (fun _ _ _ h => h) (Or.inl ⟨by rfl, fun w hSw => by (try dsimp only at hSw); go_simp⟩) (by assumption) ?_
              simp only [Act.put, List.setIfInBounds_toArray, List.set_cons_zero, List.set_cons_succ]
              refine take_at 5 92 (.int .i64 cx) rfl rfl (by kernel_rfl) (by kernel_rfl) (by kernel_rfl) (fun _ _ _ h => h) (Or.inl ⟨by rfl, fun w hSw => by (try dsimp only at hSw); go_simp⟩) (by assumption) ?_
              simp only [Act.put, List.setIfInBounds_toArray, List.set_cons_zero, List.set_cons_succ]
              refine take_at 6 93 (.slice tu q cu) rfl rfl (by kernel_rfl) (by kernel_rfl) (by kernel_rfl) (fun _ _ _ h => h) (Or.inl ⟨by rfl, fun w hSw => by (try dsimp only at hSw); go_simp⟩) (by assumption) ?_
              simp only [Act.put, List.setIfInBounds_toArray, List.set_cons_zero, List.set_cons_succ]
              refine take_at 7 94 (.int .i64 q) rfl rfl (by kernel_rfl) (by kernel_rfl) (by kernel_rfl) (fun _ _ _ h => h) (Or.inl ⟨by rfl, fun w hSw => by (try dsimp only at hSw); go_simp⟩) (by assumption) ?_
              simp only [Act.put, List.setIfInBounds_toArray, List.set_cons_zero, List.set_cons_succ]
              refine take_at 8 95 (.bool false) rfl rfl (by kernel_rfl) (by kernel_rfl) (by kernel_rfl) (fun _ _ _ h => h) (Or.inl ⟨by rfl, fun w hSw => by (try dsimp only at hSw); go_simp⟩) (by assumption) ?_
              simp only [Act.put, List.setIfInBounds_toArray, List.set_cons_zero, List.set_cons_succ]
              refine wpAnyH_ready (rs := [1]) (by kernel_rfl) (by simp) ?_
              refine AllReadyH.cons (o := _) rfl (fun K hK => ?_) AllReadyH.nil
              go_simp
              refine (HCA.out _ (HQ0.out.get (g := fun W => FlM W ta n ca xs) 3 rfl)).mono ?_
              rintro e t1 ⟨rfl, hbq⟩
              have HQ1 : Hid (FrQ w t1 [(ib, MBox ry cy tb m cb), (ia, MBox rx cx ta n ca), (p1, BBox ry cy sb m kb), (p0, BBox rx cx sa n ka)] [fun W => LsC VT R vv W s1 k1 l1, fun W => FlM W tu q cu us, fun W => FlM W tb m cb ys, fun W => FlM W ta n ca xs]) := HQ0.out.call hbq
              clear hbq
              go_wp2_with fail
              have HQS : Hid (FrQ w t1 [(ib, MBox ry cy tb m cb), (ia, MBox rx cx ta n ca), (p1, BBox ry cy sb m kb), (p0, BBox rx cx sa n ka)] [fun W => LsC VT R vv W s1 k1 l1, fun W => FlM W tu q cu us, fun W => FlM W tb m cb ys, fun W => FlM W ta n ca xs]) := HQ1.out.sub (.cons_cons _ (.cons_cons _ (.cons_cons _ (.cons_cons _ .slnil)))) (.cons_cons _ (.cons_cons _ (.cons_cons _ (.cons_cons _ .slnil))))
              refine hK.out _ _ (HKT.out _ HQS) (fun hHeld1 => ?_)
              clear hK K HQS
              try simp only [Act.put, List.setIfInBounds_toArray, List.set_cons_zero, List.set_cons_succ]
              refine wpAnyH_ready (rs := [3]) (by kernel_rfl) (by simp) ?_
              refine AllReadyH.cons (o := _) rfl (fun K hK => ?_) AllReadyH.nil
              go_simp
              refine (HLI.out _ (HQ1.out.get (g := fun W => FlM W tu q cu us) 1 rfl)).mono ?_
              rintro e ww ⟨rfl, hw⟩
              rw [hw]
              clear hw
              go_wp2_with fail
              have HQS : Hid (FrQ w t1 [(ib, MBox ry cy tb m cb), (ia, MBox rx cx ta n ca), (p1, BBox ry cy sb m kb), (p0, BBox rx cx sa n ka)] [fun W => LsC VT R vv W s1 k1 l1, fun W => FlM W tu q cu us, fun W => FlM W tb m cb ys, fun W => FlM W ta n ca xs]) := HQ1.out.sub (.cons_cons _ (.cons_cons _ (.cons_cons _ (.cons_cons _ .slnil)))) (.cons_cons _ (.cons_cons _ (.cons_cons _ (.cons_cons _ .slnil))))
              refine hK.out _ _ (HKT.out _ HQS) (fun hHeld2 => ?_)
              clear hK K HQS
              try simp only [Act.put, List.setIfInBounds_toArray, List.set_cons_zero, List.set_cons_succ]
              refine wpAnyH_ready (rs := [9]) (by kernel_rfl) (by simp) ?_
              refine AllReadyH.cons (o := _) rfl (fun K hK => ?_) AllReadyH.nil
              go_simp
              refine (If_no 3 _).mono ?_
              rintro e ww ⟨rfl, hw⟩
              rw [hw]
              clear hw
              go_wp2_with fail
              have HQS : Hid (FrQ w t1 [(ib, MBox ry cy tb m cb), (ia, MBox rx cx ta n ca), (p1, BBox ry cy sb m kb), (p0, BBox rx cx sa n ka)] [fun W => LsC VT R vv W s1 k1 l1, fun W => FlM W tu q cu us, fun W => FlM W tb m cb ys, fun W => FlM W ta n ca xs]) := HQ1.out.sub (.cons_cons _ (.cons_cons _ (.cons_cons _ (.cons_cons _ .slnil)))) (.cons_cons _ (.cons_cons _ (.cons_cons _ (.cons_cons _ .slnil))))
              refine hK.out _ _ (HKT.out _ HQS) (fun hHeld3 => ?_)
              clear hK K HQS
              try simp only [Act.put, List.setIfInBounds_toArray, List.set_cons_zero, List.set_cons_succ]
              refine wpAnyH_ready (rs := [10]) (by kernel_rfl) (by simp) ?_
              refine AllReadyH.cons (o := _) rfl (fun K hK => ?_) AllReadyH.nil
              have HQ4 : Hid (FrQ w (t1.alloc (I3 EA EU 0)) [(t1.heap.size, I3 EA EU 0), (ib, MBox ry cy tb m cb), (ia, MBox rx cx ta n ca), (p1, BBox ry cy sb m kb), (p0, BBox rx cx sa n ka)] [fun W => LsC VT R vv W s1 k1 l1, fun W => FlM W tu q cu us, fun W => FlM W tb m cb ys, fun W => FlM W ta n ca xs]) := HQ1.out.alloc _
              go_simp
              go_wp2_with fail
              have HQS : Hid (FrQ w (t1.alloc (I3 EA EU 0)) [(ib, MBox ry cy tb m cb), (ia, MBox rx cx ta n ca), (p1, BBox ry cy sb m kb), (p0, BBox rx cx sa n ka)] [fun W => LsC VT R vv W s1 k1 l1, fun W => FlM W tu q cu us, fun W => FlM W tb m cb ys, fun W => FlM W ta n ca xs]) := HQ4.out.sub (.cons _ (.cons_cons _ (.cons_cons _ (.cons_cons _ (.cons_cons _ .slnil))))) (.cons_cons _ (.cons_cons _ (.cons_cons _ (.cons_cons _ .slnil))))
              refine hK.out _ _ (HKT.out _ HQS) (fun hHeld4 => ?_)
              clear hK K HQS
              try simp only [Act.put, List.setIfInBounds_toArray, List.set_cons_zero, List.set_cons_succ]
              obtain ⟨t4, ht4⟩ : ∃ X, Hid (t1.alloc (I3 EA EU 0) = X) := ⟨_, rfl⟩
              obtain ⟨ix, hix⟩ : ∃ X, Hid (t1.heap.size = X) := ⟨_, rfl⟩
              rw [ht4.out, hix.out] at HQ4
              have hy1 : t1.alloc (.cells #[.int .i64 EA, .int .i64 EU, .int .i64 0] 3) = t4 := ht4.out
              have hy2 := hix.out
              rw [hy1]
              rw [hy2]
              clear hy1 hy2
              refine wpAnyH_ready (rs := [11]) (by kernel_rfl) (by simp) ?_
              refine AllReadyH.cons (o := _) rfl (fun K hK => ?_) AllReadyH.nil
              go_simp
              refine (First_three _ EA EU 0 _ (HQ4.out.at 0 rfl : t4.heap[ix]? = some (I3 EA EU 0))).mono ?_
              rintro e ww ⟨rfl, hw⟩
              rw [hw]
              clear hw
              rw [← HVE.out]
              go_wp2_with fail
              have HQS : Hid (FrQ w t4 [(ib, MBox ry cy tb m cb), (ia, MBox rx cx ta n ca), (p1, BBox ry cy sb m kb), (p0, BBox rx cx sa n ka)] [fun W => LsC VT R vv W s1 k1 l1, fun W => FlM W tu q cu us, fun W => FlM W tb m cb ys, fun W => FlM W ta n ca xs]) := HQ4.out.sub (.cons _ (.cons_cons _ (.cons_cons _ (.cons_cons _ (.cons_cons _ .slnil))))) (.cons_cons _ (.cons_cons _ (.cons_cons _ (.cons_cons _ .slnil))))
              refine hK.out _ _ (HKT.out _ HQS) (fun hHeld5 => ?_)
              clear hK K HQS
              try simp only [Act.put, List.setIfInBounds_toArray, List.set_cons_zero, List.set_cons_succ]
              refine take_at 12 12 (.int .i64 VE) rfl rfl (by kernel_rfl) (by kernel_rfl) (by kernel_rfl) (fun _ _ _ h => h) (Or.inl ⟨by rfl, fun w hSw => by (try dsimp only at hSw); go_simp⟩) (by assumption) ?_
              simp only [Act.put, List.setIfInBounds_toArray, List.set_cons_zero, List.set_cons_succ]
              refine wpAnyH_done (by kernel_rfl) ?_ _
              have HF : Hid (FrQ w t4 [(ix, I3 EA EU 0), (ib, MBox ry cy tb m cb), (ia, MBox rx cx ta n ca), (p1, BBox ry cy sb m kb), (p0, BBox rx cx sa n ka)] [fun W => LsC VT R vv W s1 k1 l1, fun W => FlM W tu q cu us, fun W => FlM W tb m cb ys, fun W => FlM W ta n ca xs]) := HQ4.out
              clear HKT HQ0 HQS0
              have HF : Hid (FrQ w t4 [(ib, MBox ry cy tb m cb), (ia, MBox rx cx ta n ca), (p1, BBox ry cy sb m kb), (p0, BBox rx cx sa n ka)] [fun W => LsC VT R vv W s1 k1 l1, fun W => FlM W tu q cu us, fun W => FlM W tb m cb ys, fun W => FlM W ta n ca xs]) := HF.out.sub (.cons _ (.cons_cons _ (.cons_cons _ (.cons_cons _ (.cons_cons _ .slnil))))) (.cons_cons _ (.cons_cons _ (.cons_cons _ (.cons_cons _ .slnil))))
              go_wp2_with fail
              go_meet
              exact ⟨rfl, HF⟩
            · have hsh : shpE cx q = 3 := by unfold shpE; rw [if_neg hcq]
              rw [hsh] at HVE
              have hcb : (cx != (q : Int)) = true := by simpa using hcq
              have HCQ := hid hcq
              clear hsh hcq
              have HKT : Hid (∀ W, Hid (FrQ w W [(ib, MBox ry cy tb m cb), (ia, MBox rx cx ta n ca), (p1, BBox ry cy sb m kb), (p0, BBox rx cx sa n ka)] [fun W => LsC VT R vv W s1 k1 l1, fun W => FlM W tu q cu us, fun W => FlM W tb m cb ys, fun W => FlM W ta n ca xs]) → (W.cell? ⟨ia, 0, none⟩ = some (.int .i64 rx) ∧ W.cell? ⟨ia, 1, none⟩ = some (.int .i64 cx) ∧ W.cell? ⟨ia, 2, none⟩ = some (.slice ta n ca) ∧ W.cell? ⟨p0, 0, none⟩ = some (.int .i64 rx) ∧ W.cell? ⟨p0, 1, none⟩ = some (.int .i64 cx) ∧ W.cell? ⟨p0, 2, none⟩ = some (.slice sa n ka)) ∧ Hid (FrQ w W [(ib, MBox ry cy tb m cb), (ia, MBox rx cx ta n ca), (p1, BBox ry cy sb m kb), (p0, BBox rx cx sa n ka)] [fun W => LsC VT R vv W s1 k1 l1, fun W => FlM W tu q cu us, fun W => FlM W tb m cb ys, fun W => FlM W ta n ca xs])) := fun W hW => by
                obtain ⟨a00, a01, a02⟩ := mcells_of (hW.out.at 1 rfl : W.heap[ia]? = some (MBox rx cx ta n ca))
                obtain ⟨a10, a11, a12⟩ := bcells_of (hW.out.at 3 rfl : W.heap[p0]? = some (BBox rx cx sa n ka))
                exact ⟨⟨a00, a01, a02, a10, a11, a12⟩, hW⟩
              have HQ0 : Hid (FrQ w u9.drew [(ib, MBox ry cy tb m cb), (ia, MBox rx cx ta n ca), (p1, BBox ry cy sb m kb), (p0, BBox rx cx sa n ka)] [fun W => LsC VT R vv W s1 k1 l1, fun W => FlM W tu q cu us, fun W => FlM W tb m cb ys, fun W => FlM W ta n ca xs]) := HF.out.drew
              have HQS0 : Hid (FrQ w u9.drew [(ib, MBox ry cy tb m cb), (ia, MBox rx cx ta n ca), (p1, BBox ry cy sb m kb), (p0, BBox rx cx sa n ka)] [fun W => LsC VT R vv W s1 k1 l1, fun W => FlM W tu q cu us, fun W => FlM W tb m cb ys, fun W => FlM W ta n ca xs]) := HQ0.out.sub (.cons_cons _ (.cons_cons _ (.cons_cons _ (.cons_cons _ .slnil)))) (.cons_cons _ (.cons_cons _ (.cons_cons _ (.cons_cons _ .slnil))))
              go_wp2_with fail
              refine wp_region_held_drew (S := fun W => (W.cell? ⟨ia, 0, none⟩ = some (.int .i64 rx) ∧ W.cell? ⟨ia, 1, none⟩ = some (.int .i64 cx) ∧ W.cell? ⟨ia, 2, none⟩ = some (.slice ta n ca) ∧ W.cell? ⟨p0, 0, none⟩ = some (.int .i64 rx) ∧ W.cell? ⟨p0, 1, none⟩ = some (.int .i64 cx) ∧ W.cell? ⟨p0, 2, none⟩ = some (.slice sa n ka)) ∧ Hid (FrQ w W [(ib, MBox ry cy tb m cb), (ia, MBox rx cx ta n ca), (p1, BBox ry cy sb m kb), (p0, BBox rx cx sa n ka)] [fun W => LsC VT R vv W s1 k1 l1, fun W => FlM W tu q cu us, fun W => FlM W tb m cb ys, fun W => FlM W ta n ca xs])) (by kernel_rfl) (HKT.out _ HQS0) (fun hHeld => ?_)
              refine take_at 0 87 (.agg #[.int .i64 rx, .int .i64 cx, .slice ta n ca]) rfl rfl (by kernel_rfl) (by kernel_rfl) (by kernel_rfl) (fun _ _ _ h => h) (Or.inl ⟨by rfl, fun w hSw => by (try dsimp only at hSw); go_simp⟩) (by assumption) ?_
              simp only [Act.put, List.setIfInBounds_toArray, List.set_cons_zero, List.set_cons_succ]
              refine take_at 2 89 (.slice tu q cu) rfl rfl (by kernel_rfl) (by kernel_rfl) (by kernel_rfl) (fun _ _ _ h => h) (Or.inl ⟨by rfl, fun w hSw => by (try dsimp only at hSw); go_simp⟩) (by assumption) ?_
              simp only [Act.put, List.setIfInBounds_toArray, List.set_cons_zero, List.set_cons_succ]
              refine take_at 4 91 (.pointer (some ⟨p0, 1, none⟩)) rfl rfl (by kernel_rfl) (by kernel_rfl) (by kernel_rfl) (fun _ _ _ h => h) (Or.inl ⟨by rfl, fun w hSw => by (try dsimp only at hSw); go_simp⟩) (by assumption) ?_
              simp only [Act.put, List.setIfInBounds_toArray, List.set_cons_zero, List.set_cons_succ]
              refine take_at 5 92 (.int .i64 cx) rfl rfl (by kernel_rfl) (by kernel_rfl) (by kernel_rfl) (fun _ _ _ h => h) (Or.inl ⟨by rfl, fun w hSw => by (try dsimp only at hSw); go_simp⟩) (by assumption) ?_
              simp only [Act.put, List.setIfInBounds_toArray, List.set_cons_zero, List.set_cons_succ]
              refine take_at 6 93 (.slice tu q cu) rfl rfl (by kernel_rfl) (by kernel_rfl) (by kernel_rfl) (fun _ _ _ h => h) (Or.inl ⟨by rfl, fun w hSw => by (try dsimp only at hSw); go_simp⟩) (by assumption) ?_
              simp only [Act.put, List.setIfInBounds_toArray, List.set_cons_zero, List.set_cons_succ]
              refine take_at 7 94 (.int .i64 q) rfl rfl (by kernel_rfl) (by kernel_rfl) (by kernel_rfl) (fun _ _ _ h => h) (Or.inl ⟨by rfl, fun w hSw => by (try dsimp only at hSw); go_simp⟩) (by assumption) ?_
              simp only [Act.put, List.setIfInBounds_toArray, List.set_cons_zero, List.set_cons_succ]
              refine take_at 8 95 (.bool true) rfl rfl (by kernel_rfl) (by kernel_rfl) (by kernel_rfl) (fun _ _ _ h => h) (Or.inl ⟨by rfl, fun w hSw => by (try dsimp only at hSw); go_simp⟩) (by assumption) ?_
              simp only [Act.put, List.setIfInBounds_toArray, List.set_cons_zero, List.set_cons_succ]
              refine wpAnyH_ready (rs := [1]) (by kernel_rfl) (by simp) ?_
              refine AllReadyH.cons (o := _) rfl (fun K hK => ?_) AllReadyH.nil
              go_simp
              refine (HCA.out _ (HQ0.out.get (g := fun W => FlM W ta n ca xs) 3 rfl)).mono ?_
              rintro e t1 ⟨rfl, hbq⟩
              have HQ1 : Hid (FrQ w t1 [(ib, MBox ry cy tb m cb), (ia, MBox rx cx ta n ca), (p1, BBox ry cy sb m kb), (p0, BBox rx cx sa n ka)] [fun W => LsC VT R vv W s1 k1 l1, fun W => FlM W tu q cu us, fun W => FlM W tb m cb ys, fun W => FlM W ta n ca xs]) := HQ0.out.call hbq
              clear hbq
              go_wp2_with fail
              have HQS : Hid (FrQ w t1 [(ib, MBox ry cy tb m cb), (ia, MBox rx cx ta n ca), (p1, BBox ry cy sb m kb), (p0, BBox rx cx sa n ka)] [fun W => LsC VT R vv W s1 k1 l1, fun W => FlM W tu q cu us, fun W => FlM W tb m cb ys, fun W => FlM W ta n ca xs]) := HQ1.out.sub (.cons_cons _ (.cons_cons _ (.cons_cons _ (.cons_cons _ .slnil)))) (.cons_cons _ (.cons_cons _ (.cons_cons _ (.cons_cons _ .slnil))))
              refine hK.out _ _ (HKT.out _ HQS) (fun hHeld1 => ?_)
              clear hK K HQS
              try simp only [Act.put, List.setIfInBounds_toArray, List.set_cons_zero, List.set_cons_succ]
              refine wpAnyH_ready (rs := [3]) (by kernel_rfl) (by simp) ?_
              refine AllReadyH.cons (o := _) rfl (fun K hK => ?_) AllReadyH.nil
              go_simp
              refine (HLI.out _ (HQ1.out.get (g := fun W => FlM W tu q cu us) 1 rfl)).mono ?_
              rintro e ww ⟨rfl, hw⟩
              rw [hw]
              clear hw
              go_wp2_with fail
              have HQS : Hid (FrQ w t1 [(ib, MBox ry cy tb m cb), (ia, MBox rx cx ta n ca), (p1, BBox ry cy sb m kb), (p0, BBox rx cx sa n ka)] [fun W => LsC VT R vv W s1 k1 l1, fun W => FlM W tu q cu us, fun W => FlM W tb m cb ys, fun W => FlM W ta n ca xs]) := HQ1.out.sub (.cons_cons _ (.cons_cons _ (.cons_cons _ (.cons_cons _ .slnil)))) (.cons_cons _ (.cons_cons _ (.cons_cons _ (.cons_cons _ .slnil))))
              refine hK.out _ _ (HKT.out _ HQS) (fun hHeld2 => ?_)
              clear hK K HQS
              try simp only [Act.put, List.setIfInBounds_toArray, List.set_cons_zero, List.set_cons_succ]
              refine wpAnyH_ready (rs := [9]) (by kernel_rfl) (by simp) ?_
              refine AllReadyH.cons (o := _) rfl (fun K hK => ?_) AllReadyH.nil
              go_simp
              refine (If_yes 3 _).mono ?_
              rintro e ww ⟨rfl, hw⟩
              rw [hw]
              clear hw
              go_wp2_with fail
              have HQS : Hid (FrQ w t1 [(ib, MBox ry cy tb m cb), (ia, MBox rx cx ta n ca), (p1, BBox ry cy sb m kb), (p0, BBox rx cx sa n ka)] [fun W => LsC VT R vv W s1 k1 l1, fun W => FlM W tu q cu us, fun W => FlM W tb m cb ys, fun W => FlM W ta n ca xs]) := HQ1.out.sub (.cons_cons _ (.cons_cons _ (.cons_cons _ (.cons_cons _ .slnil)))) (.cons_cons _ (.cons_cons _ (.cons_cons _ (.cons_cons _ .slnil))))
              refine hK.out _ _ (HKT.out _ HQS) (fun hHeld3 => ?_)
              clear hK K HQS
              try simp only [Act.put, List.setIfInBounds_toArray, List.set_cons_zero, List.set_cons_succ]
              refine wpAnyH_ready (rs := [10]) (by kernel_rfl) (by simp) ?_
              refine AllReadyH.cons (o := _) rfl (fun K hK => ?_) AllReadyH.nil
              have HQ4 : Hid (FrQ w (t1.alloc (I3 EA EU 3)) [(t1.heap.size, I3 EA EU 3), (ib, MBox ry cy tb m cb), (ia, MBox rx cx ta n ca), (p1, BBox ry cy sb m kb), (p0, BBox rx cx sa n ka)] [fun W => LsC VT R vv W s1 k1 l1, fun W => FlM W tu q cu us, fun W => FlM W tb m cb ys, fun W => FlM W ta n ca xs]) := HQ1.out.alloc _
              go_simp
              go_wp2_with fail
              have HQS : Hid (FrQ w (t1.alloc (I3 EA EU 3)) [(ib, MBox ry cy tb m cb), (ia, MBox rx cx ta n ca), (p1, BBox ry cy sb m kb), (p0, BBox rx cx sa n ka)] [fun W => LsC VT R vv W s1 k1 l1, fun W => FlM W tu q cu us, fun W => FlM W tb m cb ys, fun W => FlM W ta n ca xs]) := HQ4.out.sub (.cons _ (.cons_cons _ (.cons_cons _ (.cons_cons _ (.cons_cons _ .slnil))))) (.cons_cons _ (.cons_cons _ (.cons_cons _ (.cons_cons _ .slnil))))
              refine hK.out _ _ (HKT.out _ HQS) (fun hHeld4 => ?_)
              clear hK K HQS
              try simp only [Act.put, List.setIfInBounds_toArray, List.set_cons_zero, List.set_cons_succ]
              obtain ⟨t4, ht4⟩ : ∃ X, Hid (t1.alloc (I3 EA EU 3) = X) := ⟨_, rfl⟩
              obtain ⟨ix, hix⟩ : ∃ X, Hid (t1.heap.size = X) := ⟨_, rfl⟩
              rw [ht4.out, hix.out] at HQ4
              have hy1 : t1.alloc (.cells #[.int .i64 EA, .int .i64 EU, .int .i64 3] 3) = t4 := ht4.out
              have hy2 := hix.out
              rw [hy1]
              rw [hy2]
              clear hy1 hy2
              refine wpAnyH_ready (rs := [11]) (by kernel_rfl) (by simp) ?_
              refine AllReadyH.cons (o := _) rfl (fun K hK => ?_) AllReadyH.nil
              go_simp
              refine (First_three _ EA EU 3 _ (HQ4.out.at 0 rfl : t4.heap[ix]? = some (I3 EA EU 3))).mono ?_
              rintro e ww ⟨rfl, hw⟩
              rw [hw]
              clear hw
              rw [← HVE.out]
              go_wp2_with fail
              have HQS : Hid (FrQ w t4 [(ib, MBox ry cy tb m cb), (ia, MBox rx cx ta n ca), (p1, BBox ry cy sb m kb), (p0, BBox rx cx sa n ka)] [fun W => LsC VT R vv W s1 k1 l1, fun W => FlM W tu q cu us, fun W => FlM W tb m cb ys, fun W => FlM W ta n ca xs]) := HQ4.out.sub (.cons _ (.cons_cons _ (.cons_cons _ (.cons_cons _ (.cons_cons _ .slnil))))) (.cons_cons _ (.cons_cons _ (.cons_cons _ (.cons_cons _ .slnil))))
              refine hK.out _ _ (HKT.out _ HQS) (fun hHeld5 => ?_)
              clear hK K HQS
              try simp only [Act.put, List.setIfInBounds_toArray, List.set_cons_zero, List.set_cons_succ]
              refine take_at 12 12 (.int .i64 VE) rfl rfl (by kernel_rfl) (by kernel_rfl) (by kernel_rfl) (fun _ _ _ h => h) (Or.inl ⟨by rfl, fun w hSw => by (try dsimp only at hSw); go_simp⟩) (by assumption) ?_
              simp only [Act.put, List.setIfInBounds_toArray, List.set_cons_zero, List.set_cons_succ]
              refine wpAnyH_done (by kernel_rfl) ?_ _
              have HF : Hid (FrQ w t4 [(ix, I3 EA EU 3), (ib, MBox ry cy tb m cb), (ia, MBox rx cx ta n ca), (p1, BBox ry cy sb m kb), (p0, BBox rx cx sa n ka)] [fun W => LsC VT R vv W s1 k1 l1, fun W => FlM W tu q cu us, fun W => FlM W tb m cb ys, fun W => FlM W ta n ca xs]) := HQ4.out
              clear HKT HQ0 HQS0
              have HF : Hid (FrQ w t4 [(ib, MBox ry cy tb m cb), (ia, MBox rx cx ta n ca), (p1, BBox ry cy sb m kb), (p0, BBox rx cx sa n ka)] [fun W => LsC VT R vv W s1 k1 l1, fun W => FlM W tu q cu us, fun W => FlM W tb m cb ys, fun W => FlM W ta n ca xs]) := HF.out.sub (.cons _ (.cons_cons _ (.cons_cons _ (.cons_cons _ (.cons_cons _ .slnil))))) (.cons_cons _ (.cons_cons _ (.cons_cons _ (.cons_cons _ .slnil))))
              go_wp2_with fail
              go_meet
              exact ⟨rfl, HF⟩
          case rest =>
            obtain ⟨rfl, HF⟩ := hcut
            by_cases hV0 : VE = 0
            · have HRW := hid (fun W h h2 => HRV.out W h h2 hV0)
              have HVU := hid (HVT.out hV0)
              subst hV0
              obtain ⟨c00, c01, c02⟩ := mcells_of (HF.out.at 1 rfl : wc.heap[ia]? = some (MBox rx cx ta n ca))
              go_wp2_with fail
              refine (HRW.out _ (HF.out.get (g := fun W => FlM W ta n ca xs) 3 rfl) (HF.out.get (g := fun W => FlM W tu q cu us) 1 rfl)).mono ?_
              rintro e u10 ⟨⟨s2, l2, o2, rfl, hf2, hv2, hq2, hr2⟩, hb⟩
              have HF : Hid (FrQ w u10 [(ib, MBox ry cy tb m cb), (ia, MBox rx cx ta n ca), (p1, BBox ry cy sb m kb), (p0, BBox rx cx sa n ka)] [fun W => LsC VT R vv W s1 k1 l1, fun W => FlM W tu q cu us, fun W => FlM W tb m cb ys, fun W => FlM W ta n ca xs]) := HF.out.call hb
              have HF : Hid (FrQ w u10 [(ib, MBox ry cy tb m cb), (ia, MBox rx cx ta n ca), (p1, BBox ry cy sb m kb), (p0, BBox rx cx sa n ka)] [fun W => FnM W s2 R l2 o2, fun W => LsC VT R vv W s1 k1 l1, fun W => FlM W tu q cu us, fun W => FlM W tb m cb ys, fun W => FlM W ta n ca xs]) := HF.out.add (kept_fn _ _ _ _) hf2
              clear hb
              have HV2 := hid hv2
              have HR2 := hid hr2
              have HQ2 := hid hq2
              clear hf2 hv2 hr2 hq2
              have HAF := hid (fun W (h : FnM W s2 R l2 o2) => rallF R s2 l2 o2 W h (Nat.le_trans HR2.out (by decide)))
              rw [HQ2.out] at HAF
              cases hfin : finF R vv with
              | false =>
                rw [hfin] at HAF HVU
                have hvz : VT = 5 := HVU.out
                clear HVU
                subst hvz
                have HFI := hid hfin
                clear hfin
                go_wp2_with fail
                refine (HAF.out _ (HF.out.get (g := fun W => FnM W s2 R l2 o2) 0 rfl)).mono ?_
                rintro e ww ⟨rfl, hw⟩
                rw [hw]
                clear hw
                go_wp2_with fail
                refine (If_yes 5 _).mono ?_
                rintro e ww ⟨rfl, hw⟩
                rw [hw]
                clear hw
                go_wp2_with fail
                refine (list_res 5 R vv _ s2 _ _ R l2 _ (HF.out.get (g := fun W => LsC 5 R vv W s1 k1 l1) 1 rfl) (fun h => absurd h (by decide))).mono ?_
                rintro e u11 ⟨rfl, hb⟩
                have HF : Hid (FrQ w u11 [(ib, MBox ry cy tb m cb), (ia, MBox rx cx ta n ca), (p1, BBox ry cy sb m kb), (p0, BBox rx cx sa n ka)] [fun W => FnM W s2 R l2 o2, fun W => LsC 5 R vv W s1 k1 l1, fun W => FlM W tu q cu us, fun W => FlM W tb m cb ys, fun W => FlM W ta n ca xs]) := HF.out.call hb
                clear hb
                go_wp2_with fail
                go_ret
                exact ⟨rfl, HF.out.bel⟩
              | true =>
                rw [hfin] at HAF HVU
                have hvz : VT = 0 := HVU.out
                clear HVU
                subst hvz
                have HFI := hid hfin
                clear hfin
                go_wp2_with fail
                refine (HAF.out _ (HF.out.get (g := fun W => FnM W s2 R l2 o2) 0 rfl)).mono ?_
                rintro e ww ⟨rfl, hw⟩
                rw [hw]
                clear hw
                go_wp2_with fail
                refine (If_no 5 _).mono ?_
                rintro e ww ⟨rfl, hw⟩
                rw [hw]
                clear hw
                go_wp2_with fail
                refine (list_res 0 R vv _ s2 _ _ R l2 _ (HF.out.get (g := fun W => LsC 0 R vv W s1 k1 l1) 1 rfl) (fun _ => Or.inl ⟨rfl, rfl, o2, (HF.out.get (g := fun W => FnM W s2 R l2 o2) 0 rfl), HV2.out⟩)).mono ?_
                rintro e u11 ⟨rfl, hb⟩
                have HF : Hid (FrQ w u11 [(ib, MBox ry cy tb m cb), (ia, MBox rx cx ta n ca), (p1, BBox ry cy sb m kb), (p0, BBox rx cx sa n ka)] [fun W => FnM W s2 R l2 o2, fun W => LsC 0 R vv W s1 k1 l1, fun W => FlM W tu q cu us, fun W => FlM W tb m cb ys, fun W => FlM W ta n ca xs]) := HF.out.call hb
                clear hb
                go_wp2_with fail
                go_ret
                exact ⟨rfl, HF.out.bel⟩
            · have hne : (VE == 0) = false := by simpa using hV0
              have hvn := HVN.out hV0
              have HNZ := hid hV0
              clear hV0
              subst hvn
              go_wp2_with fail
              refine (list_res VT R vv _ _ _ _ _ _ _ (HF.out.get (g := fun W => LsC VT R vv W s1 k1 l1) 0 rfl) (fun h => absurd h HNZ.out)).mono ?_
              rintro e u10 ⟨rfl, hb⟩
              have HF : Hid (FrQ w u10 [(ib, MBox ry cy tb m cb), (ia, MBox rx cx ta n ca), (p1, BBox ry cy sb m kb), (p0, BBox rx cx sa n ka)] [fun W => LsC VT R vv W s1 k1 l1, fun W => FlM W tu q cu us, fun W => FlM W tb m cb ys, fun W => FlM W ta n ca xs]) := HF.out.call hb
              clear hb
              go_wp2_with fail
              go_ret
              exact ⟨rfl, HF.out.bel⟩
end Go.Proofs.Ythnblidkbcficaa
