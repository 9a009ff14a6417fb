
/- The law MatrixKinds. (Written by mkncj.py.) -/
import Derived.Test.YthnblidkbcficaaP48
import Derived.Test.YthnblidkbcficaaP41
namespace Go.Proofs.Ythnblidkbcficaa
open Go.RowKit Go.IntWalk

theorem if_sq (rx cx : Int) : (if (rx != cx) = true then (3 : Int) else 0) = if rx = cx then 0 else 3 := by
  by_cases h : rx = cx
  · subst h; simp
  · rw [if_pos (by simpa using h), if_neg h]
theorem same_nn (x : Nat) (hx : x ≤ 9218868437227405312) (w : World) : Calls Try.prog 26 #[.float .f64 x, .float .f64 x] w fun e w' => e = .returned (.bool true) ∧ w' = w := by
  have := sameq_any x x w (by omega)
  rw [show (x == canonOf x) = true from by unfold canonOf; rw [if_neg (by omega)]; simp] at this
  exact this
theorem tr_can (f : Nat → Nat) (c : Nat) : ∀ k, trM f c k < 18446744073709551616 ∧ canonOf (trM f c k) = trM f c k
  | 0 => ⟨by show 0 < _; decide, by show canonOf 0 = 0; decide⟩
  | k + 1 => ⟨caf_lt .add (Or.inl rfl) _ _, caf_can .add _ _⟩
theorem number_tr (rx cx : Int) (n : Nat) (xs : List Nat) (W : World) : Calls Try.prog 57 #[.float .f64 (trD rx cx n xs), .int .i64 (trT rx cx n xs), .float .f64 (trD rx cx n xs), .int .i64 (trT rx cx n xs)] W fun e w' => e = .returned (.bool true) ∧ w' = W := by
  unfold trD
  by_cases h : trT rx cx n xs = 0
  · rw [if_pos h, h]
    have q := tr_can (fun j => xs.getD j 0) rx.toNat rx.toNat
    exact number_yes _ _ q.1 q.2.symm W
  · rw [if_neg h]
    exact number_no _ h _ W
theorem nrm_no (rx cx : Int) (n : Nat) (xs : List Nat) (h : chkM rx cx n xs ≠ 0) : nrmT rx cx n xs = chkM rx cx n xs ∧ ∀ v, nrmX rx cx n xs v = 0 :=
  ⟨by unfold nrmT; rw [if_neg h], fun v => by unfold nrmX nrmK; rw [decide_eq_false h, Bool.false_and, if_neg (by decide)]⟩
set_option maxRecDepth 20000 in
set_option maxHeartbeats 16000000 in
theorem mkind_walk (rx cx : Int) (sa : Option Addr) (n ka : Nat) (xs : List Nat) (ry cy : Int) (sb : Option Addr) (m kb : Nat) (ys : List Nat) (w : World) (hu : U64At w sa n xs) (hn : n ≤ 17592186043904) (hv : U64At w sb m ys) (hm : m ≤ 17592186043904) :
    Calls Try.prog 8 #[.agg #[.int .i64 rx, .int .i64 cx, .slice sa n ka], .agg #[.int .i64 ry, .int .i64 cy, .slice sb m kb]] w fun e w' => e = .returned (.bool true) ∧ Below w.heap.size w w' := by
  have HOX := hid (fun W (hW : Below w.heap.size w W) => of_any rx cx sa n ka xs W (hu.below hW) hn)
  have HOY := hid (fun W (hW : Below w.heap.size w W) => of_any ry cy sb m kb ys W (hv.below hW) hm)
  have HNM := hid (And.intro hn hm)
  have HXL := hid hu.2.1
  have HF : Hid (FrQ w ((w.alloc (BBox rx cx sa n ka)).alloc (BBox ry cy sb m kb)) [(w.heap.size + 1, BBox ry cy sb m kb), (w.heap.size, BBox rx cx sa n ka)] []) := by
    have := ((FrQ.start w).alloc (BBox rx cx sa n ka)).alloc (BBox ry cy sb m kb)
    rw [show (w.alloc (BBox rx cx sa n ka)).heap.size = w.heap.size + 1 from by simp] at this
    exact this
  obtain ⟨V, hV⟩ : ∃ V, Hid ((w.alloc (BBox rx cx sa n ka)).alloc (BBox ry cy sb m kb) = V) := ⟨_, rfl⟩
  obtain ⟨p0, hp0⟩ : ∃ t, Hid (w.heap.size = t) := ⟨_, rfl⟩
  obtain ⟨p1, hp1⟩ : ∃ t, Hid (p0 + 1 = t) := ⟨_, rfl⟩
  rw [hV.out, hp0.out, hp1.out] at HF
  have hV' := hV.out
  unfold BBox at hV'
  have hp0' := hp0.out
  have hp1' := hp1.out
  clear hu hv hn hm
  go_enter Try.func8, Try.ntmps8
  have HKT : Hid (∀ W, Hid (FrQ w W [(p1, BBox ry cy sb m kb), (p0, BBox rx cx sa n ka)] []) → (W.cell? ⟨p0, 0, none⟩ = some (.int .i64 rx) ∧ W.cell? ⟨p0, 1, none⟩ = some (.int .i64 cx) ∧ W.cell? ⟨p0, 2, none⟩ = some (.slice sa n ka) ∧ W.cell? ⟨p1, 0, none⟩ = some (.int .i64 ry) ∧ W.cell? ⟨p1, 1, none⟩ = some (.int .i64 cy) ∧ W.cell? ⟨p1, 2, none⟩ = some (.slice sb m kb)) ∧ Hid (FrQ w W [(p1, BBox ry cy sb m kb), (p0, BBox rx cx sa n ka)] [])) := fun W hW => by
    obtain ⟨a00, a01, a02⟩ := bcells_of (hW.out.at 1 rfl : W.heap[p0]? = some (BBox rx cx sa n ka))
    obtain ⟨a10, a11, a12⟩ := bcells_of (hW.out.at 0 rfl : W.heap[p1]? = some (BBox ry cy sb m kb))
    exact ⟨⟨a00, a01, a02, a10, a11, a12⟩, hW⟩
  have HQ0 : Hid (FrQ w V.drew [(p1, BBox ry cy sb m kb), (p0, BBox rx cx sa n ka)] []) := HF.out.drew
  have HQS0 : Hid (FrQ w V.drew [(p1, BBox ry cy sb m kb), (p0, BBox rx cx sa n ka)] []) := HQ0.out.sub (.cons_cons _ (.cons_cons _ .slnil)) .slnil
  go_wp2_with fail
  refine region_merge2 (fun a0 a' w' => ∃ (ta : Option Addr) (ca : Nat) (tb : Option Addr) (cb ia ib : Nat), a' = Act.put (Act.put (Act.put (Act.put (Act.put (Act.put (a0) (some 20) (.agg #[.int .i64 rx, .int .i64 cx, .slice sa n ka])) (some 22) (.agg #[.int .i64 ry, .int .i64 cy, .slice sb m kb])) (some 21) (.agg #[.int .i64 rx, .int .i64 cx, .slice ta n ca])) (some 23) (.agg #[.int .i64 ry, .int .i64 cy, .slice tb m cb])) (some 5) (.pointer (some ⟨ia, 0, none⟩))) (some 6) (.pointer (some ⟨ib, 0, none⟩)) ∧ FrQ w w' [(ib, MBox ry cy tb m cb), (ia, MBox rx cx ta n ca), (p1, BBox ry cy sb m kb), (p0, BBox rx cx sa n ka)] [fun W => FlM W tb m cb ys, fun W => FlM W ta n ca xs]) (fun HR => ?_) ?_
  · simp only [Act.put, List.setIfInBounds_toArray, List.set_cons_zero, List.set_cons_succ] at HR
    refine wp_region_held_drew (S := fun W => (W.cell? ⟨p0, 0, none⟩ = some (.int .i64 rx) ∧ W.cell? ⟨p0, 1, none⟩ = some (.int .i64 cx) ∧ W.cell? ⟨p0, 2, none⟩ = some (.slice sa n ka) ∧ W.cell? ⟨p1, 0, none⟩ = some (.int .i64 ry) ∧ W.cell? ⟨p1, 1, none⟩ = some (.int .i64 cy) ∧ W.cell? ⟨p1, 2, none⟩ = some (.slice sb m kb)) ∧ Hid (FrQ w W [(p1, BBox ry cy sb m kb), (p0, BBox rx cx sa n ka)] [])) (by kernel_rfl) (HKT.out _ HQS0) (fun hHeld => ?_)
    refine take_at 0 20 (.agg #[.int .i64 rx, .int .i64 cx, .slice sa n ka]) rfl rfl (by kernel_rfl) (by kernel_rfl) (by kernel_rfl) (fun _ _ _ h => h) (Or.inl ⟨by rfl, fun w hSw => by (try dsimp only at hSw); go_simp⟩) (by assumption) ?_
    simp only [Act.put, List.setIfInBounds_toArray, List.set_cons_zero, List.set_cons_succ]
    refine take_at 2 22 (.agg #[.int .i64 ry, .int .i64 cy, .slice sb m kb]) rfl rfl (by kernel_rfl) (by kernel_rfl) (by kernel_rfl) (fun _ _ _ h => h) (Or.inl ⟨by rfl, fun w hSw => by (try dsimp only at hSw); go_simp⟩) (by assumption) ?_
    simp only [Act.put, List.setIfInBounds_toArray, List.set_cons_zero, List.set_cons_succ]
    refine wpAnyH_ready (rs := [1, 4, 5]) (by kernel_rfl) (by simp) ?_
    refine AllReadyH.cons (o := _) rfl (fun K hK => ?_) (AllReadyH.cons (o := _) rfl (fun K hK => ?_) (AllReadyH.cons (o := _) rfl (fun K hK => ?_) AllReadyH.nil))
    · go_simp
      refine (HOX.out _ HQ0.out.bel).mono ?_
      rintro e t1 ⟨⟨ta, ca, rfl, hf⟩, hbq⟩
      have HQ1 := hid (HQ0.out.call hbq)
      have HQ1 := hid (HQ1.out.add (g := fun W => FlM W ta n ca xs) (kept_fl _ _ _ _) hf)
      clear hbq
      unfold MV
      go_wp2_with fail
      have HQS := hid (HQ1.out.sub (.cons_cons _ (.cons_cons _ .slnil)) (.cons _ .slnil))
      refine hK.out _ _ (HKT.out _ HQS) (fun hHeld1 => ?_)
      clear hK K HQS
      try simp only [Act.put, List.setIfInBounds_toArray, List.set_cons_zero, List.set_cons_succ]
      refine wpAnyH_ready (rs := [3, 4, 5]) (by kernel_rfl) (by simp) ?_
      refine AllReadyH.cons (o := _) rfl (fun K hK => ?_) (AllReadyH.cons (o := _) rfl (fun K hK => ?_) (AllReadyH.cons (o := _) rfl (fun K hK => ?_) AllReadyH.nil))
      · go_simp
        refine (HOY.out _ HQ1.out.bel).mono ?_
        rintro e t2 ⟨⟨tb, cb, rfl, hf⟩, hbq⟩
        have HQ2 := hid (HQ1.out.call hbq)
        have HQ2 := hid (HQ2.out.add (g := fun W => FlM W tb m cb ys) (kept_fl _ _ _ _) hf)
        clear hbq
        unfold MV
        go_wp2_with fail
        have HQS := hid (HQ2.out.sub (.cons_cons _ (.cons_cons _ .slnil)) (.cons _ (.cons _ .slnil)))
        refine hK.out _ _ (HKT.out _ HQS) (fun hHeld2 => ?_)
        clear hK K HQS
        try simp only [Act.put, List.setIfInBounds_toArray, List.set_cons_zero, List.set_cons_succ]
        refine wpAnyH_ready (rs := [4, 5]) (by kernel_rfl) (by simp) ?_
        refine AllReadyH.cons (o := _) rfl (fun K hK => ?_) (AllReadyH.cons (o := _) rfl (fun K hK => ?_) AllReadyH.nil)
        · have HQ3 := hid (HQ2.out.alloc (MBox 0 0 none 0 0))
          go_simp
          go_wp2_with fail
          have HQS := hid (HQ3.out.sub (.cons _ (.cons_cons _ (.cons_cons _ .slnil))) (.cons _ (.cons _ .slnil)))
          refine hK.out _ _ (HKT.out _ HQS) (fun hHeld3 => ?_)
          clear hK K HQS
          try simp only [Act.put, List.setIfInBounds_toArray, List.set_cons_zero, List.set_cons_succ]
          obtain ⟨t3, ht3⟩ : ∃ X, Hid (t2.alloc (MBox 0 0 none 0 0) = X) := ⟨_, rfl⟩
          obtain ⟨ia, hia⟩ : ∃ X, Hid (t2.heap.size = X) := ⟨_, rfl⟩
          rw [ht3.out, hia.out] at HQ3
          have hy1 : t2.alloc (.cells #[.int .i64 0, .int .i64 0, .slice none 0 0] 32) = t3 := ht3.out
          have hy2 := hia.out
          rw [hy1]
          rw [hy2]
          clear hy1 hy2
          refine wpAnyH_ready (rs := [5]) (by kernel_rfl) (by simp) ?_
          refine AllReadyH.cons (o := _) rfl (fun K hK => ?_) AllReadyH.nil
          have HQ4 := hid (HQ3.out.alloc (MBox 0 0 none 0 0))
          go_simp
          go_wp2_with fail
          have HQS := hid (HQ4.out.sub (.cons _ (.cons _ (.cons_cons _ (.cons_cons _ .slnil)))) (.cons _ (.cons _ .slnil)))
          refine hK.out _ _ (HKT.out _ HQS) (fun hHeld4 => ?_)
          clear hK K HQS
          try simp only [Act.put, List.setIfInBounds_toArray, List.set_cons_zero, List.set_cons_succ]
          obtain ⟨t4, ht4⟩ : ∃ X, Hid (t3.alloc (MBox 0 0 none 0 0) = X) := ⟨_, rfl⟩
          obtain ⟨ib, hib⟩ : ∃ X, Hid (t3.heap.size = X) := ⟨_, rfl⟩
          rw [ht4.out, hib.out] at HQ4
          have hy1 : t3.alloc (.cells #[.int .i64 0, .int .i64 0, .slice none 0 0] 32) = t4 := ht4.out
          have hy2 := hib.out
          rw [hy1]
          rw [hy2]
          clear hy1 hy2
          refine wpAnyH_ready (rs := [6]) (by kernel_rfl) (by simp) ?_
          refine AllReadyH.cons (o := _) rfl (fun K hK => ?_) AllReadyH.nil
          obtain ⟨z0, z1, z2⟩ := mcells_of (HQ4.out.at 1 rfl : t4.heap[ia]? = some (MBox 0 0 none 0 0))
          have fz := frzM (HQ4.out.at 1 rfl : t4.heap[ia]? = some (MBox 0 0 none 0 0))
          have HQ5 : Hid (FrQ w (StoM t4 ia rx cx ta n ca) [(ib, MBox 0 0 none 0 0), (ia, MBox rx cx ta n ca), (p1, BBox ry cy sb m kb), (p0, BBox rx cx sa n ka)] [fun W => FlM W tb m cb ys, fun W => FlM W ta n ca xs]) := HQ4.out.sto 1 rfl
          obtain ⟨U5, hU5⟩ : ∃ X, Hid ((StoM t4 ia rx cx ta n ca) = X) := ⟨_, rfl⟩
          rw [hU5.out] at HQ5
          have hU5' := hU5.out
          unfold StoM at hU5'
          go_simp
          go_wp2_with fail
          have HQS := hid (HQ5.out.sub (.cons _ (.cons _ (.cons_cons _ (.cons_cons _ .slnil)))) (.cons _ (.cons _ .slnil)))
          refine hK.out _ _ (HKT.out _ HQS) (fun hHeld5 => ?_)
          clear hK K HQS
          try simp only [Act.put, List.setIfInBounds_toArray, List.set_cons_zero, List.set_cons_succ]
          clear z0 z1 z2 fz
          refine wpAnyH_ready (rs := [7]) (by kernel_rfl) (by simp) ?_
          refine AllReadyH.cons (o := _) rfl (fun K hK => ?_) AllReadyH.nil
          obtain ⟨z0, z1, z2⟩ := mcells_of (HQ5.out.at 0 rfl : U5.heap[ib]? = some (MBox 0 0 none 0 0))
          have fz := frzM (HQ5.out.at 0 rfl : U5.heap[ib]? = some (MBox 0 0 none 0 0))
          have HQ6 : Hid (FrQ w (StoM U5 ib ry cy tb m cb) [(ib, MBox ry cy tb m cb), (ia, MBox rx cx ta n ca), (p1, BBox ry cy sb m kb), (p0, BBox rx cx sa n ka)] [fun W => FlM W tb m cb ys, fun W => FlM W ta n ca xs]) := HQ5.out.sto 0 rfl
          obtain ⟨U6, hU6⟩ : ∃ X, Hid ((StoM U5 ib ry cy tb m cb) = X) := ⟨_, rfl⟩
          rw [hU6.out] at HQ6
          have hU6' := hU6.out
          unfold StoM at hU6'
          go_simp
          go_wp2_with fail
          have HQS := hid (HQ6.out.sub (.cons _ (.cons _ (.cons_cons _ (.cons_cons _ .slnil)))) (.cons _ (.cons _ .slnil)))
          refine hK.out _ _ (HKT.out _ HQS) (fun hHeld6 => ?_)
          clear hK K HQS
          try simp only [Act.put, List.setIfInBounds_toArray, List.set_cons_zero, List.set_cons_succ]
          clear z0 z1 z2 fz
          refine wpAnyH_done (by kernel_rfl) ?_ _
          exact HR.out _ _ ⟨ta, ca, tb, cb, ia, ib, rfl, HQ6.out⟩
        · have HQ3 := hid (HQ2.out.alloc (MBox 0 0 none 0 0))
          go_simp
          go_wp2_with fail
          have HQS := hid (HQ3.out.sub (.cons _ (.cons_cons _ (.cons_cons _ .slnil))) (.cons _ (.cons _ .slnil)))
          refine hK.out _ _ (HKT.out _ HQS) (fun hHeld3 => ?_)
          clear hK K HQS
          try simp only [Act.put, List.setIfInBounds_toArray, List.set_cons_zero, List.set_cons_succ]
          obtain ⟨t3, ht3⟩ : ∃ X, Hid (t2.alloc (MBox 0 0 none 0 0) = X) := ⟨_, rfl⟩
          obtain ⟨ib, hib⟩ : ∃ X, Hid (t2.heap.size = X) := ⟨_, rfl⟩
          rw [ht3.out, hib.out] at HQ3
          have hy1 : t2.alloc (.cells #[.int .i64 0, .int .i64 0, .slice none 0 0] 32) = t3 := ht3.out
          have hy2 := hib.out
          rw [hy1]
          rw [hy2]
          clear hy1 hy2
          refine wpAnyH_ready (rs := [4]) (by kernel_rfl) (by simp) ?_
          refine AllReadyH.cons (o := _) rfl (fun K hK => ?_) AllReadyH.nil
          have HQ4 := hid (HQ3.out.alloc (MBox 0 0 none 0 0))
          go_simp
          go_wp2_with fail
          have HQS := hid (HQ4.out.sub (.cons _ (.cons _ (.cons_cons _ (.cons_cons _ .slnil)))) (.cons _ (.cons _ .slnil)))
          refine hK.out _ _ (HKT.out _ HQS) (fun hHeld4 => ?_)
          clear hK K HQS
          try simp only [Act.put, List.setIfInBounds_toArray, List.set_cons_zero, List.set_cons_succ]
          obtain ⟨t4, ht4⟩ : ∃ X, Hid (t3.alloc (MBox 0 0 none 0 0) = X) := ⟨_, rfl⟩
          obtain ⟨ia, hia⟩ : ∃ X, Hid (t3.heap.size = X) := ⟨_, rfl⟩
          rw [ht4.out, hia.out] at HQ4
          have hy1 : t3.alloc (.cells #[.int .i64 0, .int .i64 0, .slice none 0 0] 32) = t4 := ht4.out
          have hy2 := hia.out
          rw [hy1]
          rw [hy2]
          clear hy1 hy2
          refine wpAnyH_ready (rs := [6]) (by kernel_rfl) (by simp) ?_
          refine AllReadyH.cons (o := _) rfl (fun K hK => ?_) AllReadyH.nil
          obtain ⟨z0, z1, z2⟩ := mcells_of (HQ4.out.at 0 rfl : t4.heap[ia]? = some (MBox 0 0 none 0 0))
          have fz := frzM (HQ4.out.at 0 rfl : t4.heap[ia]? = some (MBox 0 0 none 0 0))
          have HQ5 : Hid (FrQ w (StoM t4 ia rx cx ta n ca) [(ia, MBox rx cx ta n ca), (ib, MBox 0 0 none 0 0), (p1, BBox ry cy sb m kb), (p0, BBox rx cx sa n ka)] [fun W => FlM W tb m cb ys, fun W => FlM W ta n ca xs]) := HQ4.out.sto 0 rfl
          obtain ⟨U5, hU5⟩ : ∃ X, Hid ((StoM t4 ia rx cx ta n ca) = X) := ⟨_, rfl⟩
          rw [hU5.out] at HQ5
          have hU5' := hU5.out
          unfold StoM at hU5'
          go_simp
          go_wp2_with fail
          have HQS := hid (HQ5.out.sub (.cons _ (.cons _ (.cons_cons _ (.cons_cons _ .slnil)))) (.cons _ (.cons _ .slnil)))
          refine hK.out _ _ (HKT.out _ HQS) (fun hHeld5 => ?_)
          clear hK K HQS
          try simp only [Act.put, List.setIfInBounds_toArray, List.set_cons_zero, List.set_cons_succ]
          clear z0 z1 z2 fz
          refine wpAnyH_ready (rs := [7]) (by kernel_rfl) (by simp) ?_
          refine AllReadyH.cons (o := _) rfl (fun K hK => ?_) AllReadyH.nil
          obtain ⟨z0, z1, z2⟩ := mcells_of (HQ5.out.at 1 rfl : U5.heap[ib]? = some (MBox 0 0 none 0 0))
          have fz := frzM (HQ5.out.at 1 rfl : U5.heap[ib]? = some (MBox 0 0 none 0 0))
          have HQ6 : Hid (FrQ w (StoM U5 ib ry cy tb m cb) [(ia, MBox rx cx ta n ca), (ib, MBox ry cy tb m cb), (p1, BBox ry cy sb m kb), (p0, BBox rx cx sa n ka)] [fun W => FlM W tb m cb ys, fun W => FlM W ta n ca xs]) := HQ5.out.sto 1 rfl
          obtain ⟨U6, hU6⟩ : ∃ X, Hid ((StoM U5 ib ry cy tb m cb) = X) := ⟨_, rfl⟩
          rw [hU6.out] at HQ6
          have hU6' := hU6.out
          unfold StoM at hU6'
          go_simp
          go_wp2_with fail
          have HQS := hid (HQ6.out.sub (.cons _ (.cons _ (.cons_cons _ (.cons_cons _ .slnil)))) (.cons _ (.cons _ .slnil)))
          refine hK.out _ _ (HKT.out _ HQS) (fun hHeld6 => ?_)
          clear hK K HQS
          try simp only [Act.put, List.setIfInBounds_toArray, List.set_cons_zero, List.set_cons_succ]
          clear z0 z1 z2 fz
          refine wpAnyH_done (by kernel_rfl) ?_ _
          have HQ6 : Hid (FrQ w U6 [(ib, MBox ry cy tb m cb), (ia, MBox rx cx ta n ca), (p1, BBox ry cy sb m kb), (p0, BBox rx cx sa n ka)] [fun W => FlM W tb m cb ys, fun W => FlM W ta n ca xs]) := HQ6.out.swap
          exact HR.out _ _ ⟨ta, ca, tb, cb, ia, ib, rfl, HQ6.out⟩
      · have HQ2 := hid (HQ1.out.alloc (MBox 0 0 none 0 0))
        go_simp
        go_wp2_with fail
        have HQS := hid (HQ2.out.sub (.cons _ (.cons_cons _ (.cons_cons _ .slnil))) (.cons _ .slnil))
        refine hK.out _ _ (HKT.out _ HQS) (fun hHeld2 => ?_)
        clear hK K HQS
        try simp only [Act.put, List.setIfInBounds_toArray, List.set_cons_zero, List.set_cons_succ]
        obtain ⟨t2, ht2⟩ : ∃ X, Hid (t1.alloc (MBox 0 0 none 0 0) = X) := ⟨_, rfl⟩
        obtain ⟨ia, hia⟩ : ∃ X, Hid (t1.heap.size = X) := ⟨_, rfl⟩
        rw [ht2.out, hia.out] at HQ2
        have hy1 : t1.alloc (.cells #[.int .i64 0, .int .i64 0, .slice none 0 0] 32) = t2 := ht2.out
        have hy2 := hia.out
        rw [hy1]
        rw [hy2]
        clear hy1 hy2
        refine wpAnyH_ready (rs := [3, 5]) (by kernel_rfl) (by simp) ?_
        refine AllReadyH.cons (o := _) rfl (fun K hK => ?_) (AllReadyH.cons (o := _) rfl (fun K hK => ?_) AllReadyH.nil)
        · go_simp
          refine (HOY.out _ HQ2.out.bel).mono ?_
          rintro e t3 ⟨⟨tb, cb, rfl, hf⟩, hbq⟩
          have HQ3 := hid (HQ2.out.call hbq)
          have HQ3 := hid (HQ3.out.add (g := fun W => FlM W tb m cb ys) (kept_fl _ _ _ _) hf)
          clear hbq
          unfold MV
          go_wp2_with fail
          have HQS := hid (HQ3.out.sub (.cons _ (.cons_cons _ (.cons_cons _ .slnil))) (.cons _ (.cons _ .slnil)))
          refine hK.out _ _ (HKT.out _ HQS) (fun hHeld3 => ?_)
          clear hK K HQS
          try simp only [Act.put, List.setIfInBounds_toArray, List.set_cons_zero, List.set_cons_succ]
          refine wpAnyH_ready (rs := [5]) (by kernel_rfl) (by simp) ?_
          refine AllReadyH.cons (o := _) rfl (fun K hK => ?_) AllReadyH.nil
          have HQ4 := hid (HQ3.out.alloc (MBox 0 0 none 0 0))
          go_simp
          go_wp2_with fail
          have HQS := hid (HQ4.out.sub (.cons _ (.cons _ (.cons_cons _ (.cons_cons _ .slnil)))) (.cons _ (.cons _ .slnil)))
          refine hK.out _ _ (HKT.out _ HQS) (fun hHeld4 => ?_)
          clear hK K HQS
          try simp only [Act.put, List.setIfInBounds_toArray, List.set_cons_zero, List.set_cons_succ]
          obtain ⟨t4, ht4⟩ : ∃ X, Hid (t3.alloc (MBox 0 0 none 0 0) = X) := ⟨_, rfl⟩
          obtain ⟨ib, hib⟩ : ∃ X, Hid (t3.heap.size = X) := ⟨_, rfl⟩
          rw [ht4.out, hib.out] at HQ4
          have hy1 : t3.alloc (.cells #[.int .i64 0, .int .i64 0, .slice none 0 0] 32) = t4 := ht4.out
          have hy2 := hib.out
          rw [hy1]
          rw [hy2]
          clear hy1 hy2
          refine wpAnyH_ready (rs := [6]) (by kernel_rfl) (by simp) ?_
          refine AllReadyH.cons (o := _) rfl (fun K hK => ?_) AllReadyH.nil
          obtain ⟨z0, z1, z2⟩ := mcells_of (HQ4.out.at 1 rfl : t4.heap[ia]? = some (MBox 0 0 none 0 0))
          have fz := frzM (HQ4.out.at 1 rfl : t4.heap[ia]? = some (MBox 0 0 none 0 0))
          have HQ5 : Hid (FrQ w (StoM t4 ia rx cx ta n ca) [(ib, MBox 0 0 none 0 0), (ia, MBox rx cx ta n ca), (p1, BBox ry cy sb m kb), (p0, BBox rx cx sa n ka)] [fun W => FlM W tb m cb ys, fun W => FlM W ta n ca xs]) := HQ4.out.sto 1 rfl
          obtain ⟨U5, hU5⟩ : ∃ X, Hid ((StoM t4 ia rx cx ta n ca) = X) := ⟨_, rfl⟩
          rw [hU5.out] at HQ5
          have hU5' := hU5.out
          unfold StoM at hU5'
          go_simp
          go_wp2_with fail
          have HQS := hid (HQ5.out.sub (.cons _ (.cons _ (.cons_cons _ (.cons_cons _ .slnil)))) (.cons _ (.cons _ .slnil)))
          refine hK.out _ _ (HKT.out _ HQS) (fun hHeld5 => ?_)
          clear hK K HQS
          try simp only [Act.put, List.setIfInBounds_toArray, List.set_cons_zero, List.set_cons_succ]
          clear z0 z1 z2 fz
          refine wpAnyH_ready (rs := [7]) (by kernel_rfl) (by simp) ?_
          refine AllReadyH.cons (o := _) rfl (fun K hK => ?_) AllReadyH.nil
          obtain ⟨z0, z1, z2⟩ := mcells_of (HQ5.out.at 0 rfl : U5.heap[ib]? = some (MBox 0 0 none 0 0))
          have fz := frzM (HQ5.out.at 0 rfl : U5.heap[ib]? = some (MBox 0 0 none 0 0))
          have HQ6 : Hid (FrQ w (StoM U5 ib ry cy tb m cb) [(ib, MBox ry cy tb m cb), (ia, MBox rx cx ta n ca), (p1, BBox ry cy sb m kb), (p0, BBox rx cx sa n ka)] [fun W => FlM W tb m cb ys, fun W => FlM W ta n ca xs]) := HQ5.out.sto 0 rfl
          obtain ⟨U6, hU6⟩ : ∃ X, Hid ((StoM U5 ib ry cy tb m cb) = X) := ⟨_, rfl⟩
          rw [hU6.out] at HQ6
          have hU6' := hU6.out
          unfold StoM at hU6'
          go_simp
          go_wp2_with fail
          have HQS := hid (HQ6.out.sub (.cons _ (.cons _ (.cons_cons _ (.cons_cons _ .slnil)))) (.cons _ (.cons _ .slnil)))
          refine hK.out _ _ (HKT.out _ HQS) (fun hHeld6 => ?_)
          clear hK K HQS
          try simp only [Act.put, List.setIfInBounds_toArray, List.set_cons_zero, List.set_cons_succ]
          clear z0 z1 z2 fz
          refine wpAnyH_done (by kernel_rfl) ?_ _
          exact HR.out _ _ ⟨ta, ca, tb, cb, ia, ib, rfl, HQ6.out⟩
        · have HQ3 := hid (HQ2.out.alloc (MBox 0 0 none 0 0))
          go_simp
          go_wp2_with fail
          have HQS := hid (HQ3.out.sub (.cons _ (.cons _ (.cons_cons _ (.cons_cons _ .slnil)))) (.cons _ .slnil))
          refine hK.out _ _ (HKT.out _ HQS) (fun hHeld3 => ?_)
          clear hK K HQS
          try simp only [Act.put, List.setIfInBounds_toArray, List.set_cons_zero, List.set_cons_succ]
          obtain ⟨t3, ht3⟩ : ∃ X, Hid (t2.alloc (MBox 0 0 none 0 0) = X) := ⟨_, rfl⟩
          obtain ⟨ib, hib⟩ : ∃ X, Hid (t2.heap.size = X) := ⟨_, rfl⟩
          rw [ht3.out, hib.out] at HQ3
          have hy1 : t2.alloc (.cells #[.int .i64 0, .int .i64 0, .slice none 0 0] 32) = t3 := ht3.out
          have hy2 := hib.out
          rw [hy1]
          rw [hy2]
          clear hy1 hy2
          refine wpAnyH_ready (rs := [3]) (by kernel_rfl) (by simp) ?_
          refine AllReadyH.cons (o := _) rfl (fun K hK => ?_) AllReadyH.nil
          go_simp
          refine (HOY.out _ HQ3.out.bel).mono ?_
          rintro e t4 ⟨⟨tb, cb, rfl, hf⟩, hbq⟩
          have HQ4 := hid (HQ3.out.call hbq)
          have HQ4 := hid (HQ4.out.add (g := fun W => FlM W tb m cb ys) (kept_fl _ _ _ _) hf)
          clear hbq
          unfold MV
          go_wp2_with fail
          have HQS := hid (HQ4.out.sub (.cons _ (.cons _ (.cons_cons _ (.cons_cons _ .slnil)))) (.cons _ (.cons _ .slnil)))
          refine hK.out _ _ (HKT.out _ HQS) (fun hHeld4 => ?_)
          clear hK K HQS
          try simp only [Act.put, List.setIfInBounds_toArray, List.set_cons_zero, List.set_cons_succ]
          refine wpAnyH_ready (rs := [6]) (by kernel_rfl) (by simp) ?_
          refine AllReadyH.cons (o := _) rfl (fun K hK => ?_) AllReadyH.nil
          obtain ⟨z0, z1, z2⟩ := mcells_of (HQ4.out.at 1 rfl : t4.heap[ia]? = some (MBox 0 0 none 0 0))
          have fz := frzM (HQ4.out.at 1 rfl : t4.heap[ia]? = some (MBox 0 0 none 0 0))
          have HQ5 : Hid (FrQ w (StoM t4 ia rx cx ta n ca) [(ib, MBox 0 0 none 0 0), (ia, MBox rx cx ta n ca), (p1, BBox ry cy sb m kb), (p0, BBox rx cx sa n ka)] [fun W => FlM W tb m cb ys, fun W => FlM W ta n ca xs]) := HQ4.out.sto 1 rfl
          obtain ⟨U5, hU5⟩ : ∃ X, Hid ((StoM t4 ia rx cx ta n ca) = X) := ⟨_, rfl⟩
          rw [hU5.out] at HQ5
          have hU5' := hU5.out
          unfold StoM at hU5'
          go_simp
          go_wp2_with fail
          have HQS := hid (HQ5.out.sub (.cons _ (.cons _ (.cons_cons _ (.cons_cons _ .slnil)))) (.cons _ (.cons _ .slnil)))
          refine hK.out _ _ (HKT.out _ HQS) (fun hHeld5 => ?_)
          clear hK K HQS
          try simp only [Act.put, List.setIfInBounds_toArray, List.set_cons_zero, List.set_cons_succ]
          clear z0 z1 z2 fz
          refine wpAnyH_ready (rs := [7]) (by kernel_rfl) (by simp) ?_
          refine AllReadyH.cons (o := _) rfl (fun K hK => ?_) AllReadyH.nil
          obtain ⟨z0, z1, z2⟩ := mcells_of (HQ5.out.at 0 rfl : U5.heap[ib]? = some (MBox 0 0 none 0 0))
          have fz := frzM (HQ5.out.at 0 rfl : U5.heap[ib]? = some (MBox 0 0 none 0 0))
          have HQ6 : Hid (FrQ w (StoM U5 ib ry cy tb m cb) [(ib, MBox ry cy tb m cb), (ia, MBox rx cx ta n ca), (p1, BBox ry cy sb m kb), (p0, BBox rx cx sa n ka)] [fun W => FlM W tb m cb ys, fun W => FlM W ta n ca xs]) := HQ5.out.sto 0 rfl
          obtain ⟨U6, hU6⟩ : ∃ X, Hid ((StoM U5 ib ry cy tb m cb) = X) := ⟨_, rfl⟩
          rw [hU6.out] at HQ6
          have hU6' := hU6.out
          unfold StoM at hU6'
          go_simp
          go_wp2_with fail
          have HQS := hid (HQ6.out.sub (.cons _ (.cons _ (.cons_cons _ (.cons_cons _ .slnil)))) (.cons _ (.cons _ .slnil)))
          refine hK.out _ _ (HKT.out _ HQS) (fun hHeld6 => ?_)
          clear hK K HQS
          try simp only [Act.put, List.setIfInBounds_toArray, List.set_cons_zero, List.set_cons_succ]
          clear z0 z1 z2 fz
          refine wpAnyH_done (by kernel_rfl) ?_ _
          exact HR.out _ _ ⟨ta, ca, tb, cb, ia, ib, rfl, HQ6.out⟩
      · have HQ2 := hid (HQ1.out.alloc (MBox 0 0 none 0 0))
        go_simp
        go_wp2_with fail
        have HQS := hid (HQ2.out.sub (.cons _ (.cons_cons _ (.cons_cons _ .slnil))) (.cons _ .slnil))
        refine hK.out _ _ (HKT.out _ HQS) (fun hHeld2 => ?_)
        clear hK K HQS
        try simp only [Act.put, List.setIfInBounds_toArray, List.set_cons_zero, List.set_cons_succ]
        obtain ⟨t2, ht2⟩ : ∃ X, Hid (t1.alloc (MBox 0 0 none 0 0) = X) := ⟨_, rfl⟩
        obtain ⟨ib, hib⟩ : ∃ X, Hid (t1.heap.size = X) := ⟨_, rfl⟩
        rw [ht2.out, hib.out] at HQ2
        have hy1 : t1.alloc (.cells #[.int .i64 0, .int .i64 0, .slice none 0 0] 32) = t2 := ht2.out
        have hy2 := hib.out
        rw [hy1]
        rw [hy2]
        clear hy1 hy2
        refine wpAnyH_ready (rs := [3, 4]) (by kernel_rfl) (by simp) ?_
        refine AllReadyH.cons (o := _) rfl (fun K hK => ?_) (AllReadyH.cons (o := _) rfl (fun K hK => ?_) AllReadyH.nil)
        · go_simp
          refine (HOY.out _ HQ2.out.bel).mono ?_
          rintro e t3 ⟨⟨tb, cb, rfl, hf⟩, hbq⟩
          have HQ3 := hid (HQ2.out.call hbq)
          have HQ3 := hid (HQ3.out.add (g := fun W => FlM W tb m cb ys) (kept_fl _ _ _ _) hf)
          clear hbq
          unfold MV
          go_wp2_with fail
          have HQS := hid (HQ3.out.sub (.cons _ (.cons_cons _ (.cons_cons _ .slnil))) (.cons _ (.cons _ .slnil)))
          refine hK.out _ _ (HKT.out _ HQS) (fun hHeld3 => ?_)
          clear hK K HQS
          try simp only [Act.put, List.setIfInBounds_toArray, List.set_cons_zero, List.set_cons_succ]
          refine wpAnyH_ready (rs := [4]) (by kernel_rfl) (by simp) ?_
          refine AllReadyH.cons (o := _) rfl (fun K hK => ?_) AllReadyH.nil
          have HQ4 := hid (HQ3.out.alloc (MBox 0 0 none 0 0))
          go_simp
          go_wp2_with fail
          have HQS := hid (HQ4.out.sub (.cons _ (.cons _ (.cons_cons _ (.cons_cons _ .slnil)))) (.cons _ (.cons _ .slnil)))
          refine hK.out _ _ (HKT.out _ HQS) (fun hHeld4 => ?_)
          clear hK K HQS
          try simp only [Act.put, List.setIfInBounds_toArray, List.set_cons_zero, List.set_cons_succ]
          obtain ⟨t4, ht4⟩ : ∃ X, Hid (t3.alloc (MBox 0 0 none 0 0) = X) := ⟨_, rfl⟩
          obtain ⟨ia, hia⟩ : ∃ X, Hid (t3.heap.size = X) := ⟨_, rfl⟩
          rw [ht4.out, hia.out] at HQ4
          have hy1 : t3.alloc (.cells #[.int .i64 0, .int .i64 0, .slice none 0 0] 32) = t4 := ht4.out
          have hy2 := hia.out
          rw [hy1]
          rw [hy2]
          clear hy1 hy2
          refine wpAnyH_ready (rs := [6]) (by kernel_rfl) (by simp) ?_
          refine AllReadyH.cons (o := _) rfl (fun K hK => ?_) AllReadyH.nil
          obtain ⟨z0, z1, z2⟩ := mcells_of (HQ4.out.at 0 rfl : t4.heap[ia]? = some (MBox 0 0 none 0 0))
          have fz := frzM (HQ4.out.at 0 rfl : t4.heap[ia]? = some (MBox 0 0 none 0 0))
          have HQ5 : Hid (FrQ w (StoM t4 ia rx cx ta n ca) [(ia, MBox rx cx ta n ca), (ib, MBox 0 0 none 0 0), (p1, BBox ry cy sb m kb), (p0, BBox rx cx sa n ka)] [fun W => FlM W tb m cb ys, fun W => FlM W ta n ca xs]) := HQ4.out.sto 0 rfl
          obtain ⟨U5, hU5⟩ : ∃ X, Hid ((StoM t4 ia rx cx ta n ca) = X) := ⟨_, rfl⟩
          rw [hU5.out] at HQ5
          have hU5' := hU5.out
          unfold StoM at hU5'
          go_simp
          go_wp2_with fail
          have HQS := hid (HQ5.out.sub (.cons _ (.cons _ (.cons_cons _ (.cons_cons _ .slnil)))) (.cons _ (.cons _ .slnil)))
          refine hK.out _ _ (HKT.out _ HQS) (fun hHeld5 => ?_)
          clear hK K HQS
          try simp only [Act.put, List.setIfInBounds_toArray, List.set_cons_zero, List.set_cons_succ]
          clear z0 z1 z2 fz
          refine wpAnyH_ready (rs := [7]) (by kernel_rfl) (by simp) ?_
          refine AllReadyH.cons (o := _) rfl (fun K hK => ?_) AllReadyH.nil
          obtain ⟨z0, z1, z2⟩ := mcells_of (HQ5.out.at 1 rfl : U5.heap[ib]? = some (MBox 0 0 none 0 0))
          have fz := frzM (HQ5.out.at 1 rfl : U5.heap[ib]? = some (MBox 0 0 none 0 0))
          have HQ6 : Hid (FrQ w (StoM U5 ib ry cy tb m cb) [(ia, MBox rx cx ta n ca), (ib, MBox ry cy tb m cb), (p1, BBox ry cy sb m kb), (p0, BBox rx cx sa n ka)] [fun W => FlM W tb m cb ys, fun W => FlM W ta n ca xs]) := HQ5.out.sto 1 rfl
          obtain ⟨U6, hU6⟩ : ∃ X, Hid ((StoM U5 ib ry cy tb m cb) = X) := ⟨_, rfl⟩
          rw [hU6.out] at HQ6
          have hU6' := hU6.out
          unfold StoM at hU6'
          go_simp
          go_wp2_with fail
          have HQS := hid (HQ6.out.sub (.cons _ (.cons _ (.cons_cons _ (.cons_cons _ .slnil)))) (.cons _ (.cons _ .slnil)))
          refine hK.out _ _ (HKT.out _ HQS) (fun hHeld6 => ?_)
          clear hK K HQS
          try simp only [Act.put, List.setIfInBounds_toArray, List.set_cons_zero, List.set_cons_succ]
          clear z0 z1 z2 fz
          refine wpAnyH_done (by kernel_rfl) ?_ _
          have HQ6 : Hid (FrQ w U6 [(ib, MBox ry cy tb m cb), (ia, MBox rx cx ta n ca), (p1, BBox ry cy sb m kb), (p0, BBox rx cx sa n ka)] [fun W => FlM W tb m cb ys, fun W => FlM W ta n ca xs]) := HQ6.out.swap
          exact HR.out _ _ ⟨ta, ca, tb, cb, ia, ib, rfl, HQ6.out⟩
        · have HQ3 := hid (HQ2.out.alloc (MBox 0 0 none 0 0))
          go_simp
          go_wp2_with fail
          have HQS := hid (HQ3.out.sub (.cons _ (.cons _ (.cons_cons _ (.cons_cons _ .slnil)))) (.cons _ .slnil))
          refine hK.out _ _ (HKT.out _ HQS) (fun hHeld3 => ?_)
          clear hK K HQS
          try simp only [Act.put, List.setIfInBounds_toArray, List.set_cons_zero, List.set_cons_succ]
          obtain ⟨t3, ht3⟩ : ∃ X, Hid (t2.alloc (MBox 0 0 none 0 0) = X) := ⟨_, rfl⟩
          obtain ⟨ia, hia⟩ : ∃ X, Hid (t2.heap.size = X) := ⟨_, rfl⟩
          rw [ht3.out, hia.out] at HQ3
          have hy1 : t2.alloc (.cells #[.int .i64 0, .int .i64 0, .slice none 0 0] 32) = t3 := ht3.out
          have hy2 := hia.out
          rw [hy1]
          rw [hy2]
          clear hy1 hy2
          refine wpAnyH_ready (rs := [3]) (by kernel_rfl) (by simp) ?_
          refine AllReadyH.cons (o := _) rfl (fun K hK => ?_) AllReadyH.nil
          go_simp
          refine (HOY.out _ HQ3.out.bel).mono ?_
          rintro e t4 ⟨⟨tb, cb, rfl, hf⟩, hbq⟩
          have HQ4 := hid (HQ3.out.call hbq)
          have HQ4 := hid (HQ4.out.add (g := fun W => FlM W tb m cb ys) (kept_fl _ _ _ _) hf)
          clear hbq
          unfold MV
          go_wp2_with fail
          have HQS := hid (HQ4.out.sub (.cons _ (.cons _ (.cons_cons _ (.cons_cons _ .slnil)))) (.cons _ (.cons _ .slnil)))
          refine hK.out _ _ (HKT.out _ HQS) (fun hHeld4 => ?_)
          clear hK K HQS
          try simp only [Act.put, List.setIfInBounds_toArray, List.set_cons_zero, List.set_cons_succ]
          refine wpAnyH_ready (rs := [6]) (by kernel_rfl) (by simp) ?_
          refine AllReadyH.cons (o := _) rfl (fun K hK => ?_) AllReadyH.nil
          obtain ⟨z0, z1, z2⟩ := mcells_of (HQ4.out.at 0 rfl : t4.heap[ia]? = some (MBox 0 0 none 0 0))
          have fz := frzM (HQ4.out.at 0 rfl : t4.heap[ia]? = some (MBox 0 0 none 0 0))
          have HQ5 : Hid (FrQ w (StoM t4 ia rx cx ta n ca) [(ia, MBox rx cx ta n ca), (ib, MBox 0 0 none 0 0), (p1, BBox ry cy sb m kb), (p0, BBox rx cx sa n ka)] [fun W => FlM W tb m cb ys, fun W => FlM W ta n ca xs]) := HQ4.out.sto 0 rfl
          obtain ⟨U5, hU5⟩ : ∃ X, Hid ((StoM t4 ia rx cx ta n ca) = X) := ⟨_, rfl⟩
          rw [hU5.out] at HQ5
          have hU5' := hU5.out
          unfold StoM at hU5'
          go_simp
          go_wp2_with fail
          have HQS := hid (HQ5.out.sub (.cons _ (.cons _ (.cons_cons _ (.cons_cons _ .slnil)))) (.cons _ (.cons _ .slnil)))
          refine hK.out _ _ (HKT.out _ HQS) (fun hHeld5 => ?_)
          clear hK K HQS
          try simp only [Act.put, List.setIfInBounds_toArray, List.set_cons_zero, List.set_cons_succ]
          clear z0 z1 z2 fz
          refine wpAnyH_ready (rs := [7]) (by kernel_rfl) (by simp) ?_
          refine AllReadyH.cons (o := _) rfl (fun K hK => ?_) AllReadyH.nil
          obtain ⟨z0, z1, z2⟩ := mcells_of (HQ5.out.at 1 rfl : U5.heap[ib]? = some (MBox 0 0 none 0 0))
          have fz := frzM (HQ5.out.at 1 rfl : U5.heap[ib]? = some (MBox 0 0 none 0 0))
          have HQ6 : Hid (FrQ w (StoM U5 ib ry cy tb m cb) [(ia, MBox rx cx ta n ca), (ib, MBox ry cy tb m cb), (p1, BBox ry cy sb m kb), (p0, BBox rx cx sa n ka)] [fun W => FlM W tb m cb ys, fun W => FlM W ta n ca xs]) := HQ5.out.sto 1 rfl
          obtain ⟨U6, hU6⟩ : ∃ X, Hid ((StoM U5 ib ry cy tb m cb) = X) := ⟨_, rfl⟩
          rw [hU6.out] at HQ6
          have hU6' := hU6.out
          unfold StoM at hU6'
          go_simp
          go_wp2_with fail
          have HQS := hid (HQ6.out.sub (.cons _ (.cons _ (.cons_cons _ (.cons_cons _ .slnil)))) (.cons _ (.cons _ .slnil)))
          refine hK.out _ _ (HKT.out _ HQS) (fun hHeld6 => ?_)
          clear hK K HQS
          try simp only [Act.put, List.setIfInBounds_toArray, List.set_cons_zero, List.set_cons_succ]
          clear z0 z1 z2 fz
          refine wpAnyH_done (by kernel_rfl) ?_ _
          have HQ6 : Hid (FrQ w U6 [(ib, MBox ry cy tb m cb), (ia, MBox rx cx ta n ca), (p1, BBox ry cy sb m kb), (p0, BBox rx cx sa n ka)] [fun W => FlM W tb m cb ys, fun W => FlM W ta n ca xs]) := HQ6.out.swap
          exact HR.out _ _ ⟨ta, ca, tb, cb, ia, ib, rfl, HQ6.out⟩
    · have HQ1 := hid (HQ0.out.alloc (MBox 0 0 none 0 0))
      go_simp
      go_wp2_with fail
      have HQS := hid (HQ1.out.sub (.cons _ (.cons_cons _ (.cons_cons _ .slnil))) .slnil)
      refine hK.out _ _ (HKT.out _ HQS) (fun hHeld1 => ?_)
      clear hK K HQS
      try simp only [Act.put, List.setIfInBounds_toArray, List.set_cons_zero, List.set_cons_succ]
      obtain ⟨t1, ht1⟩ : ∃ X, Hid (V.drew.alloc (MBox 0 0 none 0 0) = X) := ⟨_, rfl⟩
      obtain ⟨ia, hia⟩ : ∃ X, Hid (V.drew.heap.size = X) := ⟨_, rfl⟩
      rw [ht1.out, hia.out] at HQ1
      have hy1 : (V.alloc (.cells #[.int .i64 0, .int .i64 0, .slice none 0 0] 32)).drew = t1 := ht1.out
      have hy2 : V.heap.size = ia := hia.out
      rw [hy1]
      rw [hy2]
      clear hy1 hy2
      refine wpAnyH_ready (rs := [1, 5]) (by kernel_rfl) (by simp) ?_
      refine AllReadyH.cons (o := _) rfl (fun K hK => ?_) (AllReadyH.cons (o := _) rfl (fun K hK => ?_) AllReadyH.nil)
      · go_simp
        refine (HOX.out _ HQ1.out.bel).mono ?_
        rintro e t2 ⟨⟨ta, ca, rfl, hf⟩, hbq⟩
        have HQ2 := hid (HQ1.out.call hbq)
        have HQ2 := hid (HQ2.out.add (g := fun W => FlM W ta n ca xs) (kept_fl _ _ _ _) hf)
        clear hbq
        unfold MV
        go_wp2_with fail
        have HQS := hid (HQ2.out.sub (.cons _ (.cons_cons _ (.cons_cons _ .slnil))) (.cons _ .slnil))
        refine hK.out _ _ (HKT.out _ HQS) (fun hHeld2 => ?_)
        clear hK K HQS
        try simp only [Act.put, List.setIfInBounds_toArray, List.set_cons_zero, List.set_cons_succ]
        refine wpAnyH_ready (rs := [3, 5]) (by kernel_rfl) (by simp) ?_
        refine AllReadyH.cons (o := _) rfl (fun K hK => ?_) (AllReadyH.cons (o := _) rfl (fun K hK => ?_) AllReadyH.nil)
        · go_simp
          refine (HOY.out _ HQ2.out.bel).mono ?_
          rintro e t3 ⟨⟨tb, cb, rfl, hf⟩, hbq⟩
          have HQ3 := hid (HQ2.out.call hbq)
          have HQ3 := hid (HQ3.out.add (g := fun W => FlM W tb m cb ys) (kept_fl _ _ _ _) hf)
          clear hbq
          unfold MV
          go_wp2_with fail
          have HQS := hid (HQ3.out.sub (.cons _ (.cons_cons _ (.cons_cons _ .slnil))) (.cons _ (.cons _ .slnil)))
          refine hK.out _ _ (HKT.out _ HQS) (fun hHeld3 => ?_)
          clear hK K HQS
          try simp only [Act.put, List.setIfInBounds_toArray, List.set_cons_zero, List.set_cons_succ]
          refine wpAnyH_ready (rs := [5]) (by kernel_rfl) (by simp) ?_
          refine AllReadyH.cons (o := _) rfl (fun K hK => ?_) AllReadyH.nil
          have HQ4 := hid (HQ3.out.alloc (MBox 0 0 none 0 0))
          go_simp
          go_wp2_with fail
          have HQS := hid (HQ4.out.sub (.cons _ (.cons _ (.cons_cons _ (.cons_cons _ .slnil)))) (.cons _ (.cons _ .slnil)))
          refine hK.out _ _ (HKT.out _ HQS) (fun hHeld4 => ?_)
          clear hK K HQS
          try simp only [Act.put, List.setIfInBounds_toArray, List.set_cons_zero, List.set_cons_succ]
          obtain ⟨t4, ht4⟩ : ∃ X, Hid (t3.alloc (MBox 0 0 none 0 0) = X) := ⟨_, rfl⟩
          obtain ⟨ib, hib⟩ : ∃ X, Hid (t3.heap.size = X) := ⟨_, rfl⟩
          rw [ht4.out, hib.out] at HQ4
          have hy1 : t3.alloc (.cells #[.int .i64 0, .int .i64 0, .slice none 0 0] 32) = t4 := ht4.out
          have hy2 := hib.out
          rw [hy1]
          rw [hy2]
          clear hy1 hy2
          refine wpAnyH_ready (rs := [6]) (by kernel_rfl) (by simp) ?_
          refine AllReadyH.cons (o := _) rfl (fun K hK => ?_) AllReadyH.nil
          obtain ⟨z0, z1, z2⟩ := mcells_of (HQ4.out.at 1 rfl : t4.heap[ia]? = some (MBox 0 0 none 0 0))
          have fz := frzM (HQ4.out.at 1 rfl : t4.heap[ia]? = some (MBox 0 0 none 0 0))
          have HQ5 : Hid (FrQ w (StoM t4 ia rx cx ta n ca) [(ib, MBox 0 0 none 0 0), (ia, MBox rx cx ta n ca), (p1, BBox ry cy sb m kb), (p0, BBox rx cx sa n ka)] [fun W => FlM W tb m cb ys, fun W => FlM W ta n ca xs]) := HQ4.out.sto 1 rfl
          obtain ⟨U5, hU5⟩ : ∃ X, Hid ((StoM t4 ia rx cx ta n ca) = X) := ⟨_, rfl⟩
          rw [hU5.out] at HQ5
          have hU5' := hU5.out
          unfold StoM at hU5'
          go_simp
          go_wp2_with fail
          have HQS := hid (HQ5.out.sub (.cons _ (.cons _ (.cons_cons _ (.cons_cons _ .slnil)))) (.cons _ (.cons _ .slnil)))
          refine hK.out _ _ (HKT.out _ HQS) (fun hHeld5 => ?_)
          clear hK K HQS
          try simp only [Act.put, List.setIfInBounds_toArray, List.set_cons_zero, List.set_cons_succ]
          clear z0 z1 z2 fz
          refine wpAnyH_ready (rs := [7]) (by kernel_rfl) (by simp) ?_
          refine AllReadyH.cons (o := _) rfl (fun K hK => ?_) AllReadyH.nil
          obtain ⟨z0, z1, z2⟩ := mcells_of (HQ5.out.at 0 rfl : U5.heap[ib]? = some (MBox 0 0 none 0 0))
          have fz := frzM (HQ5.out.at 0 rfl : U5.heap[ib]? = some (MBox 0 0 none 0 0))
          have HQ6 : Hid (FrQ w (StoM U5 ib ry cy tb m cb) [(ib, MBox ry cy tb m cb), (ia, MBox rx cx ta n ca), (p1, BBox ry cy sb m kb), (p0, BBox rx cx sa n ka)] [fun W => FlM W tb m cb ys, fun W => FlM W ta n ca xs]) := HQ5.out.sto 0 rfl
          obtain ⟨U6, hU6⟩ : ∃ X, Hid ((StoM U5 ib ry cy tb m cb) = X) := ⟨_, rfl⟩
          rw [hU6.out] at HQ6
          have hU6' := hU6.out
          unfold StoM at hU6'
          go_simp
          go_wp2_with fail
          have HQS := hid (HQ6.out.sub (.cons _ (.cons _ (.cons_cons _ (.cons_cons _ .slnil)))) (.cons _ (.cons _ .slnil)))
          refine hK.out _ _ (HKT.out _ HQS) (fun hHeld6 => ?_)
          clear hK K HQS
          try simp only [Act.put, List.setIfInBounds_toArray, List.set_cons_zero, List.set_cons_succ]
          clear z0 z1 z2 fz
          refine wpAnyH_done (by kernel_rfl) ?_ _
          exact HR.out _ _ ⟨ta, ca, tb, cb, ia, ib, rfl, HQ6.out⟩
        · have HQ3 := hid (HQ2.out.alloc (MBox 0 0 none 0 0))
          go_simp
          go_wp2_with fail
          have HQS := hid (HQ3.out.sub (.cons _ (.cons _ (.cons_cons _ (.cons_cons _ .slnil)))) (.cons _ .slnil))
          refine hK.out _ _ (HKT.out _ HQS) (fun hHeld3 => ?_)
          clear hK K HQS
          try simp only [Act.put, List.setIfInBounds_toArray, List.set_cons_zero, List.set_cons_succ]
          obtain ⟨t3, ht3⟩ : ∃ X, Hid (t2.alloc (MBox 0 0 none 0 0) = X) := ⟨_, rfl⟩
          obtain ⟨ib, hib⟩ : ∃ X, Hid (t2.heap.size = X) := ⟨_, rfl⟩
          rw [ht3.out, hib.out] at HQ3
          have hy1 : t2.alloc (.cells #[.int .i64 0, .int .i64 0, .slice none 0 0] 32) = t3 := ht3.out
          have hy2 := hib.out
          rw [hy1]
          rw [hy2]
          clear hy1 hy2
          refine wpAnyH_ready (rs := [3]) (by kernel_rfl) (by simp) ?_
          refine AllReadyH.cons (o := _) rfl (fun K hK => ?_) AllReadyH.nil
          go_simp
          refine (HOY.out _ HQ3.out.bel).mono ?_
          rintro e t4 ⟨⟨tb, cb, rfl, hf⟩, hbq⟩
          have HQ4 := hid (HQ3.out.call hbq)
          have HQ4 := hid (HQ4.out.add (g := fun W => FlM W tb m cb ys) (kept_fl _ _ _ _) hf)
          clear hbq
          unfold MV
          go_wp2_with fail
          have HQS := hid (HQ4.out.sub (.cons _ (.cons _ (.cons_cons _ (.cons_cons _ .slnil)))) (.cons _ (.cons _ .slnil)))
          refine hK.out _ _ (HKT.out _ HQS) (fun hHeld4 => ?_)
          clear hK K HQS
          try simp only [Act.put, List.setIfInBounds_toArray, List.set_cons_zero, List.set_cons_succ]
          refine wpAnyH_ready (rs := [6]) (by kernel_rfl) (by simp) ?_
          refine AllReadyH.cons (o := _) rfl (fun K hK => ?_) AllReadyH.nil
          obtain ⟨z0, z1, z2⟩ := mcells_of (HQ4.out.at 1 rfl : t4.heap[ia]? = some (MBox 0 0 none 0 0))
          have fz := frzM (HQ4.out.at 1 rfl : t4.heap[ia]? = some (MBox 0 0 none 0 0))
          have HQ5 : Hid (FrQ w (StoM t4 ia rx cx ta n ca) [(ib, MBox 0 0 none 0 0), (ia, MBox rx cx ta n ca), (p1, BBox ry cy sb m kb), (p0, BBox rx cx sa n ka)] [fun W => FlM W tb m cb ys, fun W => FlM W ta n ca xs]) := HQ4.out.sto 1 rfl
          obtain ⟨U5, hU5⟩ : ∃ X, Hid ((StoM t4 ia rx cx ta n ca) = X) := ⟨_, rfl⟩
          rw [hU5.out] at HQ5
          have hU5' := hU5.out
          unfold StoM at hU5'
          go_simp
          go_wp2_with fail
          have HQS := hid (HQ5.out.sub (.cons _ (.cons _ (.cons_cons _ (.cons_cons _ .slnil)))) (.cons _ (.cons _ .slnil)))
          refine hK.out _ _ (HKT.out _ HQS) (fun hHeld5 => ?_)
          clear hK K HQS
          try simp only [Act.put, List.setIfInBounds_toArray, List.set_cons_zero, List.set_cons_succ]
          clear z0 z1 z2 fz
          refine wpAnyH_ready (rs := [7]) (by kernel_rfl) (by simp) ?_
          refine AllReadyH.cons (o := _) rfl (fun K hK => ?_) AllReadyH.nil
          obtain ⟨z0, z1, z2⟩ := mcells_of (HQ5.out.at 0 rfl : U5.heap[ib]? = some (MBox 0 0 none 0 0))
          have fz := frzM (HQ5.out.at 0 rfl : U5.heap[ib]? = some (MBox 0 0 none 0 0))
          have HQ6 : Hid (FrQ w (StoM U5 ib ry cy tb m cb) [(ib, MBox ry cy tb m cb), (ia, MBox rx cx ta n ca), (p1, BBox ry cy sb m kb), (p0, BBox rx cx sa n ka)] [fun W => FlM W tb m cb ys, fun W => FlM W ta n ca xs]) := HQ5.out.sto 0 rfl
          obtain ⟨U6, hU6⟩ : ∃ X, Hid ((StoM U5 ib ry cy tb m cb) = X) := ⟨_, rfl⟩
          rw [hU6.out] at HQ6
          have hU6' := hU6.out
          unfold StoM at hU6'
          go_simp
          go_wp2_with fail
          have HQS := hid (HQ6.out.sub (.cons _ (.cons _ (.cons_cons _ (.cons_cons _ .slnil)))) (.cons _ (.cons _ .slnil)))
          refine hK.out _ _ (HKT.out _ HQS) (fun hHeld6 => ?_)
          clear hK K HQS
          try simp only [Act.put, List.setIfInBounds_toArray, List.set_cons_zero, List.set_cons_succ]
          clear z0 z1 z2 fz
          refine wpAnyH_done (by kernel_rfl) ?_ _
          exact HR.out _ _ ⟨ta, ca, tb, cb, ia, ib, rfl, HQ6.out⟩
      · have HQ2 := hid (HQ1.out.alloc (MBox 0 0 none 0 0))
        go_simp
        go_wp2_with fail
        have HQS := hid (HQ2.out.sub (.cons _ (.cons _ (.cons_cons _ (.cons_cons _ .slnil)))) .slnil)
        refine hK.out _ _ (HKT.out _ HQS) (fun hHeld2 => ?_)
        clear hK K HQS
        try simp only [Act.put, List.setIfInBounds_toArray, List.set_cons_zero, List.set_cons_succ]
        obtain ⟨t2, ht2⟩ : ∃ X, Hid (t1.alloc (MBox 0 0 none 0 0) = X) := ⟨_, rfl⟩
        obtain ⟨ib, hib⟩ : ∃ X, Hid (t1.heap.size = X) := ⟨_, rfl⟩
        rw [ht2.out, hib.out] at HQ2
        have hy1 : t1.alloc (.cells #[.int .i64 0, .int .i64 0, .slice none 0 0] 32) = t2 := ht2.out
        have hy2 := hib.out
        rw [hy1]
        rw [hy2]
        clear hy1 hy2
        refine wpAnyH_ready (rs := [1]) (by kernel_rfl) (by simp) ?_
        refine AllReadyH.cons (o := _) rfl (fun K hK => ?_) AllReadyH.nil
        go_simp
        refine (HOX.out _ HQ2.out.bel).mono ?_
        rintro e t3 ⟨⟨ta, ca, rfl, hf⟩, hbq⟩
        have HQ3 := hid (HQ2.out.call hbq)
        have HQ3 := hid (HQ3.out.add (g := fun W => FlM W ta n ca xs) (kept_fl _ _ _ _) hf)
        clear hbq
        unfold MV
        go_wp2_with fail
        have HQS := hid (HQ3.out.sub (.cons _ (.cons _ (.cons_cons _ (.cons_cons _ .slnil)))) (.cons _ .slnil))
        refine hK.out _ _ (HKT.out _ HQS) (fun hHeld3 => ?_)
        clear hK K HQS
        try simp only [Act.put, List.setIfInBounds_toArray, List.set_cons_zero, List.set_cons_succ]
        refine wpAnyH_ready (rs := [3]) (by kernel_rfl) (by simp) ?_
        refine AllReadyH.cons (o := _) rfl (fun K hK => ?_) AllReadyH.nil
        go_simp
        refine (HOY.out _ HQ3.out.bel).mono ?_
        rintro e t4 ⟨⟨tb, cb, rfl, hf⟩, hbq⟩
        have HQ4 := hid (HQ3.out.call hbq)
        have HQ4 := hid (HQ4.out.add (g := fun W => FlM W tb m cb ys) (kept_fl _ _ _ _) hf)
        clear hbq
        unfold MV
        go_wp2_with fail
        have HQS := hid (HQ4.out.sub (.cons _ (.cons _ (.cons_cons _ (.cons_cons _ .slnil)))) (.cons _ (.cons _ .slnil)))
        refine hK.out _ _ (HKT.out _ HQS) (fun hHeld4 => ?_)
        clear hK K HQS
        try simp only [Act.put, List.setIfInBounds_toArray, List.set_cons_zero, List.set_cons_succ]
        refine wpAnyH_ready (rs := [6]) (by kernel_rfl) (by simp) ?_
        refine AllReadyH.cons (o := _) rfl (fun K hK => ?_) AllReadyH.nil
        obtain ⟨z0, z1, z2⟩ := mcells_of (HQ4.out.at 1 rfl : t4.heap[ia]? = some (MBox 0 0 none 0 0))
        have fz := frzM (HQ4.out.at 1 rfl : t4.heap[ia]? = some (MBox 0 0 none 0 0))
        have HQ5 : Hid (FrQ w (StoM t4 ia rx cx ta n ca) [(ib, MBox 0 0 none 0 0), (ia, MBox rx cx ta n ca), (p1, BBox ry cy sb m kb), (p0, BBox rx cx sa n ka)] [fun W => FlM W tb m cb ys, fun W => FlM W ta n ca xs]) := HQ4.out.sto 1 rfl
        obtain ⟨U5, hU5⟩ : ∃ X, Hid ((StoM t4 ia rx cx ta n ca) = X) := ⟨_, rfl⟩
        rw [hU5.out] at HQ5
        have hU5' := hU5.out
        unfold StoM at hU5'
        go_simp
        go_wp2_with fail
        have HQS := hid (HQ5.out.sub (.cons _ (.cons _ (.cons_cons _ (.cons_cons _ .slnil)))) (.cons _ (.cons _ .slnil)))
        refine hK.out _ _ (HKT.out _ HQS) (fun hHeld5 => ?_)
        clear hK K HQS
        try simp only [Act.put, List.setIfInBounds_toArray, List.set_cons_zero, List.set_cons_succ]
        clear z0 z1 z2 fz
        refine wpAnyH_ready (rs := [7]) (by kernel_rfl) (by simp) ?_
        refine AllReadyH.cons (o := _) rfl (fun K hK => ?_) AllReadyH.nil
        obtain ⟨z0, z1, z2⟩ := mcells_of (HQ5.out.at 0 rfl : U5.heap[ib]? = some (MBox 0 0 none 0 0))
        have fz := frzM (HQ5.out.at 0 rfl : U5.heap[ib]? = some (MBox 0 0 none 0 0))
        have HQ6 : Hid (FrQ w (StoM U5 ib ry cy tb m cb) [(ib, MBox ry cy tb m cb), (ia, MBox rx cx ta n ca), (p1, BBox ry cy sb m kb), (p0, BBox rx cx sa n ka)] [fun W => FlM W tb m cb ys, fun W => FlM W ta n ca xs]) := HQ5.out.sto 0 rfl
        obtain ⟨U6, hU6⟩ : ∃ X, Hid ((StoM U5 ib ry cy tb m cb) = X) := ⟨_, rfl⟩
        rw [hU6.out] at HQ6
        have hU6' := hU6.out
        unfold StoM at hU6'
        go_simp
        go_wp2_with fail
        have HQS := hid (HQ6.out.sub (.cons _ (.cons _ (.cons_cons _ (.cons_cons _ .slnil)))) (.cons _ (.cons _ .slnil)))
        refine hK.out _ _ (HKT.out _ HQS) (fun hHeld6 => ?_)
        clear hK K HQS
        try simp only [Act.put, List.setIfInBounds_toArray, List.set_cons_zero, List.set_cons_succ]
        clear z0 z1 z2 fz
        refine wpAnyH_done (by kernel_rfl) ?_ _
        exact HR.out _ _ ⟨ta, ca, tb, cb, ia, ib, rfl, HQ6.out⟩
    · have HQ1 := hid (HQ0.out.alloc (MBox 0 0 none 0 0))
      go_simp
      go_wp2_with fail
      have HQS := hid (HQ1.out.sub (.cons _ (.cons_cons _ (.cons_cons _ .slnil))) .slnil)
      refine hK.out _ _ (HKT.out _ HQS) (fun hHeld1 => ?_)
      clear hK K HQS
      try simp only [Act.put, List.setIfInBounds_toArray, List.set_cons_zero, List.set_cons_succ]
      obtain ⟨t1, ht1⟩ : ∃ X, Hid (V.drew.alloc (MBox 0 0 none 0 0) = X) := ⟨_, rfl⟩
      obtain ⟨ib, hib⟩ : ∃ X, Hid (V.drew.heap.size = X) := ⟨_, rfl⟩
      rw [ht1.out, hib.out] at HQ1
      have hy1 : (V.alloc (.cells #[.int .i64 0, .int .i64 0, .slice none 0 0] 32)).drew = t1 := ht1.out
      have hy2 : V.heap.size = ib := hib.out
      rw [hy1]
      rw [hy2]
      clear hy1 hy2
      refine wpAnyH_ready (rs := [1, 4]) (by kernel_rfl) (by simp) ?_
      refine AllReadyH.cons (o := _) rfl (fun K hK => ?_) (AllReadyH.cons (o := _) rfl (fun K hK => ?_) AllReadyH.nil)
      · go_simp
        refine (HOX.out _ HQ1.out.bel).mono ?_
        rintro e t2 ⟨⟨ta, ca, rfl, hf⟩, hbq⟩
        have HQ2 := hid (HQ1.out.call hbq)
        have HQ2 := hid (HQ2.out.add (g := fun W => FlM W ta n ca xs) (kept_fl _ _ _ _) hf)
        clear hbq
        unfold MV
        go_wp2_with fail
        have HQS := hid (HQ2.out.sub (.cons _ (.cons_cons _ (.cons_cons _ .slnil))) (.cons _ .slnil))
        refine hK.out _ _ (HKT.out _ HQS) (fun hHeld2 => ?_)
        clear hK K HQS
        try simp only [Act.put, List.setIfInBounds_toArray, List.set_cons_zero, List.set_cons_succ]
        refine wpAnyH_ready (rs := [3, 4]) (by kernel_rfl) (by simp) ?_
        refine AllReadyH.cons (o := _) rfl (fun K hK => ?_) (AllReadyH.cons (o := _) rfl (fun K hK => ?_) AllReadyH.nil)
        · go_simp
          refine (HOY.out _ HQ2.out.bel).mono ?_
          rintro e t3 ⟨⟨tb, cb, rfl, hf⟩, hbq⟩
          have HQ3 := hid (HQ2.out.call hbq)
          have HQ3 := hid (HQ3.out.add (g := fun W => FlM W tb m cb ys) (kept_fl _ _ _ _) hf)
          clear hbq
          unfold MV
          go_wp2_with fail
          have HQS := hid (HQ3.out.sub (.cons _ (.cons_cons _ (.cons_cons _ .slnil))) (.cons _ (.cons _ .slnil)))
          refine hK.out _ _ (HKT.out _ HQS) (fun hHeld3 => ?_)
          clear hK K HQS
          try simp only [Act.put, List.setIfInBounds_toArray, List.set_cons_zero, List.set_cons_succ]
          refine wpAnyH_ready (rs := [4]) (by kernel_rfl) (by simp) ?_
          refine AllReadyH.cons (o := _) rfl (fun K hK => ?_) AllReadyH.nil
          have HQ4 := hid (HQ3.out.alloc (MBox 0 0 none 0 0))
          go_simp
          go_wp2_with fail
          have HQS := hid (HQ4.out.sub (.cons _ (.cons _ (.cons_cons _ (.cons_cons _ .slnil)))) (.cons _ (.cons _ .slnil)))
          refine hK.out _ _ (HKT.out _ HQS) (fun hHeld4 => ?_)
          clear hK K HQS
          try simp only [Act.put, List.setIfInBounds_toArray, List.set_cons_zero, List.set_cons_succ]
          obtain ⟨t4, ht4⟩ : ∃ X, Hid (t3.alloc (MBox 0 0 none 0 0) = X) := ⟨_, rfl⟩
          obtain ⟨ia, hia⟩ : ∃ X, Hid (t3.heap.size = X) := ⟨_, rfl⟩
          rw [ht4.out, hia.out] at HQ4
          have hy1 : t3.alloc (.cells #[.int .i64 0, .int .i64 0, .slice none 0 0] 32) = t4 := ht4.out
          have hy2 := hia.out
          rw [hy1]
          rw [hy2]
          clear hy1 hy2
          refine wpAnyH_ready (rs := [6]) (by kernel_rfl) (by simp) ?_
          refine AllReadyH.cons (o := _) rfl (fun K hK => ?_) AllReadyH.nil
          obtain ⟨z0, z1, z2⟩ := mcells_of (HQ4.out.at 0 rfl : t4.heap[ia]? = some (MBox 0 0 none 0 0))
          have fz := frzM (HQ4.out.at 0 rfl : t4.heap[ia]? = some (MBox 0 0 none 0 0))
          have HQ5 : Hid (FrQ w (StoM t4 ia rx cx ta n ca) [(ia, MBox rx cx ta n ca), (ib, MBox 0 0 none 0 0), (p1, BBox ry cy sb m kb), (p0, BBox rx cx sa n ka)] [fun W => FlM W tb m cb ys, fun W => FlM W ta n ca xs]) := HQ4.out.sto 0 rfl
          obtain ⟨U5, hU5⟩ : ∃ X, Hid ((StoM t4 ia rx cx ta n ca) = X) := ⟨_, rfl⟩
          rw [hU5.out] at HQ5
          have hU5' := hU5.out
          unfold StoM at hU5'
          go_simp
          go_wp2_with fail
          have HQS := hid (HQ5.out.sub (.cons _ (.cons _ (.cons_cons _ (.cons_cons _ .slnil)))) (.cons _ (.cons _ .slnil)))
          refine hK.out _ _ (HKT.out _ HQS) (fun hHeld5 => ?_)
          clear hK K HQS
          try simp only [Act.put, List.setIfInBounds_toArray, List.set_cons_zero, List.set_cons_succ]
          clear z0 z1 z2 fz
          refine wpAnyH_ready (rs := [7]) (by kernel_rfl) (by simp) ?_
          refine AllReadyH.cons (o := _) rfl (fun K hK => ?_) AllReadyH.nil
          obtain ⟨z0, z1, z2⟩ := mcells_of (HQ5.out.at 1 rfl : U5.heap[ib]? = some (MBox 0 0 none 0 0))
          have fz := frzM (HQ5.out.at 1 rfl : U5.heap[ib]? = some (MBox 0 0 none 0 0))
          have HQ6 : Hid (FrQ w (StoM U5 ib ry cy tb m cb) [(ia, MBox rx cx ta n ca), (ib, MBox ry cy tb m cb), (p1, BBox ry cy sb m kb), (p0, BBox rx cx sa n ka)] [fun W => FlM W tb m cb ys, fun W => FlM W ta n ca xs]) := HQ5.out.sto 1 rfl
          obtain ⟨U6, hU6⟩ : ∃ X, Hid ((StoM U5 ib ry cy tb m cb) = X) := ⟨_, rfl⟩
          rw [hU6.out] at HQ6
          have hU6' := hU6.out
          unfold StoM at hU6'
          go_simp
          go_wp2_with fail
          have HQS := hid (HQ6.out.sub (.cons _ (.cons _ (.cons_cons _ (.cons_cons _ .slnil)))) (.cons _ (.cons _ .slnil)))
          refine hK.out _ _ (HKT.out _ HQS) (fun hHeld6 => ?_)
          clear hK K HQS
          try simp only [Act.put, List.setIfInBounds_toArray, List.set_cons_zero, List.set_cons_succ]
          clear z0 z1 z2 fz
          refine wpAnyH_done (by kernel_rfl) ?_ _
          have HQ6 : Hid (FrQ w U6 [(ib, MBox ry cy tb m cb), (ia, MBox rx cx ta n ca), (p1, BBox ry cy sb m kb), (p0, BBox rx cx sa n ka)] [fun W => FlM W tb m cb ys, fun W => FlM W ta n ca xs]) := HQ6.out.swap
          exact HR.out _ _ ⟨ta, ca, tb, cb, ia, ib, rfl, HQ6.out⟩
        · have HQ3 := hid (HQ2.out.alloc (MBox 0 0 none 0 0))
          go_simp
          go_wp2_with fail
          have HQS := hid (HQ3.out.sub (.cons _ (.cons _ (.cons_cons _ (.cons_cons _ .slnil)))) (.cons _ .slnil))
          refine hK.out _ _ (HKT.out _ HQS) (fun hHeld3 => ?_)
          clear hK K HQS
          try simp only [Act.put, List.setIfInBounds_toArray, List.set_cons_zero, List.set_cons_succ]
          obtain ⟨t3, ht3⟩ : ∃ X, Hid (t2.alloc (MBox 0 0 none 0 0) = X) := ⟨_, rfl⟩
          obtain ⟨ia, hia⟩ : ∃ X, Hid (t2.heap.size = X) := ⟨_, rfl⟩
          rw [ht3.out, hia.out] at HQ3
          have hy1 : t2.alloc (.cells #[.int .i64 0, .int .i64 0, .slice none 0 0] 32) = t3 := ht3.out
          have hy2 := hia.out
          rw [hy1]
          rw [hy2]
          clear hy1 hy2
          refine wpAnyH_ready (rs := [3]) (by kernel_rfl) (by simp) ?_
          refine AllReadyH.cons (o := _) rfl (fun K hK => ?_) AllReadyH.nil
          go_simp
          refine (HOY.out _ HQ3.out.bel).mono ?_
          rintro e t4 ⟨⟨tb, cb, rfl, hf⟩, hbq⟩
          have HQ4 := hid (HQ3.out.call hbq)
          have HQ4 := hid (HQ4.out.add (g := fun W => FlM W tb m cb ys) (kept_fl _ _ _ _) hf)
          clear hbq
          unfold MV
          go_wp2_with fail
          have HQS := hid (HQ4.out.sub (.cons _ (.cons _ (.cons_cons _ (.cons_cons _ .slnil)))) (.cons _ (.cons _ .slnil)))
          refine hK.out _ _ (HKT.out _ HQS) (fun hHeld4 => ?_)
          clear hK K HQS
          try simp only [Act.put, List.setIfInBounds_toArray, List.set_cons_zero, List.set_cons_succ]
          refine wpAnyH_ready (rs := [6]) (by kernel_rfl) (by simp) ?_
          refine AllReadyH.cons (o := _) rfl (fun K hK => ?_) AllReadyH.nil
          obtain ⟨z0, z1, z2⟩ := mcells_of (HQ4.out.at 0 rfl : t4.heap[ia]? = some (MBox 0 0 none 0 0))
          have fz := frzM (HQ4.out.at 0 rfl : t4.heap[ia]? = some (MBox 0 0 none 0 0))
          have HQ5 : Hid (FrQ w (StoM t4 ia rx cx ta n ca) [(ia, MBox rx cx ta n ca), (ib, MBox 0 0 none 0 0), (p1, BBox ry cy sb m kb), (p0, BBox rx cx sa n ka)] [fun W => FlM W tb m cb ys, fun W => FlM W ta n ca xs]) := HQ4.out.sto 0 rfl
          obtain ⟨U5, hU5⟩ : ∃ X, Hid ((StoM t4 ia rx cx ta n ca) = X) := ⟨_, rfl⟩
          rw [hU5.out] at HQ5
          have hU5' := hU5.out
          unfold StoM at hU5'
          go_simp
          go_wp2_with fail
          have HQS := hid (HQ5.out.sub (.cons _ (.cons _ (.cons_cons _ (.cons_cons _ .slnil)))) (.cons _ (.cons _ .slnil)))
          refine hK.out _ _ (HKT.out _ HQS) (fun hHeld5 => ?_)
          clear hK K HQS
          try simp only [Act.put, List.setIfInBounds_toArray, List.set_cons_zero, List.set_cons_succ]
          clear z0 z1 z2 fz
          refine wpAnyH_ready (rs := [7]) (by kernel_rfl) (by simp) ?_
          refine AllReadyH.cons (o := _) rfl (fun K hK => ?_) AllReadyH.nil
          obtain ⟨z0, z1, z2⟩ := mcells_of (HQ5.out.at 1 rfl : U5.heap[ib]? = some (MBox 0 0 none 0 0))
          have fz := frzM (HQ5.out.at 1 rfl : U5.heap[ib]? = some (MBox 0 0 none 0 0))
          have HQ6 : Hid (FrQ w (StoM U5 ib ry cy tb m cb) [(ia, MBox rx cx ta n ca), (ib, MBox ry cy tb m cb), (p1, BBox ry cy sb m kb), (p0, BBox rx cx sa n ka)] [fun W => FlM W tb m cb ys, fun W => FlM W ta n ca xs]) := HQ5.out.sto 1 rfl
          obtain ⟨U6, hU6⟩ : ∃ X, Hid ((StoM U5 ib ry cy tb m cb) = X) := ⟨_, rfl⟩
          rw [hU6.out] at HQ6
          have hU6' := hU6.out
          unfold StoM at hU6'
          go_simp
          go_wp2_with fail
          have HQS := hid (HQ6.out.sub (.cons _ (.cons _ (.cons_cons _ (.cons_cons _ .slnil)))) (.cons _ (.cons _ .slnil)))
          refine hK.out _ _ (HKT.out _ HQS) (fun hHeld6 => ?_)
          clear hK K HQS
          try simp only [Act.put, List.setIfInBounds_toArray, List.set_cons_zero, List.set_cons_succ]
          clear z0 z1 z2 fz
          refine wpAnyH_done (by kernel_rfl) ?_ _
          have HQ6 : Hid (FrQ w U6 [(ib, MBox ry cy tb m cb), (ia, MBox rx cx ta n ca), (p1, BBox ry cy sb m kb), (p0, BBox rx cx sa n ka)] [fun W => FlM W tb m cb ys, fun W => FlM W ta n ca xs]) := HQ6.out.swap
          exact HR.out _ _ ⟨ta, ca, tb, cb, ia, ib, rfl, HQ6.out⟩
      · have HQ2 := hid (HQ1.out.alloc (MBox 0 0 none 0 0))
        go_simp
        go_wp2_with fail
        have HQS := hid (HQ2.out.sub (.cons _ (.cons _ (.cons_cons _ (.cons_cons _ .slnil)))) .slnil)
        refine hK.out _ _ (HKT.out _ HQS) (fun hHeld2 => ?_)
        clear hK K HQS
        try simp only [Act.put, List.setIfInBounds_toArray, List.set_cons_zero, List.set_cons_succ]
        obtain ⟨t2, ht2⟩ : ∃ X, Hid (t1.alloc (MBox 0 0 none 0 0) = X) := ⟨_, rfl⟩
        obtain ⟨ia, hia⟩ : ∃ X, Hid (t1.heap.size = X) := ⟨_, rfl⟩
        rw [ht2.out, hia.out] at HQ2
        have hy1 : t1.alloc (.cells #[.int .i64 0, .int .i64 0, .slice none 0 0] 32) = t2 := ht2.out
        have hy2 := hia.out
        rw [hy1]
        rw [hy2]
        clear hy1 hy2
        refine wpAnyH_ready (rs := [1]) (by kernel_rfl) (by simp) ?_
        refine AllReadyH.cons (o := _) rfl (fun K hK => ?_) AllReadyH.nil
        go_simp
        refine (HOX.out _ HQ2.out.bel).mono ?_
        rintro e t3 ⟨⟨ta, ca, rfl, hf⟩, hbq⟩
        have HQ3 := hid (HQ2.out.call hbq)
        have HQ3 := hid (HQ3.out.add (g := fun W => FlM W ta n ca xs) (kept_fl _ _ _ _) hf)
        clear hbq
        unfold MV
        go_wp2_with fail
        have HQS := hid (HQ3.out.sub (.cons _ (.cons _ (.cons_cons _ (.cons_cons _ .slnil)))) (.cons _ .slnil))
        refine hK.out _ _ (HKT.out _ HQS) (fun hHeld3 => ?_)
        clear hK K HQS
        try simp only [Act.put, List.setIfInBounds_toArray, List.set_cons_zero, List.set_cons_succ]
        refine wpAnyH_ready (rs := [3]) (by kernel_rfl) (by simp) ?_
        refine AllReadyH.cons (o := _) rfl (fun K hK => ?_) AllReadyH.nil
        go_simp
        refine (HOY.out _ HQ3.out.bel).mono ?_
        rintro e t4 ⟨⟨tb, cb, rfl, hf⟩, hbq⟩
        have HQ4 := hid (HQ3.out.call hbq)
        have HQ4 := hid (HQ4.out.add (g := fun W => FlM W tb m cb ys) (kept_fl _ _ _ _) hf)
        clear hbq
        unfold MV
        go_wp2_with fail
        have HQS := hid (HQ4.out.sub (.cons _ (.cons _ (.cons_cons _ (.cons_cons _ .slnil)))) (.cons _ (.cons _ .slnil)))
        refine hK.out _ _ (HKT.out _ HQS) (fun hHeld4 => ?_)
        clear hK K HQS
        try simp only [Act.put, List.setIfInBounds_toArray, List.set_cons_zero, List.set_cons_succ]
        refine wpAnyH_ready (rs := [6]) (by kernel_rfl) (by simp) ?_
        refine AllReadyH.cons (o := _) rfl (fun K hK => ?_) AllReadyH.nil
        obtain ⟨z0, z1, z2⟩ := mcells_of (HQ4.out.at 0 rfl : t4.heap[ia]? = some (MBox 0 0 none 0 0))
        have fz := frzM (HQ4.out.at 0 rfl : t4.heap[ia]? = some (MBox 0 0 none 0 0))
        have HQ5 : Hid (FrQ w (StoM t4 ia rx cx ta n ca) [(ia, MBox rx cx ta n ca), (ib, MBox 0 0 none 0 0), (p1, BBox ry cy sb m kb), (p0, BBox rx cx sa n ka)] [fun W => FlM W tb m cb ys, fun W => FlM W ta n ca xs]) := HQ4.out.sto 0 rfl
        obtain ⟨U5, hU5⟩ : ∃ X, Hid ((StoM t4 ia rx cx ta n ca) = X) := ⟨_, rfl⟩
        rw [hU5.out] at HQ5
        have hU5' := hU5.out
        unfold StoM at hU5'
        go_simp
        go_wp2_with fail
        have HQS := hid (HQ5.out.sub (.cons _ (.cons _ (.cons_cons _ (.cons_cons _ .slnil)))) (.cons _ (.cons _ .slnil)))
        refine hK.out _ _ (HKT.out _ HQS) (fun hHeld5 => ?_)
        clear hK K HQS
        try simp only [Act.put, List.setIfInBounds_toArray, List.set_cons_zero, List.set_cons_succ]
        clear z0 z1 z2 fz
        refine wpAnyH_ready (rs := [7]) (by kernel_rfl) (by simp) ?_
        refine AllReadyH.cons (o := _) rfl (fun K hK => ?_) AllReadyH.nil
        obtain ⟨z0, z1, z2⟩ := mcells_of (HQ5.out.at 1 rfl : U5.heap[ib]? = some (MBox 0 0 none 0 0))
        have fz := frzM (HQ5.out.at 1 rfl : U5.heap[ib]? = some (MBox 0 0 none 0 0))
        have HQ6 : Hid (FrQ w (StoM U5 ib ry cy tb m cb) [(ia, MBox rx cx ta n ca), (ib, MBox ry cy tb m cb), (p1, BBox ry cy sb m kb), (p0, BBox rx cx sa n ka)] [fun W => FlM W tb m cb ys, fun W => FlM W ta n ca xs]) := HQ5.out.sto 1 rfl
        obtain ⟨U6, hU6⟩ : ∃ X, Hid ((StoM U5 ib ry cy tb m cb) = X) := ⟨_, rfl⟩
        rw [hU6.out] at HQ6
        have hU6' := hU6.out
        unfold StoM at hU6'
        go_simp
        go_wp2_with fail
        have HQS := hid (HQ6.out.sub (.cons _ (.cons _ (.cons_cons _ (.cons_cons _ .slnil)))) (.cons _ (.cons _ .slnil)))
        refine hK.out _ _ (HKT.out _ HQS) (fun hHeld6 => ?_)
        clear hK K HQS
        try simp only [Act.put, List.setIfInBounds_toArray, List.set_cons_zero, List.set_cons_succ]
        clear z0 z1 z2 fz
        refine wpAnyH_done (by kernel_rfl) ?_ _
        have HQ6 : Hid (FrQ w U6 [(ib, MBox ry cy tb m cb), (ia, MBox rx cx ta n ca), (p1, BBox ry cy sb m kb), (p0, BBox rx cx sa n ka)] [fun W => FlM W tb m cb ys, fun W => FlM W ta n ca xs]) := HQ6.out.swap
        exact HR.out _ _ ⟨ta, ca, tb, cb, ia, ib, rfl, HQ6.out⟩
  · rintro a' w1 ⟨ta, ca, tb, cb, ia, ib, rfl, hF⟩
    simp only [Act.put, List.setIfInBounds_toArray, List.set_cons_zero, List.set_cons_succ]
    have HF : Hid (FrQ w w1 [(ib, MBox ry cy tb m cb), (ia, MBox rx cx ta n ca), (p1, BBox ry cy sb m kb), (p0, BBox rx cx sa n ka)] [fun W => FlM W tb m cb ys, fun W => FlM W ta n ca xs]) := hF
    clear hF HKT HQ0 HQS0
    have HCA := hid (fun W (h : FlM W ta n ca xs) => rCheck_any rx cx ta n ca xs W h HNM.out.1)
    have HSY := hid (fun W s k (h : FlM W s n k xs) => Sym_tot rx cx s n k xs W h HNM.out.1)
    have HRY := hid (fun W (h : FlM W ta n ca xs) => rSym_tot rx cx ta n ca xs W h HNM.out.1)
    have HLW := hid (fun W s k (h : FlM W s n k xs) => Lower_tot rx cx s n k xs W h HNM.out.1)
    have HRW := hid (fun W (h : FlM W ta n ca xs) => rLower_tot rx cx ta n ca xs W h HNM.out.1)
    have HEQ := hid (fun W s k t l (h : FlM W s n k xs) (h2 : FlM W t m l ys) => Equal_tot rx cx s n k xs ry cy t m l ys W h h2)
    have HRQ := hid (fun W (h : FlM W ta n ca xs) (h2 : FlM W tb m cb ys) => rEqual_tot rx cx ta n ca xs ry cy tb m cb ys W h h2)
    have HES := hid (fun W s k t l (h : FlM W s n k xs) (h2 : FlM W t n l xs) => Equal_tot rx cx s n k xs rx cx t n l xs W h h2)
    rw [eqT_self] at HES
    have HPI := hid (fun W s k (h : FlM W s n k xs) => Mirror_tot rx cx s n k xs W h HNM.out.1)
    have HRI := hid (fun W (h : FlM W ta n ca xs) hz => rMirror_tot rx cx ta n ca xs W h hz)
    have HPE := hid (fun W s k (h : FlM W s n k xs) => Mean_tot rx cx s n k xs W h HNM.out.1)
    have HRE := hid (fun W (h : FlM W ta n ca xs) hz => rMean_tot rx cx ta n ca xs W h hz)
    have HNE : Hid (chkM rx cx n xs ≠ 0 → meaT rx cx n xs = chkM rx cx n xs) := fun h => by unfold meaT; rw [sq_bad h, if_neg h]
    have HPT := hid (fun W s k (h : FlM W s n k xs) => Trace_tot rx cx s n k xs W h HNM.out.1)
    have HRT := hid (fun W (h : FlM W ta n ca xs) hz => rTrace_tot rx cx ta n ca xs W h hz)
    have HNT : Hid (chkM rx cx n xs ≠ 0 → trT rx cx n xs = chkM rx cx n xs ∧ trD rx cx n xs = 0) := fun h => by have q := tr_no (rx := rx) (cx := cx) (n := n) (xs := xs) (by rw [sq_bad h]; exact h); rw [sq_bad h] at q; exact q
    have HNU := hid (number_tr rx cx n xs)
    have HPN := hid (fun W s k (h : FlM W s n k xs) => Norms_tot rx cx s n k xs W h HNM.out.1)
    have HRN := hid (fun W (h : FlM W ta n ca xs) hz => rNorms_tot rx cx ta n ca xs W h hz)
    have HNN : Hid (chkM rx cx n xs ≠ 0 → nrmT rx cx n xs = chkM rx cx n xs ∧ ∀ v, nrmX rx cx n xs v = 0) := nrm_no rx cx n xs
    have HNX := hid (nrmX_fin rx cx n xs (HF.out.get (g := fun W => FlM W ta n ca xs) 1 rfl).1 HXL.out)
    have HIF := hid (fun W => If_any (rx != cx) 3 W)
    rw [show (if (rx != cx) = true then (3 : Int) else 0) = if rx = cx then 0 else 3 from if_sq rx cx] at HIF
    have HFQ := hid (fun b W h => First_two b (chkM rx cx n xs) (if rx = cx then 0 else 3) W h)
    rw [first_two2, show first2 (chkM rx cx n xs) (if rx = cx then 0 else 3) = sqE rx cx n xs from rfl] at HFQ
    obtain ⟨SQ, hSQ⟩ : ∃ t, Hid (sqE rx cx n xs = t) := ⟨_, rfl⟩
    rw [hSQ.out] at HFQ HPI HRI
    obtain ⟨SY, hSY⟩ : ∃ t, Hid (symT rx cx n xs = t) := ⟨_, rfl⟩
    rw [hSY.out] at HSY HRY
    obtain ⟨LO, hLO⟩ : ∃ t, Hid (lowT rx cx n xs = t) := ⟨_, rfl⟩
    rw [hLO.out] at HLW HRW
    obtain ⟨EQ, hEQ⟩ : ∃ t, Hid (eqT rx cx n xs ry cy m ys = t) := ⟨_, rfl⟩
    rw [hEQ.out] at HEQ HRQ
    obtain ⟨MT, hMT⟩ : ∃ t, Hid (meaT rx cx n xs = t) := ⟨_, rfl⟩
    rw [hMT.out] at HPE HRE HNE
    obtain ⟨TT, hTT⟩ : ∃ t, Hid (trT rx cx n xs = t) := ⟨_, rfl⟩
    rw [hTT.out] at HPT HRT HNT HNU
    obtain ⟨TD, hTD⟩ : ∃ t, Hid (trD rx cx n xs = t) := ⟨_, rfl⟩
    rw [hTD.out] at HPT HRT HNT HNU
    obtain ⟨NT, hNT⟩ : ∃ t, Hid (nrmT rx cx n xs = t) := ⟨_, rfl⟩
    rw [hNT.out] at HPN HRN HNN
    have HN1 : Hid (chkM rx cx n xs ≠ 0 → nrmX rx cx n xs (nrm1 (fun j => xs.getD j 0) rx.toNat cx.toNat) = 0) := fun h => (HNN.out h).2 _
    obtain ⟨D1, hD1⟩ : ∃ t, Hid (nrmX rx cx n xs (nrm1 (fun j => xs.getD j 0) rx.toNat cx.toNat) = t) := ⟨_, rfl⟩
    rw [hD1.out] at HPN HRN HNX HN1
    have HN2 : Hid (chkM rx cx n xs ≠ 0 → nrmX rx cx n xs (nrm2 (fun j => xs.getD j 0) rx.toNat cx.toNat) = 0) := fun h => (HNN.out h).2 _
    obtain ⟨D2, hD2⟩ : ∃ t, Hid (nrmX rx cx n xs (nrm2 (fun j => xs.getD j 0) rx.toNat cx.toNat) = t) := ⟨_, rfl⟩
    rw [hD2.out] at HPN HRN HNX HN2
    have HN3 : Hid (chkM rx cx n xs ≠ 0 → nrmX rx cx n xs (nrm3 (fun j => xs.getD j 0) (rx.toNat * cx.toNat)) = 0) := fun h => (HNN.out h).2 _
    obtain ⟨D3, hD3⟩ : ∃ t, Hid (nrmX rx cx n xs (nrm3 (fun j => xs.getD j 0) (rx.toNat * cx.toNat)) = t) := ⟨_, rfl⟩
    rw [hD3.out] at HPN HRN HNX HN3
    have HNT2 : Hid (chkM rx cx n xs ≠ 0 → NT = chkM rx cx n xs) := fun h => (HNN.out h).1
    clear HNN
    obtain ⟨QE, hQE⟩ : ∃ t, Hid ((if rx = cx then 0 else 3 : Int) = t) := ⟨_, rfl⟩
    rw [hQE.out] at HIF HFQ
    obtain ⟨EA, hEA⟩ : ∃ t, Hid (chkM rx cx n xs = t) := ⟨_, rfl⟩
    rw [hEA.out] at HCA HFQ HRE HNE HRT HNT HRN HN1 HN2 HN3 HNT2
    obtain ⟨R, hR⟩ : ∃ t, Hid (rx.toNat = t) := ⟨_, rfl⟩
    rw [hR.out] at HPI HRI HPE HRE
    obtain ⟨mv, hmv⟩ : ∃ t, Hid (mirV xs R = t) := ⟨_, rfl⟩
    rw [hmv.out] at HPI HRI
    obtain ⟨ev, hev⟩ : ∃ t, Hid (meaV (fun j => xs.getD j 0) R = t) := ⟨_, rfl⟩
    rw [hev.out] at HPE HRE
    have HSA := hid (fun x (hx : x ≤ 9218868437227405312) W => same_nn x hx W)
    have hss : (SY != SY) = false := by simp
    have hll : (LO != LO) = false := by simp
    have hqq : (EQ != EQ) = false := by simp
    have hnt : (NT == NT) = true := by simp
    obtain ⟨c00, c01, c02⟩ := mcells_of (HF.out.at 1 rfl : w1.heap[ia]? = some (MBox rx cx ta n ca))
    go_wp2_with fail
    refine (HCA.out _ (HF.out.get (g := fun W => FlM W ta n ca xs) 1 rfl)).mono ?_
    rintro e u2 ⟨rfl, hb⟩
    have HF : Hid (FrQ w u2 [(ib, MBox ry cy tb m cb), (ia, MBox rx cx ta n ca), (p1, BBox ry cy sb m kb), (p0, BBox rx cx sa n ka)] [fun W => FlM W tb m cb ys, fun W => FlM W ta n ca xs]) := HF.out.call hb
    clear hb
    have HKT : Hid (∀ W, Hid (FrQ w W [(ib, MBox ry cy tb m cb), (ia, MBox rx cx ta n ca), (p1, BBox ry cy sb m kb), (p0, BBox rx cx sa n ka)] [fun W => FlM W tb m cb ys, fun W => FlM W ta n ca xs]) → (W.cell? ⟨p0, 0, none⟩ = some (.int .i64 rx) ∧ W.cell? ⟨p0, 1, none⟩ = some (.int .i64 cx) ∧ W.cell? ⟨p0, 2, none⟩ = some (.slice sa n ka) ∧ W.cell? ⟨p1, 0, none⟩ = some (.int .i64 ry) ∧ W.cell? ⟨p1, 1, none⟩ = some (.int .i64 cy) ∧ W.cell? ⟨p1, 2, none⟩ = some (.slice sb m kb) ∧ W.cell? ⟨ia, 0, none⟩ = some (.int .i64 rx) ∧ W.cell? ⟨ia, 1, none⟩ = some (.int .i64 cx) ∧ W.cell? ⟨ia, 2, none⟩ = some (.slice ta n ca) ∧ W.cell? ⟨ib, 0, none⟩ = some (.int .i64 ry) ∧ W.cell? ⟨ib, 1, none⟩ = some (.int .i64 cy) ∧ W.cell? ⟨ib, 2, none⟩ = some (.slice tb m cb)) ∧ Hid (FrQ w W [(ib, MBox ry cy tb m cb), (ia, MBox rx cx ta n ca), (p1, BBox ry cy sb m kb), (p0, BBox rx cx sa n ka)] [fun W => FlM W tb m cb ys, fun W => FlM W ta n ca xs])) := fun W hW => by
      obtain ⟨a00, a01, a02⟩ := bcells_of (hW.out.at 3 rfl : W.heap[p0]? = some (BBox rx cx sa n ka))
      obtain ⟨a10, a11, a12⟩ := bcells_of (hW.out.at 2 rfl : W.heap[p1]? = some (BBox ry cy sb m kb))
      obtain ⟨a20, a21, a22⟩ := mcells_of (hW.out.at 1 rfl : W.heap[ia]? = some (MBox rx cx ta n ca))
      obtain ⟨a30, a31, a32⟩ := mcells_of (hW.out.at 0 rfl : W.heap[ib]? = some (MBox ry cy tb m cb))
      exact ⟨⟨a00, a01, a02, a10, a11, a12, a20, a21, a22, a30, a31, a32⟩, hW⟩
    have HQ0 : Hid (FrQ w u2.drew [(ib, MBox ry cy tb m cb), (ia, MBox rx cx ta n ca), (p1, BBox ry cy sb m kb), (p0, BBox rx cx sa n ka)] [fun W => FlM W tb m cb ys, fun W => FlM W ta n ca xs]) := HF.out.drew
    have HQS0 : Hid (FrQ w u2.drew [(ib, MBox ry cy tb m cb), (ia, MBox rx cx ta n ca), (p1, BBox ry cy sb m kb), (p0, BBox rx cx sa n ka)] [fun W => FlM W tb m cb ys, fun W => FlM W ta n ca xs]) := HQ0.out.sub (.cons_cons _ (.cons_cons _ (.cons_cons _ (.cons_cons _ .slnil)))) (.cons_cons _ (.cons_cons _ .slnil))
    go_wp2_with fail
    refine wp_region_held_drew (S := fun W => (W.cell? ⟨p0, 0, none⟩ = some (.int .i64 rx) ∧ W.cell? ⟨p0, 1, none⟩ = some (.int .i64 cx) ∧ W.cell? ⟨p0, 2, none⟩ = some (.slice sa n ka) ∧ W.cell? ⟨p1, 0, none⟩ = some (.int .i64 ry) ∧ W.cell? ⟨p1, 1, none⟩ = some (.int .i64 cy) ∧ W.cell? ⟨p1, 2, none⟩ = some (.slice sb m kb) ∧ W.cell? ⟨ia, 0, none⟩ = some (.int .i64 rx) ∧ W.cell? ⟨ia, 1, none⟩ = some (.int .i64 cx) ∧ W.cell? ⟨ia, 2, none⟩ = some (.slice ta n ca) ∧ W.cell? ⟨ib, 0, none⟩ = some (.int .i64 ry) ∧ W.cell? ⟨ib, 1, none⟩ = some (.int .i64 cy) ∧ W.cell? ⟨ib, 2, none⟩ = some (.slice tb m cb)) ∧ Hid (FrQ w W [(ib, MBox ry cy tb m cb), (ia, MBox rx cx ta n ca), (p1, BBox ry cy sb m kb), (p0, BBox rx cx sa n ka)] [fun W => FlM W tb m cb ys, fun W => FlM W ta n ca xs])) (by kernel_rfl) (HKT.out _ HQS0) (fun hHeld => ?_)
    refine take_at 0 26 (.agg #[.int .i64 rx, .int .i64 cx, .slice sa n ka]) rfl rfl (by kernel_rfl) (by kernel_rfl) (by kernel_rfl) (fun _ _ _ h => h) (Or.inl ⟨by rfl, fun w hSw => by (try dsimp only at hSw); go_simp⟩) (by assumption) ?_
    simp only [Act.put, List.setIfInBounds_toArray, List.set_cons_zero, List.set_cons_succ]
    refine take_at 3 29 (.agg #[.int .i64 rx, .int .i64 cx, .slice ta n ca]) rfl rfl (by kernel_rfl) (by kernel_rfl) (by kernel_rfl) (fun _ _ _ h => h) (Or.inl ⟨by rfl, fun w hSw => by (try dsimp only at hSw); go_simp⟩) (by assumption) ?_
    simp only [Act.put, List.setIfInBounds_toArray, List.set_cons_zero, List.set_cons_succ]
    refine wpAnyH_ready (rs := [1]) (by kernel_rfl) (by simp) ?_
    refine AllReadyH.cons (o := _) rfl (fun K hK => ?_) AllReadyH.nil
    go_simp
    refine (HOX.out _ HQ0.out.bel).mono ?_
    rintro e t1 ⟨⟨t1x, k1x, rfl, hf⟩, hbq⟩
    have HQ1 := hid (HQ0.out.call hbq)
    have HQ1 := hid (HQ1.out.add (g := fun W => FlM W t1x n k1x xs) (kept_fl _ _ _ _) hf)
    clear hbq
    unfold MV
    go_wp2_with fail
    have HQS := hid (HQ1.out.sub (.cons_cons _ (.cons_cons _ (.cons_cons _ (.cons_cons _ .slnil)))) (.cons _ (.cons_cons _ (.cons_cons _ .slnil))))
    refine hK.out _ _ (HKT.out _ HQS) (fun hHeld1 => ?_)
    clear hK K HQS
    try simp only [Act.put, List.setIfInBounds_toArray, List.set_cons_zero, List.set_cons_succ]
    refine wpAnyH_ready (rs := [2]) (by kernel_rfl) (by simp) ?_
    refine AllReadyH.cons (o := _) rfl (fun K hK => ?_) AllReadyH.nil
    go_simp
    refine (HSY.out _ _ _ (HQ1.out.get (g := fun W => FlM W t1x n k1x xs) 0 rfl)).mono ?_
    rintro e t2 ⟨rfl, hbq⟩
    have HQ2 := hid (HQ1.out.call hbq)
    clear hbq
    go_wp2_with fail
    have HQS := hid (HQ2.out.sub (.cons_cons _ (.cons_cons _ (.cons_cons _ (.cons_cons _ .slnil)))) (.cons _ (.cons_cons _ (.cons_cons _ .slnil))))
    refine hK.out _ _ (HKT.out _ HQS) (fun hHeld2 => ?_)
    clear hK K HQS
    try simp only [Act.put, List.setIfInBounds_toArray, List.set_cons_zero, List.set_cons_succ]
    refine wpAnyH_ready (rs := [4]) (by kernel_rfl) (by simp) ?_
    refine AllReadyH.cons (o := _) rfl (fun K hK => ?_) AllReadyH.nil
    go_simp
    refine (HRY.out _ (HQ2.out.get (g := fun W => FlM W ta n ca xs) 2 rfl)).mono ?_
    rintro e t3 ⟨rfl, hbq⟩
    have HQ3 := hid (HQ2.out.call hbq)
    clear hbq
    go_wp2_with fail
    have HQS := hid (HQ3.out.sub (.cons_cons _ (.cons_cons _ (.cons_cons _ (.cons_cons _ .slnil)))) (.cons _ (.cons_cons _ (.cons_cons _ .slnil))))
    refine hK.out _ _ (HKT.out _ HQS) (fun hHeld3 => ?_)
    clear hK K HQS
    try simp only [Act.put, List.setIfInBounds_toArray, List.set_cons_zero, List.set_cons_succ]
    refine take_at 5 31 (.bool false) rfl rfl (by kernel_rfl) (by kernel_rfl) (by kernel_rfl) (fun _ _ _ h => h) (Or.inl ⟨by rfl, fun w hSw => by (try dsimp only at hSw); go_simp⟩) (by assumption) ?_
    simp only [Act.put, List.setIfInBounds_toArray, List.set_cons_zero, List.set_cons_succ]
    refine take_at 6 32 (.bool false) rfl rfl (by kernel_rfl) (by kernel_rfl) (by kernel_rfl) (fun _ _ _ h => h) (Or.inl ⟨by rfl, fun w hSw => by (try dsimp only at hSw); go_simp⟩) (by assumption) ?_
    simp only [Act.put, List.setIfInBounds_toArray, List.set_cons_zero, List.set_cons_succ]
    refine take_at 7 33 (.agg #[.int .i64 rx, .int .i64 cx, .slice sa n ka]) rfl rfl (by kernel_rfl) (by kernel_rfl) (by kernel_rfl) (fun _ _ _ h => h) (Or.inl ⟨by rfl, fun w hSw => by (try dsimp only at hSw); go_simp⟩) (by assumption) ?_
    simp only [Act.put, List.setIfInBounds_toArray, List.set_cons_zero, List.set_cons_succ]
    refine take_at 10 36 (.agg #[.int .i64 rx, .int .i64 cx, .slice ta n ca]) rfl rfl (by kernel_rfl) (by kernel_rfl) (by kernel_rfl) (fun _ _ _ h => h) (Or.inl ⟨by rfl, fun w hSw => by (try dsimp only at hSw); go_simp⟩) (by assumption) ?_
    simp only [Act.put, List.setIfInBounds_toArray, List.set_cons_zero, List.set_cons_succ]
    refine wpAnyH_ready (rs := [8]) (by kernel_rfl) (by simp) ?_
    refine AllReadyH.cons (o := _) rfl (fun K hK => ?_) AllReadyH.nil
    go_simp
    refine (HOX.out _ HQ3.out.bel).mono ?_
    rintro e t4 ⟨⟨t2x, k2x, rfl, hf⟩, hbq⟩
    have HQ4 := hid (HQ3.out.call hbq)
    have HQ4 := hid (HQ4.out.add (g := fun W => FlM W t2x n k2x xs) (kept_fl _ _ _ _) hf)
    clear hbq
    unfold MV
    go_wp2_with fail
    have HQS := hid (HQ4.out.sub (.cons_cons _ (.cons_cons _ (.cons_cons _ (.cons_cons _ .slnil)))) (.cons _ (.cons _ (.cons_cons _ (.cons_cons _ .slnil)))))
    refine hK.out _ _ (HKT.out _ HQS) (fun hHeld4 => ?_)
    clear hK K HQS
    try simp only [Act.put, List.setIfInBounds_toArray, List.set_cons_zero, List.set_cons_succ]
    refine wpAnyH_ready (rs := [9]) (by kernel_rfl) (by simp) ?_
    refine AllReadyH.cons (o := _) rfl (fun K hK => ?_) AllReadyH.nil
    go_simp
    refine (HLW.out _ _ _ (HQ4.out.get (g := fun W => FlM W t2x n k2x xs) 0 rfl)).mono ?_
    rintro e t5 ⟨rfl, hbq⟩
    have HQ5 := hid (HQ4.out.call hbq)
    clear hbq
    go_wp2_with fail
    have HQS := hid (HQ5.out.sub (.cons_cons _ (.cons_cons _ (.cons_cons _ (.cons_cons _ .slnil)))) (.cons _ (.cons _ (.cons_cons _ (.cons_cons _ .slnil)))))
    refine hK.out _ _ (HKT.out _ HQS) (fun hHeld5 => ?_)
    clear hK K HQS
    try simp only [Act.put, List.setIfInBounds_toArray, List.set_cons_zero, List.set_cons_succ]
    refine wpAnyH_ready (rs := [11]) (by kernel_rfl) (by simp) ?_
    refine AllReadyH.cons (o := _) rfl (fun K hK => ?_) AllReadyH.nil
    go_simp
    refine (HRW.out _ (HQ5.out.get (g := fun W => FlM W ta n ca xs) 3 rfl)).mono ?_
    rintro e t6 ⟨rfl, hbq⟩
    have HQ6 := hid (HQ5.out.call hbq)
    clear hbq
    go_wp2_with fail
    have HQS := hid (HQ6.out.sub (.cons_cons _ (.cons_cons _ (.cons_cons _ (.cons_cons _ .slnil)))) (.cons _ (.cons _ (.cons_cons _ (.cons_cons _ .slnil)))))
    refine hK.out _ _ (HKT.out _ HQS) (fun hHeld6 => ?_)
    clear hK K HQS
    try simp only [Act.put, List.setIfInBounds_toArray, List.set_cons_zero, List.set_cons_succ]
    refine take_at 12 38 (.bool false) rfl rfl (by kernel_rfl) (by kernel_rfl) (by kernel_rfl) (fun _ _ _ h => h) (Or.inl ⟨by rfl, fun w hSw => by (try dsimp only at hSw); go_simp⟩) (by assumption) ?_
    simp only [Act.put, List.setIfInBounds_toArray, List.set_cons_zero, List.set_cons_succ]
    refine take_at 13 39 (.bool false) rfl rfl (by kernel_rfl) (by kernel_rfl) (by kernel_rfl) (fun _ _ _ h => h) (Or.inl ⟨by rfl, fun w hSw => by (try dsimp only at hSw); go_simp⟩) (by assumption) ?_
    simp only [Act.put, List.setIfInBounds_toArray, List.set_cons_zero, List.set_cons_succ]
    refine take_at 14 40 (.bool false) rfl rfl (by kernel_rfl) (by kernel_rfl) (by kernel_rfl) (fun _ _ _ h => h) (Or.inl ⟨by rfl, fun w hSw => by (try dsimp only at hSw); go_simp⟩) (by assumption) ?_
    simp only [Act.put, List.setIfInBounds_toArray, List.set_cons_zero, List.set_cons_succ]
    refine take_at 15 41 (.agg #[.int .i64 rx, .int .i64 cx, .slice sa n ka]) rfl rfl (by kernel_rfl) (by kernel_rfl) (by kernel_rfl) (fun _ _ _ h => h) (Or.inl ⟨by rfl, fun w hSw => by (try dsimp only at hSw); go_simp⟩) (by assumption) ?_
    simp only [Act.put, List.setIfInBounds_toArray, List.set_cons_zero, List.set_cons_succ]
    refine take_at 17 43 (.agg #[.int .i64 ry, .int .i64 cy, .slice sb m kb]) rfl rfl (by kernel_rfl) (by kernel_rfl) (by kernel_rfl) (fun _ _ _ h => h) (Or.inl ⟨by rfl, fun w hSw => by (try dsimp only at hSw); go_simp⟩) (by assumption) ?_
    simp only [Act.put, List.setIfInBounds_toArray, List.set_cons_zero, List.set_cons_succ]
    refine take_at 20 46 (.agg #[.int .i64 rx, .int .i64 cx, .slice ta n ca]) rfl rfl (by kernel_rfl) (by kernel_rfl) (by kernel_rfl) (fun _ _ _ h => h) (Or.inl ⟨by rfl, fun w hSw => by (try dsimp only at hSw); go_simp⟩) (by assumption) ?_
    simp only [Act.put, List.setIfInBounds_toArray, List.set_cons_zero, List.set_cons_succ]
    refine take_at 21 47 (.agg #[.int .i64 ry, .int .i64 cy, .slice tb m cb]) rfl rfl (by kernel_rfl) (by kernel_rfl) (by kernel_rfl) (fun _ _ _ h => h) (Or.inl ⟨by rfl, fun w hSw => by (try dsimp only at hSw); go_simp⟩) (by assumption) ?_
    simp only [Act.put, List.setIfInBounds_toArray, List.set_cons_zero, List.set_cons_succ]
    refine wpAnyH_ready (rs := [16]) (by kernel_rfl) (by simp) ?_
    refine AllReadyH.cons (o := _) rfl (fun K hK => ?_) AllReadyH.nil
    go_simp
    refine (HOX.out _ HQ6.out.bel).mono ?_
    rintro e t7 ⟨⟨t3x, k3x, rfl, hf⟩, hbq⟩
    have HQ7 := hid (HQ6.out.call hbq)
    have HQ7 := hid (HQ7.out.add (g := fun W => FlM W t3x n k3x xs) (kept_fl _ _ _ _) hf)
    clear hbq
    unfold MV
    go_wp2_with fail
    have HQS := hid (HQ7.out.sub (.cons_cons _ (.cons_cons _ (.cons_cons _ (.cons_cons _ .slnil)))) (.cons _ (.cons _ (.cons _ (.cons_cons _ (.cons_cons _ .slnil))))))
    refine hK.out _ _ (HKT.out _ HQS) (fun hHeld7 => ?_)
    clear hK K HQS
    try simp only [Act.put, List.setIfInBounds_toArray, List.set_cons_zero, List.set_cons_succ]
    refine wpAnyH_ready (rs := [18]) (by kernel_rfl) (by simp) ?_
    refine AllReadyH.cons (o := _) rfl (fun K hK => ?_) AllReadyH.nil
    go_simp
    refine (HOY.out _ HQ7.out.bel).mono ?_
    rintro e t8 ⟨⟨t4x, k4x, rfl, hf⟩, hbq⟩
    have HQ8 := hid (HQ7.out.call hbq)
    have HQ8 := hid (HQ8.out.add (g := fun W => FlM W t4x m k4x ys) (kept_fl _ _ _ _) hf)
    clear hbq
    unfold MV
    go_wp2_with fail
    have HQS := hid (HQ8.out.sub (.cons_cons _ (.cons_cons _ (.cons_cons _ (.cons_cons _ .slnil)))) (.cons _ (.cons _ (.cons _ (.cons _ (.cons_cons _ (.cons_cons _ .slnil)))))))
    refine hK.out _ _ (HKT.out _ HQS) (fun hHeld8 => ?_)
    clear hK K HQS
    try simp only [Act.put, List.setIfInBounds_toArray, List.set_cons_zero, List.set_cons_succ]
    refine wpAnyH_ready (rs := [19]) (by kernel_rfl) (by simp) ?_
    refine AllReadyH.cons (o := _) rfl (fun K hK => ?_) AllReadyH.nil
    go_simp
    refine (HEQ.out _ _ _ _ _ (HQ8.out.get (g := fun W => FlM W t3x n k3x xs) 1 rfl) (HQ8.out.get (g := fun W => FlM W t4x m k4x ys) 0 rfl)).mono ?_
    rintro e t9 ⟨rfl, hbq⟩
    have HQ9 := hid (HQ8.out.call hbq)
    clear hbq
    go_wp2_with fail
    have HQS := hid (HQ9.out.sub (.cons_cons _ (.cons_cons _ (.cons_cons _ (.cons_cons _ .slnil)))) (.cons _ (.cons _ (.cons _ (.cons _ (.cons_cons _ (.cons_cons _ .slnil)))))))
    refine hK.out _ _ (HKT.out _ HQS) (fun hHeld9 => ?_)
    clear hK K HQS
    try simp only [Act.put, List.setIfInBounds_toArray, List.set_cons_zero, List.set_cons_succ]
    refine wpAnyH_ready (rs := [22]) (by kernel_rfl) (by simp) ?_
    refine AllReadyH.cons (o := _) rfl (fun K hK => ?_) AllReadyH.nil
    go_simp
    refine (HRQ.out _ (HQ9.out.get (g := fun W => FlM W ta n ca xs) 5 rfl) (HQ9.out.get (g := fun W => FlM W tb m cb ys) 4 rfl)).mono ?_
    rintro e t10 ⟨rfl, hbq⟩
    have HQ10 := hid (HQ9.out.call hbq)
    clear hbq
    go_wp2_with fail
    have HQS := hid (HQ10.out.sub (.cons_cons _ (.cons_cons _ (.cons_cons _ (.cons_cons _ .slnil)))) (.cons _ (.cons _ (.cons _ (.cons _ (.cons_cons _ (.cons_cons _ .slnil)))))))
    refine hK.out _ _ (HKT.out _ HQS) (fun hHeld10 => ?_)
    clear hK K HQS
    try simp only [Act.put, List.setIfInBounds_toArray, List.set_cons_zero, List.set_cons_succ]
    refine take_at 23 49 (.bool false) rfl rfl (by kernel_rfl) (by kernel_rfl) (by kernel_rfl) (fun _ _ _ h => h) (Or.inl ⟨by rfl, fun w hSw => by (try dsimp only at hSw); go_simp⟩) (by assumption) ?_
    simp only [Act.put, List.setIfInBounds_toArray, List.set_cons_zero, List.set_cons_succ]
    refine take_at 24 50 (.bool false) rfl rfl (by kernel_rfl) (by kernel_rfl) (by kernel_rfl) (fun _ _ _ h => h) (Or.inl ⟨by rfl, fun w hSw => by (try dsimp only at hSw); go_simp⟩) (by assumption) ?_
    simp only [Act.put, List.setIfInBounds_toArray, List.set_cons_zero, List.set_cons_succ]
    refine take_at 25 51 (.bool false) rfl rfl (by kernel_rfl) (by kernel_rfl) (by kernel_rfl) (fun _ _ _ h => h) (Or.inl ⟨by rfl, fun w hSw => by (try dsimp only at hSw); go_simp⟩) (by assumption) ?_
    simp only [Act.put, List.setIfInBounds_toArray, List.set_cons_zero, List.set_cons_succ]
    refine take_at 26 52 (.agg #[.int .i64 rx, .int .i64 cx, .slice sa n ka]) rfl rfl (by kernel_rfl) (by kernel_rfl) (by kernel_rfl) (fun _ _ _ h => h) (Or.inl ⟨by rfl, fun w hSw => by (try dsimp only at hSw); go_simp⟩) (by assumption) ?_
    simp only [Act.put, List.setIfInBounds_toArray, List.set_cons_zero, List.set_cons_succ]
    refine take_at 28 54 (.agg #[.int .i64 rx, .int .i64 cx, .slice sa n ka]) rfl rfl (by kernel_rfl) (by kernel_rfl) (by kernel_rfl) (fun _ _ _ h => h) (Or.inl ⟨by rfl, fun w hSw => by (try dsimp only at hSw); go_simp⟩) (by assumption) ?_
    simp only [Act.put, List.setIfInBounds_toArray, List.set_cons_zero, List.set_cons_succ]
    refine wpAnyH_ready (rs := [27]) (by kernel_rfl) (by simp) ?_
    refine AllReadyH.cons (o := _) rfl (fun K hK => ?_) AllReadyH.nil
    go_simp
    refine (HOX.out _ HQ10.out.bel).mono ?_
    rintro e t11 ⟨⟨t5x, k5x, rfl, hf⟩, hbq⟩
    have HQ11 := hid (HQ10.out.call hbq)
    have HQ11 := hid (HQ11.out.add (g := fun W => FlM W t5x n k5x xs) (kept_fl _ _ _ _) hf)
    clear hbq
    unfold MV
    go_wp2_with fail
    have HQS := hid (HQ11.out.sub (.cons_cons _ (.cons_cons _ (.cons_cons _ (.cons_cons _ .slnil)))) (.cons _ (.cons _ (.cons _ (.cons _ (.cons _ (.cons_cons _ (.cons_cons _ .slnil))))))))
    refine hK.out _ _ (HKT.out _ HQS) (fun hHeld11 => ?_)
    clear hK K HQS
    try simp only [Act.put, List.setIfInBounds_toArray, List.set_cons_zero, List.set_cons_succ]
    refine wpAnyH_ready (rs := [29]) (by kernel_rfl) (by simp) ?_
    refine AllReadyH.cons (o := _) rfl (fun K hK => ?_) AllReadyH.nil
    go_simp
    refine (HOX.out _ HQ11.out.bel).mono ?_
    rintro e t12 ⟨⟨t6x, k6x, rfl, hf⟩, hbq⟩
    have HQ12 := hid (HQ11.out.call hbq)
    have HQ12 := hid (HQ12.out.add (g := fun W => FlM W t6x n k6x xs) (kept_fl _ _ _ _) hf)
    clear hbq
    unfold MV
    go_wp2_with fail
    have HQS := hid (HQ12.out.sub (.cons_cons _ (.cons_cons _ (.cons_cons _ (.cons_cons _ .slnil)))) (.cons _ (.cons _ (.cons _ (.cons _ (.cons _ (.cons _ (.cons_cons _ (.cons_cons _ .slnil)))))))))
    refine hK.out _ _ (HKT.out _ HQS) (fun hHeld12 => ?_)
    clear hK K HQS
    try simp only [Act.put, List.setIfInBounds_toArray, List.set_cons_zero, List.set_cons_succ]
    refine wpAnyH_ready (rs := [30]) (by kernel_rfl) (by simp) ?_
    refine AllReadyH.cons (o := _) rfl (fun K hK => ?_) AllReadyH.nil
    go_simp
    refine (HES.out _ _ _ _ _ (HQ12.out.get (g := fun W => FlM W t5x n k5x xs) 1 rfl) (HQ12.out.get (g := fun W => FlM W t6x n k6x xs) 0 rfl)).mono ?_
    rintro e t13 ⟨rfl, hbq⟩
    have HQ13 := hid (HQ12.out.call hbq)
    clear hbq
    go_wp2_with fail
    have HQS := hid (HQ13.out.sub (.cons_cons _ (.cons_cons _ (.cons_cons _ (.cons_cons _ .slnil)))) (.cons _ (.cons _ (.cons _ (.cons _ (.cons _ (.cons _ (.cons_cons _ (.cons_cons _ .slnil)))))))))
    refine hK.out _ _ (HKT.out _ HQS) (fun hHeld13 => ?_)
    clear hK K HQS
    try simp only [Act.put, List.setIfInBounds_toArray, List.set_cons_zero, List.set_cons_succ]
    refine take_at 31 57 (.bool false) rfl rfl (by kernel_rfl) (by kernel_rfl) (by kernel_rfl) (fun _ _ _ h => h) (Or.inl ⟨by rfl, fun w hSw => by (try dsimp only at hSw); go_simp⟩) (by assumption) ?_
    simp only [Act.put, List.setIfInBounds_toArray, List.set_cons_zero, List.set_cons_succ]
    refine take_at 32 58 (.bool false) rfl rfl (by kernel_rfl) (by kernel_rfl) (by kernel_rfl) (fun _ _ _ h => h) (Or.inl ⟨by rfl, fun w hSw => by (try dsimp only at hSw); go_simp⟩) (by assumption) ?_
    simp only [Act.put, List.setIfInBounds_toArray, List.set_cons_zero, List.set_cons_succ]
    refine take_at 33 59 (.bool false) rfl rfl (by kernel_rfl) (by kernel_rfl) (by kernel_rfl) (fun _ _ _ h => h) (Or.inl ⟨by rfl, fun w hSw => by (try dsimp only at hSw); go_simp⟩) (by assumption) ?_
    simp only [Act.put, List.setIfInBounds_toArray, List.set_cons_zero, List.set_cons_succ]
    refine wpAnyH_ready (rs := [34]) (by kernel_rfl) (by simp) ?_
    refine AllReadyH.cons (o := _) rfl (fun K hK => ?_) AllReadyH.nil
    go_simp
    refine (awake8_any _).mono ?_
    rintro e t14 ⟨rfl, hbq⟩
    have HQ14 := hid (HQ13.out.call hbq)
    clear hbq
    go_wp2_with fail
    have HQS := hid (HQ14.out.sub (.cons_cons _ (.cons_cons _ (.cons_cons _ (.cons_cons _ .slnil)))) (.cons _ (.cons _ (.cons _ (.cons _ (.cons _ (.cons _ (.cons_cons _ (.cons_cons _ .slnil)))))))))
    refine hK.out _ _ (HKT.out _ HQS) (fun hHeld14 => ?_)
    clear hK K HQS
    try simp only [Act.put, List.setIfInBounds_toArray, List.set_cons_zero, List.set_cons_succ]
    refine take_at 35 61 (.bool false) rfl rfl (by kernel_rfl) (by kernel_rfl) (by kernel_rfl) (fun _ _ _ h => h) (Or.inl ⟨by rfl, fun w hSw => by (try dsimp only at hSw); go_simp⟩) (by assumption) ?_
    simp only [Act.put, List.setIfInBounds_toArray, List.set_cons_zero, List.set_cons_succ]
    refine take_at 36 62 (.bool false) rfl rfl (by kernel_rfl) (by kernel_rfl) (by kernel_rfl) (fun _ _ _ h => h) (Or.inl ⟨by rfl, fun w hSw => by (try dsimp only at hSw); go_simp⟩) (by assumption) ?_
    simp only [Act.put, List.setIfInBounds_toArray, List.set_cons_zero, List.set_cons_succ]
    refine wpAnyH_done (by kernel_rfl) ?_ _
    have HF : Hid (FrQ w t14 [(ib, MBox ry cy tb m cb), (ia, MBox rx cx ta n ca), (p1, BBox ry cy sb m kb), (p0, BBox rx cx sa n ka)] [fun W => FlM W t6x n k6x xs, fun W => FlM W t5x n k5x xs, fun W => FlM W t4x m k4x ys, fun W => FlM W t3x n k3x xs, fun W => FlM W t2x n k2x xs, fun W => FlM W t1x n k1x xs, fun W => FlM W tb m cb ys, fun W => FlM W ta n ca xs]) := HQ14.out
    clear HKT HQ0 HQS0
    have HF : Hid (FrQ w t14 [(ib, MBox ry cy tb m cb), (ia, MBox rx cx ta n ca), (p1, BBox ry cy sb m kb), (p0, BBox rx cx sa n ka)] [fun W => FlM W tb m cb ys, fun W => FlM W ta n ca xs]) := HF.out.sub (.cons_cons _ (.cons_cons _ (.cons_cons _ (.cons_cons _ .slnil)))) (.cons _ (.cons _ (.cons _ (.cons _ (.cons _ (.cons _ (.cons_cons _ (.cons_cons _ .slnil))))))))
    have HF : Hid (FrQ w (t14.alloc (MBox 0 0 none 0 0)) [(t14.heap.size, MBox 0 0 none 0 0), (ib, MBox ry cy tb m cb), (ia, MBox rx cx ta n ca), (p1, BBox ry cy sb m kb), (p0, BBox rx cx sa n ka)] [fun W => FlM W tb m cb ys, fun W => FlM W ta n ca xs]) := HF.out.alloc _
    obtain ⟨V3, hV3⟩ : ∃ V, Hid (t14.alloc (MBox 0 0 none 0 0) = V) := ⟨_, rfl⟩
    obtain ⟨ih, hih⟩ : ∃ t, Hid (t14.heap.size = t) := ⟨_, rfl⟩
    rw [hV3.out, hih.out] at HF
    have hV3' := hV3.out
    unfold MBox at hV3'
    have hih' := hih.out
    obtain ⟨c00, c01, c02⟩ := bcells_of (HF.out.at 4 rfl : V3.heap[p0]? = some (BBox rx cx sa n ka))
    go_wp2_with fail
    refine (HIF.out _).mono ?_
    rintro e ww ⟨rfl, hw⟩
    rw [hw]
    clear hw
    go_wp2_with fail
    refine (HFQ.out _ _ (nblkM _ _)).mono ?_
    rintro e ww ⟨rfl, hw⟩
    have HF : Hid (FrQ w (V3.alloc (I2 EA QE)) [(ih, MBox 0 0 none 0 0), (ib, MBox ry cy tb m cb), (ia, MBox rx cx ta n ca), (p1, BBox ry cy sb m kb), (p0, BBox rx cx sa n ka)] [fun W => FlM W tb m cb ys, fun W => FlM W ta n ca xs]) := HF.out.call ((Below.refl _ _).alloc (Nat.le_refl _) _)
    obtain ⟨V4, hV4⟩ : ∃ V, Hid (V3.alloc (I2 EA QE) = V) := ⟨_, rfl⟩
    rw [hw, hV4.out]
    rw [hV4.out] at HF
    clear hw
    go_upto_if 73 with fail
    go_cut [9] from 20 (fun s9 W => s9 = .int .i64 SQ ∧ ∃ (Z0 Z1 : Int) (Z2 : Option Addr) (Z3 Z4 : Nat), Hid (FrQ w W [(ih, MBox Z0 Z1 Z2 Z3 Z4), (ib, MBox ry cy tb m cb), (ia, MBox rx cx ta n ca), (p1, BBox ry cy sb m kb), (p0, BBox rx cx sa n ka)] [fun W => SQ = 0 → ResM SQ R R mv W Z0 Z1 Z2 Z3 Z4, fun W => FlM W tb m cb ys, fun W => FlM W ta n ca xs]))
    case first =>
      by_cases hT0 : SQ = 0
      · have HRZ := hid (fun W h => HRI.out W h hT0)
        subst hT0
        obtain ⟨c00, c01, c02⟩ := mcells_of (HF.out.at 2 rfl : V4.heap[ia]? = some (MBox rx cx ta n ca))
        go_wp2_with fail
        refine (HRZ.out _ (HF.out.get (g := fun W => FlM W ta n ca xs) 1 rfl)).mono ?_
        rintro e u5 ⟨⟨A0, A1, A2, A3, A4, rfl, hres⟩, hb⟩
        have HF : Hid (FrQ w u5 [(ih, MBox 0 0 none 0 0), (ib, MBox ry cy tb m cb), (ia, MBox rx cx ta n ca), (p1, BBox ry cy sb m kb), (p0, BBox rx cx sa n ka)] [fun W => FlM W tb m cb ys, fun W => FlM W ta n ca xs]) := HF.out.call hb
        have HF : Hid (FrQ w u5 [(ih, MBox 0 0 none 0 0), (ib, MBox ry cy tb m cb), (ia, MBox rx cx ta n ca), (p1, BBox ry cy sb m kb), (p0, BBox rx cx sa n ka)] [fun W => (0 : Int) = 0 → ResM 0 R R mv W A0 A1 A2 A3 A4, fun W => FlM W tb m cb ys, fun W => FlM W ta n ca xs]) := HF.out.add (kept_resi _ _ _ _ _ _ _ _ _) (fun _ => hres)
        clear hb
        clear hres HRZ
        obtain ⟨z0, z1, z2⟩ := mcells_of (HF.out.at 0 rfl : u5.heap[ih]? = some (MBox 0 0 none 0 0))
        have fz := frzM (HF.out.at 0 rfl : u5.heap[ih]? = some (MBox 0 0 none 0 0))
        have HF : Hid (FrQ w (StoM u5 ih A0 A1 A2 A3 A4) [(ih, MBox A0 A1 A2 A3 A4), (ib, MBox ry cy tb m cb), (ia, MBox rx cx ta n ca), (p1, BBox ry cy sb m kb), (p0, BBox rx cx sa n ka)] [fun W => (0 : Int) = 0 → ResM 0 R R mv W A0 A1 A2 A3 A4, fun W => FlM W tb m cb ys, fun W => FlM W ta n ca xs]) := HF.out.sto 0 rfl
        obtain ⟨U6, hU6⟩ : ∃ V, Hid ((StoM u5 ih A0 A1 A2 A3 A4) = V) := ⟨_, rfl⟩
        rw [hU6.out] at HF
        have hU6' := hU6.out
        unfold StoM at hU6'
        go_wp2_with fail
        go_meet
        exact ⟨rfl, _, _, _, _, _, HF⟩
      · have hne : (SQ == 0) = false := by simpa using hT0
        have HNZ := hid hT0
        clear hT0
        have HF : Hid (FrQ w V4 [(ih, MBox 0 0 none 0 0), (ib, MBox ry cy tb m cb), (ia, MBox rx cx ta n ca), (p1, BBox ry cy sb m kb), (p0, BBox rx cx sa n ka)] [fun W => SQ = 0 → ResM SQ R R mv W 0 0 none 0 0, fun W => FlM W tb m cb ys, fun W => FlM W ta n ca xs]) := HF.out.add (kept_resi _ _ _ _ _ _ _ _ _) (fun h => absurd (h) HNZ.out)
        go_wp2_with fail
        go_meet
        exact ⟨rfl, _, _, _, _, _, HF⟩
    case rest =>
      obtain ⟨rfl, Z0, Z1, Z2, Z3, Z4, HF⟩ := hcut
      obtain ⟨c00, c01, c02⟩ := bcells_of (HF.out.at 4 rfl : wc.heap[p0]? = some (BBox rx cx sa n ka))
      go_wp2_with fail
      refine (HOX.out _ HF.out.bel).mono ?_
      rintro e u5 ⟨⟨t7x, k7x, rfl, hf⟩, hb⟩
      have HF : Hid (FrQ w u5 [(ih, MBox Z0 Z1 Z2 Z3 Z4), (ib, MBox ry cy tb m cb), (ia, MBox rx cx ta n ca), (p1, BBox ry cy sb m kb), (p0, BBox rx cx sa n ka)] [fun W => SQ = 0 → ResM SQ R R mv W Z0 Z1 Z2 Z3 Z4, fun W => FlM W tb m cb ys, fun W => FlM W ta n ca xs]) := HF.out.call hb
      have HF : Hid (FrQ w u5 [(ih, MBox Z0 Z1 Z2 Z3 Z4), (ib, MBox ry cy tb m cb), (ia, MBox rx cx ta n ca), (p1, BBox ry cy sb m kb), (p0, BBox rx cx sa n ka)] [fun W => FlM W t7x n k7x xs, fun W => SQ = 0 → ResM SQ R R mv W Z0 Z1 Z2 Z3 Z4, fun W => FlM W tb m cb ys, fun W => FlM W ta n ca xs]) := HF.out.add (kept_fl _ _ _ _) hf
      clear hb
      unfold MV
      clear hf
      go_wp2_with fail
      refine (HPI.out _ _ _ (HF.out.get (g := fun W => FlM W t7x n k7x xs) 0 rfl)).mono ?_
      rintro e u6 ⟨⟨X0, X1, X2, X3, X4, rfl, hres⟩, hb⟩
      have HF : Hid (FrQ w u6 [(ih, MBox Z0 Z1 Z2 Z3 Z4), (ib, MBox ry cy tb m cb), (ia, MBox rx cx ta n ca), (p1, BBox ry cy sb m kb), (p0, BBox rx cx sa n ka)] [fun W => FlM W t7x n k7x xs, fun W => SQ = 0 → ResM SQ R R mv W Z0 Z1 Z2 Z3 Z4, fun W => FlM W tb m cb ys, fun W => FlM W ta n ca xs]) := HF.out.call hb
      have HF : Hid (FrQ w u6 [(ih, MBox Z0 Z1 Z2 Z3 Z4), (ib, MBox ry cy tb m cb), (ia, MBox rx cx ta n ca), (p1, BBox ry cy sb m kb), (p0, BBox rx cx sa n ka)] [fun W => ResM SQ R R mv W X0 X1 X2 X3 X4, fun W => FlM W t7x n k7x xs, fun W => SQ = 0 → ResM SQ R R mv W Z0 Z1 Z2 Z3 Z4, fun W => FlM W tb m cb ys, fun W => FlM W ta n ca xs]) := HF.out.add (kept_res _ _ _ _ _ _ _ _ _) hres
      clear hb
      clear hres
      have HF : Hid (FrQ w (u6.alloc (MBox X0 X1 X2 X3 X4)) [(u6.heap.size, MBox X0 X1 X2 X3 X4), (ih, MBox Z0 Z1 Z2 Z3 Z4), (ib, MBox ry cy tb m cb), (ia, MBox rx cx ta n ca), (p1, BBox ry cy sb m kb), (p0, BBox rx cx sa n ka)] [fun W => ResM SQ R R mv W X0 X1 X2 X3 X4, fun W => FlM W t7x n k7x xs, fun W => SQ = 0 → ResM SQ R R mv W Z0 Z1 Z2 Z3 Z4, fun W => FlM W tb m cb ys, fun W => FlM W ta n ca xs]) := HF.out.alloc _
      obtain ⟨V7, hV7⟩ : ∃ V, Hid (u6.alloc (MBox X0 X1 X2 X3 X4) = V) := ⟨_, rfl⟩
      obtain ⟨ig, hig⟩ : ∃ t, Hid (u6.heap.size = t) := ⟨_, rfl⟩
      rw [hV7.out, hig.out] at HF
      have hV7' := hV7.out
      unfold MBox at hV7'
      have hig' := hig.out
      have HF : Hid (FrQ w V7 [(ig, MBox X0 X1 X2 X3 X4), (ih, MBox Z0 Z1 Z2 Z3 Z4), (ib, MBox ry cy tb m cb), (ia, MBox rx cx ta n ca), (p1, BBox ry cy sb m kb), (p0, BBox rx cx sa n ka)] [fun W => ResM SQ R R mv W X0 X1 X2 X3 X4, fun W => SQ = 0 → ResM SQ R R mv W Z0 Z1 Z2 Z3 Z4, fun W => FlM W tb m cb ys, fun W => FlM W ta n ca xs]) := HF.out.sub (.cons_cons _ (.cons_cons _ (.cons_cons _ (.cons_cons _ (.cons_cons _ (.cons_cons _ .slnil)))))) (.cons_cons _ (.cons _ (.cons_cons _ (.cons_cons _ (.cons_cons _ .slnil)))))
      obtain ⟨c00, c01, c02⟩ := mcells_of (HF.out.at 0 rfl : V7.heap[ig]? = some (MBox X0 X1 X2 X3 X4))
      obtain ⟨c10, c11, c12⟩ := mcells_of (HF.out.at 1 rfl : V7.heap[ih]? = some (MBox Z0 Z1 Z2 Z3 Z4))
      go_wp2_with fail
      refine (told_res SQ R R mv _ _ _ _ _ _ _ _ _ _ _ (HF.out.get (g := fun W => ResM SQ R R mv W X0 X1 X2 X3 X4) 0 rfl) (HF.out.get (g := fun W => SQ = 0 → ResM SQ R R mv W Z0 Z1 Z2 Z3 Z4) 1 rfl)).mono ?_
      rintro e u8 ⟨rfl, hb⟩
      have HF : Hid (FrQ w u8 [(ig, MBox X0 X1 X2 X3 X4), (ih, MBox Z0 Z1 Z2 Z3 Z4), (ib, MBox ry cy tb m cb), (ia, MBox rx cx ta n ca), (p1, BBox ry cy sb m kb), (p0, BBox rx cx sa n ka)] [fun W => ResM SQ R R mv W X0 X1 X2 X3 X4, fun W => SQ = 0 → ResM SQ R R mv W Z0 Z1 Z2 Z3 Z4, fun W => FlM W tb m cb ys, fun W => FlM W ta n ca xs]) := HF.out.call hb
      clear hb
      have HF : Hid (FrQ w u8 [(ig, MBox X0 X1 X2 X3 X4), (ih, MBox Z0 Z1 Z2 Z3 Z4), (ib, MBox ry cy tb m cb), (ia, MBox rx cx ta n ca), (p1, BBox ry cy sb m kb), (p0, BBox rx cx sa n ka)] [fun W => FlM W tb m cb ys, fun W => FlM W ta n ca xs]) := HF.out.sub (.cons_cons _ (.cons_cons _ (.cons_cons _ (.cons_cons _ (.cons_cons _ (.cons_cons _ .slnil)))))) (.cons _ (.cons _ (.cons_cons _ (.cons_cons _ .slnil))))
      go_upto_if 90 with fail
      go_cut [9] from 20 (fun s9 W => s9 = .int .i64 MT ∧ ∃ (Q0 Q1 : Int) (Q2 : Option Addr) (Q3 Q4 : Nat), Hid (FrQ w W [(ig, MBox X0 X1 X2 X3 X4), (ih, MBox Q0 Q1 Q2 Q3 Q4), (ib, MBox ry cy tb m cb), (ia, MBox rx cx ta n ca), (p1, BBox ry cy sb m kb), (p0, BBox rx cx sa n ka)] [fun W => MT = 0 → ResM MT R R ev W Q0 Q1 Q2 Q3 Q4, fun W => FlM W tb m cb ys, fun W => FlM W ta n ca xs]))
      case first =>
        by_cases hT0 : EA = 0
        · have HRZ := hid (fun W h => HRE.out W h hT0)
          subst hT0
          obtain ⟨c00, c01, c02⟩ := mcells_of (HF.out.at 3 rfl : u8.heap[ia]? = some (MBox rx cx ta n ca))
          go_wp2_with fail
          refine (HRZ.out _ (HF.out.get (g := fun W => FlM W ta n ca xs) 1 rfl)).mono ?_
          rintro e u9 ⟨⟨A0, A1, A2, A3, A4, rfl, hres⟩, hb⟩
          have HF : Hid (FrQ w u9 [(ig, MBox X0 X1 X2 X3 X4), (ih, MBox Z0 Z1 Z2 Z3 Z4), (ib, MBox ry cy tb m cb), (ia, MBox rx cx ta n ca), (p1, BBox ry cy sb m kb), (p0, BBox rx cx sa n ka)] [fun W => FlM W tb m cb ys, fun W => FlM W ta n ca xs]) := HF.out.call hb
          have HF : Hid (FrQ w u9 [(ig, MBox X0 X1 X2 X3 X4), (ih, MBox Z0 Z1 Z2 Z3 Z4), (ib, MBox ry cy tb m cb), (ia, MBox rx cx ta n ca), (p1, BBox ry cy sb m kb), (p0, BBox rx cx sa n ka)] [fun W => MT = 0 → ResM MT R R ev W A0 A1 A2 A3 A4, fun W => FlM W tb m cb ys, fun W => FlM W ta n ca xs]) := HF.out.add (kept_resi _ _ _ _ _ _ _ _ _) (fun _ => hres)
          clear hb
          clear hres HRZ
          obtain ⟨z0, z1, z2⟩ := mcells_of (HF.out.at 1 rfl : u9.heap[ih]? = some (MBox Z0 Z1 Z2 Z3 Z4))
          have fz := frzM (HF.out.at 1 rfl : u9.heap[ih]? = some (MBox Z0 Z1 Z2 Z3 Z4))
          have HF : Hid (FrQ w (StoM u9 ih A0 A1 A2 A3 A4) [(ig, MBox X0 X1 X2 X3 X4), (ih, MBox A0 A1 A2 A3 A4), (ib, MBox ry cy tb m cb), (ia, MBox rx cx ta n ca), (p1, BBox ry cy sb m kb), (p0, BBox rx cx sa n ka)] [fun W => MT = 0 → ResM MT R R ev W A0 A1 A2 A3 A4, fun W => FlM W tb m cb ys, fun W => FlM W ta n ca xs]) := HF.out.sto 1 rfl
          obtain ⟨U10, hU10⟩ : ∃ V, Hid ((StoM u9 ih A0 A1 A2 A3 A4) = V) := ⟨_, rfl⟩
          rw [hU10.out] at HF
          have hU10' := hU10.out
          unfold StoM at hU10'
          go_wp2_with fail
          go_meet
          exact ⟨rfl, _, _, _, _, _, HF⟩
        · have hne : (EA == 0) = false := by simpa using hT0
          have hmn := HNE.out hT0
          have HNZ := hid hT0
          clear hT0
          have HF : Hid (FrQ w u8 [(ig, MBox X0 X1 X2 X3 X4), (ih, MBox Z0 Z1 Z2 Z3 Z4), (ib, MBox ry cy tb m cb), (ia, MBox rx cx ta n ca), (p1, BBox ry cy sb m kb), (p0, BBox rx cx sa n ka)] [fun W => MT = 0 → ResM MT R R ev W Z0 Z1 Z2 Z3 Z4, fun W => FlM W tb m cb ys, fun W => FlM W ta n ca xs]) := HF.out.add (kept_resi _ _ _ _ _ _ _ _ _) (fun h => absurd (hmn.symm.trans h) HNZ.out)
          go_wp2_with fail
          go_meet
          exact ⟨by rw [hmn], _, _, _, _, _, HF⟩
      case rest =>
        obtain ⟨rfl, Q0, Q1, Q2, Q3, Q4, HF⟩ := hcut
        obtain ⟨c00, c01, c02⟩ := bcells_of (HF.out.at 5 rfl : wc.heap[p0]? = some (BBox rx cx sa n ka))
        go_wp2_with fail
        refine (HOX.out _ HF.out.bel).mono ?_
        rintro e u9 ⟨⟨t8x, k8x, rfl, hf⟩, hb⟩
        have HF : Hid (FrQ w u9 [(ig, MBox X0 X1 X2 X3 X4), (ih, MBox Q0 Q1 Q2 Q3 Q4), (ib, MBox ry cy tb m cb), (ia, MBox rx cx ta n ca), (p1, BBox ry cy sb m kb), (p0, BBox rx cx sa n ka)] [fun W => MT = 0 → ResM MT R R ev W Q0 Q1 Q2 Q3 Q4, fun W => FlM W tb m cb ys, fun W => FlM W ta n ca xs]) := HF.out.call hb
        have HF : Hid (FrQ w u9 [(ig, MBox X0 X1 X2 X3 X4), (ih, MBox Q0 Q1 Q2 Q3 Q4), (ib, MBox ry cy tb m cb), (ia, MBox rx cx ta n ca), (p1, BBox ry cy sb m kb), (p0, BBox rx cx sa n ka)] [fun W => FlM W t8x n k8x xs, fun W => MT = 0 → ResM MT R R ev W Q0 Q1 Q2 Q3 Q4, fun W => FlM W tb m cb ys, fun W => FlM W ta n ca xs]) := HF.out.add (kept_fl _ _ _ _) hf
        clear hb
        unfold MV
        clear hf
        go_wp2_with fail
        refine (HPE.out _ _ _ (HF.out.get (g := fun W => FlM W t8x n k8x xs) 0 rfl)).mono ?_
        rintro e u10 ⟨⟨J0, J1, J2, J3, J4, rfl, hres⟩, hb⟩
        have HF : Hid (FrQ w u10 [(ig, MBox X0 X1 X2 X3 X4), (ih, MBox Q0 Q1 Q2 Q3 Q4), (ib, MBox ry cy tb m cb), (ia, MBox rx cx ta n ca), (p1, BBox ry cy sb m kb), (p0, BBox rx cx sa n ka)] [fun W => FlM W t8x n k8x xs, fun W => MT = 0 → ResM MT R R ev W Q0 Q1 Q2 Q3 Q4, fun W => FlM W tb m cb ys, fun W => FlM W ta n ca xs]) := HF.out.call hb
        have HF : Hid (FrQ w u10 [(ig, MBox X0 X1 X2 X3 X4), (ih, MBox Q0 Q1 Q2 Q3 Q4), (ib, MBox ry cy tb m cb), (ia, MBox rx cx ta n ca), (p1, BBox ry cy sb m kb), (p0, BBox rx cx sa n ka)] [fun W => ResM MT R R ev W J0 J1 J2 J3 J4, fun W => FlM W t8x n k8x xs, fun W => MT = 0 → ResM MT R R ev W Q0 Q1 Q2 Q3 Q4, fun W => FlM W tb m cb ys, fun W => FlM W ta n ca xs]) := HF.out.add (kept_res _ _ _ _ _ _ _ _ _) hres
        clear hb
        clear hres
        obtain ⟨z0, z1, z2⟩ := mcells_of (HF.out.at 0 rfl : u10.heap[ig]? = some (MBox X0 X1 X2 X3 X4))
        have fz := frzM (HF.out.at 0 rfl : u10.heap[ig]? = some (MBox X0 X1 X2 X3 X4))
        have HF : Hid (FrQ w (StoM u10 ig J0 J1 J2 J3 J4) [(ig, MBox J0 J1 J2 J3 J4), (ih, MBox Q0 Q1 Q2 Q3 Q4), (ib, MBox ry cy tb m cb), (ia, MBox rx cx ta n ca), (p1, BBox ry cy sb m kb), (p0, BBox rx cx sa n ka)] [fun W => ResM MT R R ev W J0 J1 J2 J3 J4, fun W => FlM W t8x n k8x xs, fun W => MT = 0 → ResM MT R R ev W Q0 Q1 Q2 Q3 Q4, fun W => FlM W tb m cb ys, fun W => FlM W ta n ca xs]) := HF.out.sto 0 rfl
        obtain ⟨U11, hU11⟩ : ∃ V, Hid ((StoM u10 ig J0 J1 J2 J3 J4) = V) := ⟨_, rfl⟩
        rw [hU11.out] at HF
        have hU11' := hU11.out
        unfold StoM at hU11'
        have HF : Hid (FrQ w U11 [(ig, MBox J0 J1 J2 J3 J4), (ih, MBox Q0 Q1 Q2 Q3 Q4), (ib, MBox ry cy tb m cb), (ia, MBox rx cx ta n ca), (p1, BBox ry cy sb m kb), (p0, BBox rx cx sa n ka)] [fun W => ResM MT R R ev W J0 J1 J2 J3 J4, fun W => MT = 0 → ResM MT R R ev W Q0 Q1 Q2 Q3 Q4, fun W => FlM W tb m cb ys, fun W => FlM W ta n ca xs]) := HF.out.sub (.cons_cons _ (.cons_cons _ (.cons_cons _ (.cons_cons _ (.cons_cons _ (.cons_cons _ .slnil)))))) (.cons_cons _ (.cons _ (.cons_cons _ (.cons_cons _ (.cons_cons _ .slnil)))))
        obtain ⟨c00, c01, c02⟩ := mcells_of (HF.out.at 0 rfl : U11.heap[ig]? = some (MBox J0 J1 J2 J3 J4))
        obtain ⟨c10, c11, c12⟩ := mcells_of (HF.out.at 1 rfl : U11.heap[ih]? = some (MBox Q0 Q1 Q2 Q3 Q4))
        go_wp2_with fail
        refine (told_res MT R R ev _ _ _ _ _ _ _ _ _ _ _ (HF.out.get (g := fun W => ResM MT R R ev W J0 J1 J2 J3 J4) 0 rfl) (HF.out.get (g := fun W => MT = 0 → ResM MT R R ev W Q0 Q1 Q2 Q3 Q4) 1 rfl)).mono ?_
        rintro e u12 ⟨rfl, hb⟩
        have HF : Hid (FrQ w u12 [(ig, MBox J0 J1 J2 J3 J4), (ih, MBox Q0 Q1 Q2 Q3 Q4), (ib, MBox ry cy tb m cb), (ia, MBox rx cx ta n ca), (p1, BBox ry cy sb m kb), (p0, BBox rx cx sa n ka)] [fun W => ResM MT R R ev W J0 J1 J2 J3 J4, fun W => MT = 0 → ResM MT R R ev W Q0 Q1 Q2 Q3 Q4, fun W => FlM W tb m cb ys, fun W => FlM W ta n ca xs]) := HF.out.call hb
        clear hb
        have HF : Hid (FrQ w u12 [(ib, MBox ry cy tb m cb), (ia, MBox rx cx ta n ca), (p1, BBox ry cy sb m kb), (p0, BBox rx cx sa n ka)] [fun W => FlM W tb m cb ys, fun W => FlM W ta n ca xs]) := HF.out.sub (.cons _ (.cons _ (.cons_cons _ (.cons_cons _ (.cons_cons _ (.cons_cons _ .slnil)))))) (.cons _ (.cons _ (.cons_cons _ (.cons_cons _ .slnil))))
        obtain ⟨c00, c01, c02⟩ := bcells_of (HF.out.at 3 rfl : u12.heap[p0]? = some (BBox rx cx sa n ka))
        go_wp2_with fail
        refine (HOX.out _ HF.out.bel).mono ?_
        rintro e u13 ⟨⟨t9x, k9x, rfl, hf⟩, hb⟩
        have HF : Hid (FrQ w u13 [(ib, MBox ry cy tb m cb), (ia, MBox rx cx ta n ca), (p1, BBox ry cy sb m kb), (p0, BBox rx cx sa n ka)] [fun W => FlM W tb m cb ys, fun W => FlM W ta n ca xs]) := HF.out.call hb
        have HF : Hid (FrQ w u13 [(ib, MBox ry cy tb m cb), (ia, MBox rx cx ta n ca), (p1, BBox ry cy sb m kb), (p0, BBox rx cx sa n ka)] [fun W => FlM W t9x n k9x xs, fun W => FlM W tb m cb ys, fun W => FlM W ta n ca xs]) := HF.out.add (kept_fl _ _ _ _) hf
        clear hb
        unfold MV
        clear hf
        go_wp2_with fail
        refine (HPT.out _ _ _ (HF.out.get (g := fun W => FlM W t9x n k9x xs) 0 rfl)).mono ?_
        rintro e u14 ⟨rfl, hb⟩
        have HF : Hid (FrQ w u14 [(ib, MBox ry cy tb m cb), (ia, MBox rx cx ta n ca), (p1, BBox ry cy sb m kb), (p0, BBox rx cx sa n ka)] [fun W => FlM W t9x n k9x xs, fun W => FlM W tb m cb ys, fun W => FlM W ta n ca xs]) := HF.out.call hb
        clear hb
        have HF : Hid (FrQ w u14 [(ib, MBox ry cy tb m cb), (ia, MBox rx cx ta n ca), (p1, BBox ry cy sb m kb), (p0, BBox rx cx sa n ka)] [fun W => FlM W tb m cb ys, fun W => FlM W ta n ca xs]) := HF.out.sub (.cons_cons _ (.cons_cons _ (.cons_cons _ (.cons_cons _ .slnil)))) (.cons _ (.cons_cons _ (.cons_cons _ .slnil)))
        go_upto_if 116 with fail
        go_cut [13, 9] from 20 (fun s13 s9 W => s13 = .float .f64 TD ∧ s9 = .int .i64 TT ∧ Hid (FrQ w W [(ib, MBox ry cy tb m cb), (ia, MBox rx cx ta n ca), (p1, BBox ry cy sb m kb), (p0, BBox rx cx sa n ka)] [fun W => FlM W tb m cb ys, fun W => FlM W ta n ca xs]))
        case first =>
          by_cases hT0 : EA = 0
          · have HRZ := hid (fun W h => HRT.out W h hT0)
            subst hT0
            obtain ⟨c00, c01, c02⟩ := mcells_of (HF.out.at 1 rfl : u14.heap[ia]? = some (MBox rx cx ta n ca))
            go_wp2_with fail
            refine (HRZ.out _ (HF.out.get (g := fun W => FlM W ta n ca xs) 1 rfl)).mono ?_
            rintro e u15 ⟨rfl, hb⟩
            have HF : Hid (FrQ w u15 [(ib, MBox ry cy tb m cb), (ia, MBox rx cx ta n ca), (p1, BBox ry cy sb m kb), (p0, BBox rx cx sa n ka)] [fun W => FlM W tb m cb ys, fun W => FlM W ta n ca xs]) := HF.out.call hb
            clear hb
            clear HRZ
            go_wp2_with fail
            go_meet
            exact ⟨rfl, rfl, HF⟩
          · have hne : (EA == 0) = false := by simpa using hT0
            obtain ⟨hx1, hx0⟩ := HNT.out hT0
            clear hT0
            go_wp2_with fail
            go_meet
            exact ⟨by rw [hx0], by rw [hx1], HF⟩
        case rest =>
          obtain ⟨rfl, rfl, HF⟩ := hcut
          go_wp2_with fail
          refine (HNU.out _).mono ?_
          rintro e ww ⟨rfl, hw⟩
          rw [hw]
          clear hw
          obtain ⟨c00, c01, c02⟩ := bcells_of (HF.out.at 3 rfl : wc.heap[p0]? = some (BBox rx cx sa n ka))
          go_wp2_with fail
          refine (HOX.out _ HF.out.bel).mono ?_
          rintro e u15 ⟨⟨t0x, k0x, rfl, hf⟩, hb⟩
          have HF : Hid (FrQ w u15 [(ib, MBox ry cy tb m cb), (ia, MBox rx cx ta n ca), (p1, BBox ry cy sb m kb), (p0, BBox rx cx sa n ka)] [fun W => FlM W tb m cb ys, fun W => FlM W ta n ca xs]) := HF.out.call hb
          have HF : Hid (FrQ w u15 [(ib, MBox ry cy tb m cb), (ia, MBox rx cx ta n ca), (p1, BBox ry cy sb m kb), (p0, BBox rx cx sa n ka)] [fun W => FlM W t0x n k0x xs, fun W => FlM W tb m cb ys, fun W => FlM W ta n ca xs]) := HF.out.add (kept_fl _ _ _ _) hf
          clear hb
          unfold MV
          clear hf
          go_wp2_with fail
          refine (HPN.out _ _ _ (HF.out.get (g := fun W => FlM W t0x n k0x xs) 0 rfl)).mono ?_
          rintro e u16 ⟨rfl, hb⟩
          have HF : Hid (FrQ w u16 [(ib, MBox ry cy tb m cb), (ia, MBox rx cx ta n ca), (p1, BBox ry cy sb m kb), (p0, BBox rx cx sa n ka)] [fun W => FlM W t0x n k0x xs, fun W => FlM W tb m cb ys, fun W => FlM W ta n ca xs]) := HF.out.call hb
          clear hb
          have HF : Hid (FrQ w u16 [(ib, MBox ry cy tb m cb), (ia, MBox rx cx ta n ca), (p1, BBox ry cy sb m kb), (p0, BBox rx cx sa n ka)] [fun W => FlM W tb m cb ys, fun W => FlM W ta n ca xs]) := HF.out.sub (.cons_cons _ (.cons_cons _ (.cons_cons _ (.cons_cons _ .slnil)))) (.cons _ (.cons_cons _ (.cons_cons _ .slnil)))
          go_upto_if 138 with fail
          go_cut [17, 18, 19, 9] from 20 (fun s17 s18 s19 s9 W => s17 = .float .f64 D1 ∧ s18 = .float .f64 D2 ∧ s19 = .float .f64 D3 ∧ s9 = .int .i64 NT ∧ Hid (FrQ w W [(ib, MBox ry cy tb m cb), (ia, MBox rx cx ta n ca), (p1, BBox ry cy sb m kb), (p0, BBox rx cx sa n ka)] [fun W => FlM W tb m cb ys, fun W => FlM W ta n ca xs]))
          case first =>
            by_cases hT0 : EA = 0
            · have HRZ := hid (fun W h => HRN.out W h hT0)
              subst hT0
              obtain ⟨c00, c01, c02⟩ := mcells_of (HF.out.at 1 rfl : u16.heap[ia]? = some (MBox rx cx ta n ca))
              go_wp2_with fail
              refine (HRZ.out _ (HF.out.get (g := fun W => FlM W ta n ca xs) 1 rfl)).mono ?_
              rintro e u17 ⟨rfl, hb⟩
              have HF : Hid (FrQ w u17 [(ib, MBox ry cy tb m cb), (ia, MBox rx cx ta n ca), (p1, BBox ry cy sb m kb), (p0, BBox rx cx sa n ka)] [fun W => FlM W tb m cb ys, fun W => FlM W ta n ca xs]) := HF.out.call hb
              clear hb
              clear HRZ
              go_wp2_with fail
              go_meet
              exact ⟨rfl, rfl, rfl, rfl, HF⟩
            · have hne : (EA == 0) = false := by simpa using hT0
              have hx0 := HN1.out hT0
              have hx1 := HN2.out hT0
              have hx2 := HN3.out hT0
              have hx3 := HNT2.out hT0
              clear hT0
              go_wp2_with fail
              go_meet
              exact ⟨by rw [hx0], by rw [hx1], by rw [hx2], by rw [hx3], HF⟩
          case rest =>
            obtain ⟨rfl, rfl, rfl, rfl, HF⟩ := hcut
            go_wp2_with fail
            refine (HSA.out D1 HNX.out.1 _).mono ?_
            rintro e ww ⟨rfl, hw⟩
            rw [hw]
            clear hw
            go_wp2_with fail
            refine (HSA.out D2 HNX.out.2.1 _).mono ?_
            rintro e ww ⟨rfl, hw⟩
            rw [hw]
            clear hw
            go_wp2_with fail
            refine (HSA.out D3 HNX.out.2.2 _).mono ?_
            rintro e ww ⟨rfl, hw⟩
            rw [hw]
            clear hw
            go_wp2_with fail
            go_ret
            exact ⟨rfl, HF.out.bel⟩
end Go.Proofs.Ythnblidkbcficaa
