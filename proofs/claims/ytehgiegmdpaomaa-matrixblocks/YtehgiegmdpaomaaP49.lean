
/- The law MatrixBlocks. (Written by mkneb.py.) -/
import Derived.Test.YtehgiegmdpaomaaP48
import Derived.Test.YtehgiegmdpaomaaP37
import Derived.Test.YtehgiegmdpaomaaP41
import Derived.Test.YtehgiegmdpaomaaP42
namespace Go.Proofs.Ytehgiegmdpaomaa
open Go.RowKit Go.IntWalk

set_option maxRecDepth 20000 in
set_option maxHeartbeats 16000000 in
theorem mblk_walk (rx cx : Int) (sa : Option Addr) (n ka : Nat) (xs : List Nat) (ry cy : Int) (sb : Option Addr) (m kb : Nat) (ys : List Nat) (rz cz : Int) (sc : Option Addr) (l kc : Nat) (zs : List Nat) (k0 : Int) (pa : Option Addr) (q pc : Nat) (ps : List Int) (w : World) (hu : U64At w sa n xs) (hn : n ≤ 17592186043904) (hv : U64At w sb m ys) (hm : m ≤ 17592186043904) (hz : U64At w sc l zs) (hl : l ≤ 17592186043904) (hk : -9223372036854775808 ≤ k0 ∧ k0 ≤ 9223372036854775807) (hp : I64At w pa q ps) (hq : q ≤ 17592186043904) :
    Calls Try.prog 3 #[.agg #[.int .i64 rx, .int .i64 cx, .slice sa n ka], .agg #[.int .i64 ry, .int .i64 cy, .slice sb m kb], .agg #[.int .i64 rz, .int .i64 cz, .slice sc l kc], .int .i64 k0, .slice pa q pc] w fun e w' => e = .returned (.bool true) ∧ Below w.heap.size w w' := by
  have HOX := hid (fun W (hW : Below w.heap.size w W) => of_any rx cx sa n ka xs W (hu.below hW) hn)
  have HOY := hid (fun W (hW : Below w.heap.size w W) => of_any ry cy sb m kb ys W (hv.below hW) hm)
  have HOZ := hid (fun W (hW : Below w.heap.size w W) => of_any rz cz sc l kc zs W (hz.below hW) hl)
  have HNM := hid (And.intro hn (And.intro hm (And.intro hl hq)))
  have HKK := hid hk
  have HPL := hid hp
  have HF : Hid (FrQ w (((w.alloc (BBox rx cx sa n ka)).alloc (BBox ry cy sb m kb)).alloc (BBox rz cz sc l kc)) [(w.heap.size + 1 + 1, BBox rz cz sc l kc), (w.heap.size + 1, BBox ry cy sb m kb), (w.heap.size, BBox rx cx sa n ka)] []) := by
    have := (((FrQ.start w).alloc (BBox rx cx sa n ka)).alloc (BBox ry cy sb m kb)).alloc (BBox rz cz sc l kc)
    rw [show (w.alloc (BBox rx cx sa n ka)).heap.size = w.heap.size + 1 from by simp, show ((w.alloc (BBox rx cx sa n ka)).alloc (BBox ry cy sb m kb)).heap.size = w.heap.size + 1 + 1 from by simp] at this
    exact this
  obtain ⟨V, hV⟩ : ∃ V, Hid (((w.alloc (BBox rx cx sa n ka)).alloc (BBox ry cy sb m kb)).alloc (BBox rz cz sc l kc) = V) := ⟨_, rfl⟩
  obtain ⟨p0, hp0⟩ : ∃ t, Hid (w.heap.size = t) := ⟨_, rfl⟩
  obtain ⟨p1, hp1⟩ : ∃ t, Hid (p0 + 1 = t) := ⟨_, rfl⟩
  obtain ⟨p2, hp2⟩ : ∃ t, Hid (p1 + 1 = t) := ⟨_, rfl⟩
  rw [hV.out, hp0.out, hp1.out, hp2.out] at HF
  have hV' := hV.out
  unfold BBox at hV'
  have hp0' := hp0.out
  have hp1' := hp1.out
  have hp2' := hp2.out
  clear hu hn hv hm hz hl hk hp hq
  go_enter Try.func3, Try.ntmps3
  go_wp2_with fail
  refine (awake8_any _).mono ?_
  rintro e u1 ⟨rfl, hb⟩
  have HF : Hid (FrQ w u1 [(p2, BBox rz cz sc l kc), (p1, BBox ry cy sb m kb), (p0, BBox rx cx sa n ka)] []) := HF.out.call hb
  clear hb
  have HKT : Hid (∀ W, Hid (Fr3b w W p0 p1 p2 (BBox rx cx sa n ka) (BBox ry cy sb m kb) (BBox rz cz sc l kc)) → (W.cell? ⟨p0, 0, none⟩ = some (.int .i64 rx) ∧ W.cell? ⟨p0, 1, none⟩ = some (.int .i64 cx) ∧ W.cell? ⟨p0, 2, none⟩ = some (.slice sa n ka) ∧ W.cell? ⟨p1, 0, none⟩ = some (.int .i64 ry) ∧ W.cell? ⟨p1, 1, none⟩ = some (.int .i64 cy) ∧ W.cell? ⟨p1, 2, none⟩ = some (.slice sb m kb) ∧ W.cell? ⟨p2, 0, none⟩ = some (.int .i64 rz) ∧ W.cell? ⟨p2, 1, none⟩ = some (.int .i64 cz) ∧ W.cell? ⟨p2, 2, none⟩ = some (.slice sc l kc)) ∧ Hid (Fr3b w W p0 p1 p2 (BBox rx cx sa n ka) (BBox ry cy sb m kb) (BBox rz cz sc l kc))) := fun W hW => by
    obtain ⟨a00, a01, a02⟩ := bcells_of hW.out.2.1
    obtain ⟨a10, a11, a12⟩ := bcells_of hW.out.2.2.1
    obtain ⟨a20, a21, a22⟩ := bcells_of hW.out.2.2.2
    exact ⟨⟨a00, a01, a02, a10, a11, a12, a20, a21, a22⟩, hW⟩
  have HQ0 : Hid (FrQ w u1.drew [(p2, BBox rz cz sc l kc), (p1, BBox ry cy sb m kb), (p0, BBox rx cx sa n ka)] []) := HF.out.drew
  go_wp2_with fail
  refine region_merge2 (fun a0 a' w' => ∃ (ta : Option Addr) (ca : Nat) (tb : Option Addr) (cb : Nat) (tc : Option Addr) (cc ia ib ic : Nat), a' = Act.put (Act.put (Act.put (Act.put (Act.put (Act.put (Act.put (Act.put (Act.put (a0) (some 53) (.agg #[.int .i64 rx, .int .i64 cx, .slice sa n ka])) (some 55) (.agg #[.int .i64 ry, .int .i64 cy, .slice sb m kb])) (some 57) (.agg #[.int .i64 rz, .int .i64 cz, .slice sc l kc])) (some 54) (.agg #[.int .i64 rx, .int .i64 cx, .slice ta n ca])) (some 56) (.agg #[.int .i64 ry, .int .i64 cy, .slice tb m cb])) (some 58) (.agg #[.int .i64 rz, .int .i64 cz, .slice tc l cc])) (some 11) (.pointer (some ⟨ia, 0, none⟩))) (some 12) (.pointer (some ⟨ib, 0, none⟩))) (some 13) (.pointer (some ⟨ic, 0, none⟩)) ∧ FrQ w w' [(ic, MBox rz cz tc l cc), (ib, MBox ry cy tb m cb), (ia, MBox rx cx ta n ca), (p2, BBox rz cz sc l kc), (p1, BBox ry cy sb m kb), (p0, BBox rx cx sa n ka)] [fun W => FlM W tc l cc zs, fun W => FlM W tb m cb ys, fun W => FlM W ta n ca xs]) (fun HR => ?_) ?_
  · as_aux_lemma =>
      simp only [Act.put, List.setIfInBounds_toArray, List.set_cons_zero, List.set_cons_succ] at HR
      refine wp_region_held_drew (S := fun W => (W.cell? ⟨p0, 0, none⟩ = some (.int .i64 rx) ∧ W.cell? ⟨p0, 1, none⟩ = some (.int .i64 cx) ∧ W.cell? ⟨p0, 2, none⟩ = some (.slice sa n ka) ∧ W.cell? ⟨p1, 0, none⟩ = some (.int .i64 ry) ∧ W.cell? ⟨p1, 1, none⟩ = some (.int .i64 cy) ∧ W.cell? ⟨p1, 2, none⟩ = some (.slice sb m kb) ∧ W.cell? ⟨p2, 0, none⟩ = some (.int .i64 rz) ∧ W.cell? ⟨p2, 1, none⟩ = some (.int .i64 cz) ∧ W.cell? ⟨p2, 2, none⟩ = some (.slice sc l kc)) ∧ Hid (Fr3b w W p0 p1 p2 (BBox rx cx sa n ka) (BBox ry cy sb m kb) (BBox rz cz sc l kc))) (by kernel_rfl) (HKT.out _ (frq3 HQ0.out (by simp) (by simp) (by simp))) (fun hHeld => ?_)
      refine take_at 0 53 (.agg #[.int .i64 rx, .int .i64 cx, .slice sa n ka]) rfl rfl (by kernel_rfl) (by kernel_rfl) (by kernel_rfl) (fun _ _ _ h => h) (Or.inl ⟨by rfl, fun w hSw => by (try dsimp only at hSw); go_simp⟩) (by assumption) ?_
      simp only [Act.put, List.setIfInBounds_toArray, List.set_cons_zero, List.set_cons_succ]
      refine take_at 2 55 (.agg #[.int .i64 ry, .int .i64 cy, .slice sb m kb]) rfl rfl (by kernel_rfl) (by kernel_rfl) (by kernel_rfl) (fun _ _ _ h => h) (Or.inl ⟨by rfl, fun w hSw => by (try dsimp only at hSw); go_simp⟩) (by assumption) ?_
      simp only [Act.put, List.setIfInBounds_toArray, List.set_cons_zero, List.set_cons_succ]
      refine take_at 4 57 (.agg #[.int .i64 rz, .int .i64 cz, .slice sc l kc]) rfl rfl (by kernel_rfl) (by kernel_rfl) (by kernel_rfl) (fun _ _ _ h => h) (Or.inl ⟨by rfl, fun w hSw => by (try dsimp only at hSw); go_simp⟩) (by assumption) ?_
      simp only [Act.put, List.setIfInBounds_toArray, List.set_cons_zero, List.set_cons_succ]
      refine dag_open (fun G A0 hG hA => ?_)
      have HS3abc : Hid (∀ (W : World) (ta : Option Addr) (ca : Nat) (tb : Option Addr) (cb : Nat) (tc : Option Addr) (cc : Nat) (ia ib ic : Nat), Hid (FrQ w W [(ic, MBox 0 0 none 0 0), (ib, MBox 0 0 none 0 0), (ia, MBox 0 0 none 0 0), (p2, BBox rz cz sc l kc), (p1, BBox ry cy sb m kb), (p0, BBox rx cx sa n ka)] [fun W => FlM W tc l cc zs, fun W => FlM W tb m cb ys, fun W => FlM W ta n ca xs]) → G 3 #[true, true, true, true, true, true, true, true, true, false, false, false] (Act.put (Act.put (Act.put (Act.put (Act.put (Act.put (A0) (some 54) (.agg #[.int .i64 rx, .int .i64 cx, .slice ta n ca])) (some 56) (.agg #[.int .i64 ry, .int .i64 cy, .slice tb m cb])) (some 58) (.agg #[.int .i64 rz, .int .i64 cz, .slice tc l cc])) (some 11) (.pointer (some ⟨ia, 0, none⟩))) (some 12) (.pointer (some ⟨ib, 0, none⟩))) (some 13) (.pointer (some ⟨ic, 0, none⟩))) W) := fun W ta ca tb cb tc cc ia ib ic HQ => by
        rw [hG.out, hA.out]
        simp only [Act.put, List.setIfInBounds_toArray, List.set_cons_zero, List.set_cons_succ]
        refine wpAnyH_ready (rs := [9]) (by kernel_rfl) (by simp) ?_
        refine AllReadyH.cons (o := _) rfl (fun K hK => ?_) AllReadyH.nil
        obtain ⟨z0, z1, z2⟩ := mcells_of (HQ.out.at 2 rfl : W.heap[ia]? = some (MBox 0 0 none 0 0))
        have fz := frzM (HQ.out.at 2 rfl : W.heap[ia]? = some (MBox 0 0 none 0 0))
        have HQ : Hid (FrQ w (StoM W ia rx cx ta n ca) [(ic, MBox 0 0 none 0 0), (ib, MBox 0 0 none 0 0), (ia, MBox rx cx ta n ca), (p2, BBox rz cz sc l kc), (p1, BBox ry cy sb m kb), (p0, BBox rx cx sa n ka)] [fun W => FlM W tc l cc zs, fun W => FlM W tb m cb ys, fun W => FlM W ta n ca xs]) := HQ.out.sto 2 rfl
        obtain ⟨Y0, hY0⟩ : ∃ X, Hid ((StoM W ia rx cx ta n ca) = X) := ⟨_, rfl⟩
        rw [hY0.out] at HQ
        have hY0' := hY0.out
        unfold StoM at hY0'
        go_simp
        go_wp2_with fail
        refine hK.out _ _ (HKT.out _ (frq3 HQ.out (by simp) (by simp) (by simp))) (fun hHeld => ?_)
        clear hK K z0 z1 z2 fz
        try simp only [List.setIfInBounds_toArray, List.set_cons_zero, List.set_cons_succ]
        refine wpAnyH_ready (rs := [10]) (by kernel_rfl) (by simp) ?_
        refine AllReadyH.cons (o := _) rfl (fun K hK => ?_) AllReadyH.nil
        obtain ⟨z0, z1, z2⟩ := mcells_of (HQ.out.at 1 rfl : Y0.heap[ib]? = some (MBox 0 0 none 0 0))
        have fz := frzM (HQ.out.at 1 rfl : Y0.heap[ib]? = some (MBox 0 0 none 0 0))
        have HQ : Hid (FrQ w (StoM Y0 ib ry cy tb m cb) [(ic, MBox 0 0 none 0 0), (ib, MBox ry cy tb m cb), (ia, MBox rx cx ta n ca), (p2, BBox rz cz sc l kc), (p1, BBox ry cy sb m kb), (p0, BBox rx cx sa n ka)] [fun W => FlM W tc l cc zs, fun W => FlM W tb m cb ys, fun W => FlM W ta n ca xs]) := HQ.out.sto 1 rfl
        obtain ⟨Y1, hY1⟩ : ∃ X, Hid ((StoM Y0 ib ry cy tb m cb) = X) := ⟨_, rfl⟩
        rw [hY1.out] at HQ
        have hY1' := hY1.out
        unfold StoM at hY1'
        go_simp
        go_wp2_with fail
        refine hK.out _ _ (HKT.out _ (frq3 HQ.out (by simp) (by simp) (by simp))) (fun hHeld => ?_)
        clear hK K z0 z1 z2 fz
        try simp only [List.setIfInBounds_toArray, List.set_cons_zero, List.set_cons_succ]
        refine wpAnyH_ready (rs := [11]) (by kernel_rfl) (by simp) ?_
        refine AllReadyH.cons (o := _) rfl (fun K hK => ?_) AllReadyH.nil
        obtain ⟨z0, z1, z2⟩ := mcells_of (HQ.out.at 0 rfl : Y1.heap[ic]? = some (MBox 0 0 none 0 0))
        have fz := frzM (HQ.out.at 0 rfl : Y1.heap[ic]? = some (MBox 0 0 none 0 0))
        have HQ : Hid (FrQ w (StoM Y1 ic rz cz tc l cc) [(ic, MBox rz cz tc l cc), (ib, MBox ry cy tb m cb), (ia, MBox rx cx ta n ca), (p2, BBox rz cz sc l kc), (p1, BBox ry cy sb m kb), (p0, BBox rx cx sa n ka)] [fun W => FlM W tc l cc zs, fun W => FlM W tb m cb ys, fun W => FlM W ta n ca xs]) := HQ.out.sto 0 rfl
        obtain ⟨Y2, hY2⟩ : ∃ X, Hid ((StoM Y1 ic rz cz tc l cc) = X) := ⟨_, rfl⟩
        rw [hY2.out] at HQ
        have hY2' := hY2.out
        unfold StoM at hY2'
        go_simp
        go_wp2_with fail
        refine hK.out _ _ (HKT.out _ (frq3 HQ.out (by simp) (by simp) (by simp))) (fun hHeld => ?_)
        clear hK K z0 z1 z2 fz
        try simp only [List.setIfInBounds_toArray, List.set_cons_zero, List.set_cons_succ]
        refine wpAnyH_done (by kernel_rfl) ?_ _
        exact HR.out _ _ ⟨ta, ca, tb, cb, tc, cc, ia, ib, ic, rfl, HQ.out⟩
      have HS3ab : Hid (∀ (W : World) (ta : Option Addr) (ca : Nat) (tb : Option Addr) (cb : Nat) (tc : Option Addr) (cc : Nat) (ia ib : Nat), Hid (FrQ w W [(ib, MBox 0 0 none 0 0), (ia, MBox 0 0 none 0 0), (p2, BBox rz cz sc l kc), (p1, BBox ry cy sb m kb), (p0, BBox rx cx sa n ka)] [fun W => FlM W tc l cc zs, fun W => FlM W tb m cb ys, fun W => FlM W ta n ca xs]) → G 4 #[true, true, true, true, true, true, true, true, false, false, false, false] (Act.put (Act.put (Act.put (Act.put (Act.put (A0) (some 54) (.agg #[.int .i64 rx, .int .i64 cx, .slice ta n ca])) (some 56) (.agg #[.int .i64 ry, .int .i64 cy, .slice tb m cb])) (some 58) (.agg #[.int .i64 rz, .int .i64 cz, .slice tc l cc])) (some 11) (.pointer (some ⟨ia, 0, none⟩))) (some 12) (.pointer (some ⟨ib, 0, none⟩))) W) := fun W ta ca tb cb tc cc ia ib HQ => by
        rw [hG.out, hA.out]
        simp only [Act.put, List.setIfInBounds_toArray, List.set_cons_zero, List.set_cons_succ]
        refine wpAnyH_ready (rs := [8]) (by kernel_rfl) (by simp) ?_
        refine AllReadyH.cons (o := _) rfl (fun K hK => ?_) AllReadyH.nil
        go_simp
        go_wp2_with fail
        have HQ := hid (HQ.out.alloc (MBox 0 0 none 0 0))
        refine hK.out _ _ (HKT.out _ (frq3 HQ.out (by simp) (by simp) (by simp))) (fun hHeld => ?_)
        clear hK K
        try simp only [List.setIfInBounds_toArray, List.set_cons_zero, List.set_cons_succ]
        obtain ⟨X, hX, HQ⟩ := frq_name HQ.out
        obtain ⟨ic, hic, HQ⟩ := frq_head HQ.out
        have hy := hX.out
        unfold MBox at hy
        have hz := hic.out
        rw [hy, hz]
        clear hy hz
        have HQ : Hid (FrQ w X [(ic, MBox 0 0 none 0 0), (ib, MBox 0 0 none 0 0), (ia, MBox 0 0 none 0 0), (p2, BBox rz cz sc l kc), (p1, BBox ry cy sb m kb), (p0, BBox rx cx sa n ka)] [fun W => FlM W tc l cc zs, fun W => FlM W tb m cb ys, fun W => FlM W ta n ca xs]) := frq_perm HQ.out (by simp) (by have hn := HQ.out.nod; simp only [List.map_cons, List.map_nil, List.nodup_cons, List.mem_cons, List.not_mem_nil, or_false, not_or, not_false_iff, List.nodup_nil, and_true] at hn ⊢; omega) (by simp)
        have hfin := HS3abc.out X ta ca tb cb tc cc ia ib ic HQ
        rw [hG.out, hA.out] at hfin
        simp only [Act.put, List.setIfInBounds_toArray, List.set_cons_zero, List.set_cons_succ] at hfin
        exact hfin
      have HS3ac : Hid (∀ (W : World) (ta : Option Addr) (ca : Nat) (tb : Option Addr) (cb : Nat) (tc : Option Addr) (cc : Nat) (ia ic : Nat), Hid (FrQ w W [(ic, MBox 0 0 none 0 0), (ia, MBox 0 0 none 0 0), (p2, BBox rz cz sc l kc), (p1, BBox ry cy sb m kb), (p0, BBox rx cx sa n ka)] [fun W => FlM W tc l cc zs, fun W => FlM W tb m cb ys, fun W => FlM W ta n ca xs]) → G 4 #[true, true, true, true, true, true, true, false, true, false, false, false] (Act.put (Act.put (Act.put (Act.put (Act.put (A0) (some 54) (.agg #[.int .i64 rx, .int .i64 cx, .slice ta n ca])) (some 56) (.agg #[.int .i64 ry, .int .i64 cy, .slice tb m cb])) (some 58) (.agg #[.int .i64 rz, .int .i64 cz, .slice tc l cc])) (some 11) (.pointer (some ⟨ia, 0, none⟩))) (some 13) (.pointer (some ⟨ic, 0, none⟩))) W) := fun W ta ca tb cb tc cc ia ic HQ => by
        rw [hG.out, hA.out]
        simp only [Act.put, List.setIfInBounds_toArray, List.set_cons_zero, List.set_cons_succ]
        refine wpAnyH_ready (rs := [7]) (by kernel_rfl) (by simp) ?_
        refine AllReadyH.cons (o := _) rfl (fun K hK => ?_) AllReadyH.nil
        go_simp
        go_wp2_with fail
        have HQ := hid (HQ.out.alloc (MBox 0 0 none 0 0))
        refine hK.out _ _ (HKT.out _ (frq3 HQ.out (by simp) (by simp) (by simp))) (fun hHeld => ?_)
        clear hK K
        try simp only [List.setIfInBounds_toArray, List.set_cons_zero, List.set_cons_succ]
        obtain ⟨X, hX, HQ⟩ := frq_name HQ.out
        obtain ⟨ib, hib, HQ⟩ := frq_head HQ.out
        have hy := hX.out
        unfold MBox at hy
        have hz := hib.out
        rw [hy, hz]
        clear hy hz
        have HQ : Hid (FrQ w X [(ic, MBox 0 0 none 0 0), (ib, MBox 0 0 none 0 0), (ia, MBox 0 0 none 0 0), (p2, BBox rz cz sc l kc), (p1, BBox ry cy sb m kb), (p0, BBox rx cx sa n ka)] [fun W => FlM W tc l cc zs, fun W => FlM W tb m cb ys, fun W => FlM W ta n ca xs]) := frq_perm HQ.out (by simp) (by have hn := HQ.out.nod; simp only [List.map_cons, List.map_nil, List.nodup_cons, List.mem_cons, List.not_mem_nil, or_false, not_or, not_false_iff, List.nodup_nil, and_true] at hn ⊢; omega) (by simp)
        have hfin := HS3abc.out X ta ca tb cb tc cc ia ib ic HQ
        rw [hG.out, hA.out] at hfin
        simp only [Act.put, List.setIfInBounds_toArray, List.set_cons_zero, List.set_cons_succ] at hfin
        exact hfin
      have HS3bc : Hid (∀ (W : World) (ta : Option Addr) (ca : Nat) (tb : Option Addr) (cb : Nat) (tc : Option Addr) (cc : Nat) (ib ic : Nat), Hid (FrQ w W [(ic, MBox 0 0 none 0 0), (ib, MBox 0 0 none 0 0), (p2, BBox rz cz sc l kc), (p1, BBox ry cy sb m kb), (p0, BBox rx cx sa n ka)] [fun W => FlM W tc l cc zs, fun W => FlM W tb m cb ys, fun W => FlM W ta n ca xs]) → G 4 #[true, true, true, true, true, true, false, true, true, false, false, false] (Act.put (Act.put (Act.put (Act.put (Act.put (A0) (some 54) (.agg #[.int .i64 rx, .int .i64 cx, .slice ta n ca])) (some 56) (.agg #[.int .i64 ry, .int .i64 cy, .slice tb m cb])) (some 58) (.agg #[.int .i64 rz, .int .i64 cz, .slice tc l cc])) (some 12) (.pointer (some ⟨ib, 0, none⟩))) (some 13) (.pointer (some ⟨ic, 0, none⟩))) W) := fun W ta ca tb cb tc cc ib ic HQ => by
        rw [hG.out, hA.out]
        simp only [Act.put, List.setIfInBounds_toArray, List.set_cons_zero, List.set_cons_succ]
        refine wpAnyH_ready (rs := [6]) (by kernel_rfl) (by simp) ?_
        refine AllReadyH.cons (o := _) rfl (fun K hK => ?_) AllReadyH.nil
        go_simp
        go_wp2_with fail
        have HQ := hid (HQ.out.alloc (MBox 0 0 none 0 0))
        refine hK.out _ _ (HKT.out _ (frq3 HQ.out (by simp) (by simp) (by simp))) (fun hHeld => ?_)
        clear hK K
        try simp only [List.setIfInBounds_toArray, List.set_cons_zero, List.set_cons_succ]
        obtain ⟨X, hX, HQ⟩ := frq_name HQ.out
        obtain ⟨ia, hia, HQ⟩ := frq_head HQ.out
        have hy := hX.out
        unfold MBox at hy
        have hz := hia.out
        rw [hy, hz]
        clear hy hz
        have HQ : Hid (FrQ w X [(ic, MBox 0 0 none 0 0), (ib, MBox 0 0 none 0 0), (ia, MBox 0 0 none 0 0), (p2, BBox rz cz sc l kc), (p1, BBox ry cy sb m kb), (p0, BBox rx cx sa n ka)] [fun W => FlM W tc l cc zs, fun W => FlM W tb m cb ys, fun W => FlM W ta n ca xs]) := frq_perm HQ.out (by simp) (by have hn := HQ.out.nod; simp only [List.map_cons, List.map_nil, List.nodup_cons, List.mem_cons, List.not_mem_nil, or_false, not_or, not_false_iff, List.nodup_nil, and_true] at hn ⊢; omega) (by simp)
        have hfin := HS3abc.out X ta ca tb cb tc cc ia ib ic HQ
        rw [hG.out, hA.out] at hfin
        simp only [Act.put, List.setIfInBounds_toArray, List.set_cons_zero, List.set_cons_succ] at hfin
        exact hfin
      have HS2abc : Hid (∀ (W : World) (ta : Option Addr) (ca : Nat) (tb : Option Addr) (cb : Nat) (ia ib ic : Nat), Hid (FrQ w W [(ic, MBox 0 0 none 0 0), (ib, MBox 0 0 none 0 0), (ia, MBox 0 0 none 0 0), (p2, BBox rz cz sc l kc), (p1, BBox ry cy sb m kb), (p0, BBox rx cx sa n ka)] [fun W => FlM W tb m cb ys, fun W => FlM W ta n ca xs]) → G 4 #[true, true, true, true, true, false, true, true, true, false, false, false] (Act.put (Act.put (Act.put (Act.put (Act.put (A0) (some 54) (.agg #[.int .i64 rx, .int .i64 cx, .slice ta n ca])) (some 56) (.agg #[.int .i64 ry, .int .i64 cy, .slice tb m cb])) (some 11) (.pointer (some ⟨ia, 0, none⟩))) (some 12) (.pointer (some ⟨ib, 0, none⟩))) (some 13) (.pointer (some ⟨ic, 0, none⟩))) W) := fun W ta ca tb cb ia ib ic HQ => by
        rw [hG.out, hA.out]
        simp only [Act.put, List.setIfInBounds_toArray, List.set_cons_zero, List.set_cons_succ]
        refine wpAnyH_ready (rs := [5]) (by kernel_rfl) (by simp) ?_
        refine AllReadyH.cons (o := _) rfl (fun K hK => ?_) AllReadyH.nil
        go_simp
        refine (HOZ.out _ HQ.out.bel).mono ?_
        rintro e X ⟨⟨tc, cc, rfl, hf⟩, hb⟩
        have HQ := hid ((HQ.out.call hb).add (g := fun W => FlM W tc l cc zs) (kept_fl _ _ _ _) hf)
        clear hf hb
        unfold MV
        go_wp2_with fail
        refine hK.out _ _ (HKT.out _ (frq3 HQ.out (by simp) (by simp) (by simp))) (fun hHeld => ?_)
        clear hK K
        try simp only [List.setIfInBounds_toArray, List.set_cons_zero, List.set_cons_succ]
        have hfin := HS3abc.out X ta ca tb cb tc cc ia ib ic HQ
        rw [hG.out, hA.out] at hfin
        simp only [Act.put, List.setIfInBounds_toArray, List.set_cons_zero, List.set_cons_succ] at hfin
        exact hfin
      clear HS3abc
      have HS3a : Hid (∀ (W : World) (ta : Option Addr) (ca : Nat) (tb : Option Addr) (cb : Nat) (tc : Option Addr) (cc : Nat) (ia : Nat), Hid (FrQ w W [(ia, MBox 0 0 none 0 0), (p2, BBox rz cz sc l kc), (p1, BBox ry cy sb m kb), (p0, BBox rx cx sa n ka)] [fun W => FlM W tc l cc zs, fun W => FlM W tb m cb ys, fun W => FlM W ta n ca xs]) → G 5 #[true, true, true, true, true, true, true, false, false, false, false, false] (Act.put (Act.put (Act.put (Act.put (A0) (some 54) (.agg #[.int .i64 rx, .int .i64 cx, .slice ta n ca])) (some 56) (.agg #[.int .i64 ry, .int .i64 cy, .slice tb m cb])) (some 58) (.agg #[.int .i64 rz, .int .i64 cz, .slice tc l cc])) (some 11) (.pointer (some ⟨ia, 0, none⟩))) W) := fun W ta ca tb cb tc cc ia HQ => by
        rw [hG.out, hA.out]
        simp only [Act.put, List.setIfInBounds_toArray, List.set_cons_zero, List.set_cons_succ]
        refine wpAnyH_ready (rs := [7, 8]) (by kernel_rfl) (by simp) ?_
        refine AllReadyH.cons (o := _) rfl (fun K hK => ?_) (AllReadyH.cons (o := _) rfl (fun K hK => ?_) AllReadyH.nil)
        · go_simp
          go_wp2_with fail
          have HQ := hid (HQ.out.alloc (MBox 0 0 none 0 0))
          refine hK.out _ _ (HKT.out _ (frq3 HQ.out (by simp) (by simp) (by simp))) (fun hHeld => ?_)
          clear hK K
          try simp only [List.setIfInBounds_toArray, List.set_cons_zero, List.set_cons_succ]
          obtain ⟨X, hX, HQ⟩ := frq_name HQ.out
          obtain ⟨ib, hib, HQ⟩ := frq_head HQ.out
          have hy := hX.out
          unfold MBox at hy
          have hz := hib.out
          rw [hy, hz]
          clear hy hz
          have HQ : Hid (FrQ w X [(ib, MBox 0 0 none 0 0), (ia, MBox 0 0 none 0 0), (p2, BBox rz cz sc l kc), (p1, BBox ry cy sb m kb), (p0, BBox rx cx sa n ka)] [fun W => FlM W tc l cc zs, fun W => FlM W tb m cb ys, fun W => FlM W ta n ca xs]) := frq_perm HQ.out (by simp) (by have hn := HQ.out.nod; simp only [List.map_cons, List.map_nil, List.nodup_cons, List.mem_cons, List.not_mem_nil, or_false, not_or, not_false_iff, List.nodup_nil, and_true] at hn ⊢; omega) (by simp)
          have hfin := HS3ab.out X ta ca tb cb tc cc ia ib HQ
          rw [hG.out, hA.out] at hfin
          simp only [Act.put, List.setIfInBounds_toArray, List.set_cons_zero, List.set_cons_succ] at hfin
          exact hfin
        · go_simp
          go_wp2_with fail
          have HQ := hid (HQ.out.alloc (MBox 0 0 none 0 0))
          refine hK.out _ _ (HKT.out _ (frq3 HQ.out (by simp) (by simp) (by simp))) (fun hHeld => ?_)
          clear hK K
          try simp only [List.setIfInBounds_toArray, List.set_cons_zero, List.set_cons_succ]
          obtain ⟨X, hX, HQ⟩ := frq_name HQ.out
          obtain ⟨ic, hic, HQ⟩ := frq_head HQ.out
          have hy := hX.out
          unfold MBox at hy
          have hz := hic.out
          rw [hy, hz]
          clear hy hz
          have HQ : Hid (FrQ w X [(ic, MBox 0 0 none 0 0), (ia, MBox 0 0 none 0 0), (p2, BBox rz cz sc l kc), (p1, BBox ry cy sb m kb), (p0, BBox rx cx sa n ka)] [fun W => FlM W tc l cc zs, fun W => FlM W tb m cb ys, fun W => FlM W ta n ca xs]) := frq_perm HQ.out (by simp) (by have hn := HQ.out.nod; simp only [List.map_cons, List.map_nil, List.nodup_cons, List.mem_cons, List.not_mem_nil, or_false, not_or, not_false_iff, List.nodup_nil, and_true] at hn ⊢; omega) (by simp)
          have hfin := HS3ac.out X ta ca tb cb tc cc ia ic HQ
          rw [hG.out, hA.out] at hfin
          simp only [Act.put, List.setIfInBounds_toArray, List.set_cons_zero, List.set_cons_succ] at hfin
          exact hfin
      have HS3b : Hid (∀ (W : World) (ta : Option Addr) (ca : Nat) (tb : Option Addr) (cb : Nat) (tc : Option Addr) (cc : Nat) (ib : Nat), Hid (FrQ w W [(ib, MBox 0 0 none 0 0), (p2, BBox rz cz sc l kc), (p1, BBox ry cy sb m kb), (p0, BBox rx cx sa n ka)] [fun W => FlM W tc l cc zs, fun W => FlM W tb m cb ys, fun W => FlM W ta n ca xs]) → G 5 #[true, true, true, true, true, true, false, true, false, false, false, false] (Act.put (Act.put (Act.put (Act.put (A0) (some 54) (.agg #[.int .i64 rx, .int .i64 cx, .slice ta n ca])) (some 56) (.agg #[.int .i64 ry, .int .i64 cy, .slice tb m cb])) (some 58) (.agg #[.int .i64 rz, .int .i64 cz, .slice tc l cc])) (some 12) (.pointer (some ⟨ib, 0, none⟩))) W) := fun W ta ca tb cb tc cc ib HQ => by
        rw [hG.out, hA.out]
        simp only [Act.put, List.setIfInBounds_toArray, List.set_cons_zero, List.set_cons_succ]
        refine wpAnyH_ready (rs := [6, 8]) (by kernel_rfl) (by simp) ?_
        refine AllReadyH.cons (o := _) rfl (fun K hK => ?_) (AllReadyH.cons (o := _) rfl (fun K hK => ?_) AllReadyH.nil)
        · go_simp
          go_wp2_with fail
          have HQ := hid (HQ.out.alloc (MBox 0 0 none 0 0))
          refine hK.out _ _ (HKT.out _ (frq3 HQ.out (by simp) (by simp) (by simp))) (fun hHeld => ?_)
          clear hK K
          try simp only [List.setIfInBounds_toArray, List.set_cons_zero, List.set_cons_succ]
          obtain ⟨X, hX, HQ⟩ := frq_name HQ.out
          obtain ⟨ia, hia, HQ⟩ := frq_head HQ.out
          have hy := hX.out
          unfold MBox at hy
          have hz := hia.out
          rw [hy, hz]
          clear hy hz
          have HQ : Hid (FrQ w X [(ib, MBox 0 0 none 0 0), (ia, MBox 0 0 none 0 0), (p2, BBox rz cz sc l kc), (p1, BBox ry cy sb m kb), (p0, BBox rx cx sa n ka)] [fun W => FlM W tc l cc zs, fun W => FlM W tb m cb ys, fun W => FlM W ta n ca xs]) := frq_perm HQ.out (by simp) (by have hn := HQ.out.nod; simp only [List.map_cons, List.map_nil, List.nodup_cons, List.mem_cons, List.not_mem_nil, or_false, not_or, not_false_iff, List.nodup_nil, and_true] at hn ⊢; omega) (by simp)
          have hfin := HS3ab.out X ta ca tb cb tc cc ia ib HQ
          rw [hG.out, hA.out] at hfin
          simp only [Act.put, List.setIfInBounds_toArray, List.set_cons_zero, List.set_cons_succ] at hfin
          exact hfin
        · go_simp
          go_wp2_with fail
          have HQ := hid (HQ.out.alloc (MBox 0 0 none 0 0))
          refine hK.out _ _ (HKT.out _ (frq3 HQ.out (by simp) (by simp) (by simp))) (fun hHeld => ?_)
          clear hK K
          try simp only [List.setIfInBounds_toArray, List.set_cons_zero, List.set_cons_succ]
          obtain ⟨X, hX, HQ⟩ := frq_name HQ.out
          obtain ⟨ic, hic, HQ⟩ := frq_head HQ.out
          have hy := hX.out
          unfold MBox at hy
          have hz := hic.out
          rw [hy, hz]
          clear hy hz
          have HQ : Hid (FrQ w X [(ic, MBox 0 0 none 0 0), (ib, MBox 0 0 none 0 0), (p2, BBox rz cz sc l kc), (p1, BBox ry cy sb m kb), (p0, BBox rx cx sa n ka)] [fun W => FlM W tc l cc zs, fun W => FlM W tb m cb ys, fun W => FlM W ta n ca xs]) := frq_perm HQ.out (by simp) (by have hn := HQ.out.nod; simp only [List.map_cons, List.map_nil, List.nodup_cons, List.mem_cons, List.not_mem_nil, or_false, not_or, not_false_iff, List.nodup_nil, and_true] at hn ⊢; omega) (by simp)
          have hfin := HS3bc.out X ta ca tb cb tc cc ib ic HQ
          rw [hG.out, hA.out] at hfin
          simp only [Act.put, List.setIfInBounds_toArray, List.set_cons_zero, List.set_cons_succ] at hfin
          exact hfin
      have HS3c : Hid (∀ (W : World) (ta : Option Addr) (ca : Nat) (tb : Option Addr) (cb : Nat) (tc : Option Addr) (cc : Nat) (ic : Nat), Hid (FrQ w W [(ic, MBox 0 0 none 0 0), (p2, BBox rz cz sc l kc), (p1, BBox ry cy sb m kb), (p0, BBox rx cx sa n ka)] [fun W => FlM W tc l cc zs, fun W => FlM W tb m cb ys, fun W => FlM W ta n ca xs]) → G 5 #[true, true, true, true, true, true, false, false, true, false, false, false] (Act.put (Act.put (Act.put (Act.put (A0) (some 54) (.agg #[.int .i64 rx, .int .i64 cx, .slice ta n ca])) (some 56) (.agg #[.int .i64 ry, .int .i64 cy, .slice tb m cb])) (some 58) (.agg #[.int .i64 rz, .int .i64 cz, .slice tc l cc])) (some 13) (.pointer (some ⟨ic, 0, none⟩))) W) := fun W ta ca tb cb tc cc ic HQ => by
        rw [hG.out, hA.out]
        simp only [Act.put, List.setIfInBounds_toArray, List.set_cons_zero, List.set_cons_succ]
        refine wpAnyH_ready (rs := [6, 7]) (by kernel_rfl) (by simp) ?_
        refine AllReadyH.cons (o := _) rfl (fun K hK => ?_) (AllReadyH.cons (o := _) rfl (fun K hK => ?_) AllReadyH.nil)
        · go_simp
          go_wp2_with fail
          have HQ := hid (HQ.out.alloc (MBox 0 0 none 0 0))
          refine hK.out _ _ (HKT.out _ (frq3 HQ.out (by simp) (by simp) (by simp))) (fun hHeld => ?_)
          clear hK K
          try simp only [List.setIfInBounds_toArray, List.set_cons_zero, List.set_cons_succ]
          obtain ⟨X, hX, HQ⟩ := frq_name HQ.out
          obtain ⟨ia, hia, HQ⟩ := frq_head HQ.out
          have hy := hX.out
          unfold MBox at hy
          have hz := hia.out
          rw [hy, hz]
          clear hy hz
          have HQ : Hid (FrQ w X [(ic, MBox 0 0 none 0 0), (ia, MBox 0 0 none 0 0), (p2, BBox rz cz sc l kc), (p1, BBox ry cy sb m kb), (p0, BBox rx cx sa n ka)] [fun W => FlM W tc l cc zs, fun W => FlM W tb m cb ys, fun W => FlM W ta n ca xs]) := frq_perm HQ.out (by simp) (by have hn := HQ.out.nod; simp only [List.map_cons, List.map_nil, List.nodup_cons, List.mem_cons, List.not_mem_nil, or_false, not_or, not_false_iff, List.nodup_nil, and_true] at hn ⊢; omega) (by simp)
          have hfin := HS3ac.out X ta ca tb cb tc cc ia ic HQ
          rw [hG.out, hA.out] at hfin
          simp only [Act.put, List.setIfInBounds_toArray, List.set_cons_zero, List.set_cons_succ] at hfin
          exact hfin
        · go_simp
          go_wp2_with fail
          have HQ := hid (HQ.out.alloc (MBox 0 0 none 0 0))
          refine hK.out _ _ (HKT.out _ (frq3 HQ.out (by simp) (by simp) (by simp))) (fun hHeld => ?_)
          clear hK K
          try simp only [List.setIfInBounds_toArray, List.set_cons_zero, List.set_cons_succ]
          obtain ⟨X, hX, HQ⟩ := frq_name HQ.out
          obtain ⟨ib, hib, HQ⟩ := frq_head HQ.out
          have hy := hX.out
          unfold MBox at hy
          have hz := hib.out
          rw [hy, hz]
          clear hy hz
          have HQ : Hid (FrQ w X [(ic, MBox 0 0 none 0 0), (ib, MBox 0 0 none 0 0), (p2, BBox rz cz sc l kc), (p1, BBox ry cy sb m kb), (p0, BBox rx cx sa n ka)] [fun W => FlM W tc l cc zs, fun W => FlM W tb m cb ys, fun W => FlM W ta n ca xs]) := frq_perm HQ.out (by simp) (by have hn := HQ.out.nod; simp only [List.map_cons, List.map_nil, List.nodup_cons, List.mem_cons, List.not_mem_nil, or_false, not_or, not_false_iff, List.nodup_nil, and_true] at hn ⊢; omega) (by simp)
          have hfin := HS3bc.out X ta ca tb cb tc cc ib ic HQ
          rw [hG.out, hA.out] at hfin
          simp only [Act.put, List.setIfInBounds_toArray, List.set_cons_zero, List.set_cons_succ] at hfin
          exact hfin
      have HS2ab : Hid (∀ (W : World) (ta : Option Addr) (ca : Nat) (tb : Option Addr) (cb : Nat) (ia ib : Nat), Hid (FrQ w W [(ib, MBox 0 0 none 0 0), (ia, MBox 0 0 none 0 0), (p2, BBox rz cz sc l kc), (p1, BBox ry cy sb m kb), (p0, BBox rx cx sa n ka)] [fun W => FlM W tb m cb ys, fun W => FlM W ta n ca xs]) → G 5 #[true, true, true, true, true, false, true, true, false, false, false, false] (Act.put (Act.put (Act.put (Act.put (A0) (some 54) (.agg #[.int .i64 rx, .int .i64 cx, .slice ta n ca])) (some 56) (.agg #[.int .i64 ry, .int .i64 cy, .slice tb m cb])) (some 11) (.pointer (some ⟨ia, 0, none⟩))) (some 12) (.pointer (some ⟨ib, 0, none⟩))) W) := fun W ta ca tb cb ia ib HQ => by
        rw [hG.out, hA.out]
        simp only [Act.put, List.setIfInBounds_toArray, List.set_cons_zero, List.set_cons_succ]
        refine wpAnyH_ready (rs := [5, 8]) (by kernel_rfl) (by simp) ?_
        refine AllReadyH.cons (o := _) rfl (fun K hK => ?_) (AllReadyH.cons (o := _) rfl (fun K hK => ?_) AllReadyH.nil)
        · go_simp
          refine (HOZ.out _ HQ.out.bel).mono ?_
          rintro e X ⟨⟨tc, cc, rfl, hf⟩, hb⟩
          have HQ := hid ((HQ.out.call hb).add (g := fun W => FlM W tc l cc zs) (kept_fl _ _ _ _) hf)
          clear hf hb
          unfold MV
          go_wp2_with fail
          refine hK.out _ _ (HKT.out _ (frq3 HQ.out (by simp) (by simp) (by simp))) (fun hHeld => ?_)
          clear hK K
          try simp only [List.setIfInBounds_toArray, List.set_cons_zero, List.set_cons_succ]
          have hfin := HS3ab.out X ta ca tb cb tc cc ia ib HQ
          rw [hG.out, hA.out] at hfin
          simp only [Act.put, List.setIfInBounds_toArray, List.set_cons_zero, List.set_cons_succ] at hfin
          exact hfin
        · go_simp
          go_wp2_with fail
          have HQ := hid (HQ.out.alloc (MBox 0 0 none 0 0))
          refine hK.out _ _ (HKT.out _ (frq3 HQ.out (by simp) (by simp) (by simp))) (fun hHeld => ?_)
          clear hK K
          try simp only [List.setIfInBounds_toArray, List.set_cons_zero, List.set_cons_succ]
          obtain ⟨X, hX, HQ⟩ := frq_name HQ.out
          obtain ⟨ic, hic, HQ⟩ := frq_head HQ.out
          have hy := hX.out
          unfold MBox at hy
          have hz := hic.out
          rw [hy, hz]
          clear hy hz
          have HQ : Hid (FrQ w X [(ic, MBox 0 0 none 0 0), (ib, MBox 0 0 none 0 0), (ia, MBox 0 0 none 0 0), (p2, BBox rz cz sc l kc), (p1, BBox ry cy sb m kb), (p0, BBox rx cx sa n ka)] [fun W => FlM W tb m cb ys, fun W => FlM W ta n ca xs]) := frq_perm HQ.out (by simp) (by have hn := HQ.out.nod; simp only [List.map_cons, List.map_nil, List.nodup_cons, List.mem_cons, List.not_mem_nil, or_false, not_or, not_false_iff, List.nodup_nil, and_true] at hn ⊢; omega) (by simp)
          have hfin := HS2abc.out X ta ca tb cb ia ib ic HQ
          rw [hG.out, hA.out] at hfin
          simp only [Act.put, List.setIfInBounds_toArray, List.set_cons_zero, List.set_cons_succ] at hfin
          exact hfin
      have HS2ac : Hid (∀ (W : World) (ta : Option Addr) (ca : Nat) (tb : Option Addr) (cb : Nat) (ia ic : Nat), Hid (FrQ w W [(ic, MBox 0 0 none 0 0), (ia, MBox 0 0 none 0 0), (p2, BBox rz cz sc l kc), (p1, BBox ry cy sb m kb), (p0, BBox rx cx sa n ka)] [fun W => FlM W tb m cb ys, fun W => FlM W ta n ca xs]) → G 5 #[true, true, true, true, true, false, true, false, true, false, false, false] (Act.put (Act.put (Act.put (Act.put (A0) (some 54) (.agg #[.int .i64 rx, .int .i64 cx, .slice ta n ca])) (some 56) (.agg #[.int .i64 ry, .int .i64 cy, .slice tb m cb])) (some 11) (.pointer (some ⟨ia, 0, none⟩))) (some 13) (.pointer (some ⟨ic, 0, none⟩))) W) := fun W ta ca tb cb ia ic HQ => by
        rw [hG.out, hA.out]
        simp only [Act.put, List.setIfInBounds_toArray, List.set_cons_zero, List.set_cons_succ]
        refine wpAnyH_ready (rs := [5, 7]) (by kernel_rfl) (by simp) ?_
        refine AllReadyH.cons (o := _) rfl (fun K hK => ?_) (AllReadyH.cons (o := _) rfl (fun K hK => ?_) AllReadyH.nil)
        · go_simp
          refine (HOZ.out _ HQ.out.bel).mono ?_
          rintro e X ⟨⟨tc, cc, rfl, hf⟩, hb⟩
          have HQ := hid ((HQ.out.call hb).add (g := fun W => FlM W tc l cc zs) (kept_fl _ _ _ _) hf)
          clear hf hb
          unfold MV
          go_wp2_with fail
          refine hK.out _ _ (HKT.out _ (frq3 HQ.out (by simp) (by simp) (by simp))) (fun hHeld => ?_)
          clear hK K
          try simp only [List.setIfInBounds_toArray, List.set_cons_zero, List.set_cons_succ]
          have hfin := HS3ac.out X ta ca tb cb tc cc ia ic HQ
          rw [hG.out, hA.out] at hfin
          simp only [Act.put, List.setIfInBounds_toArray, List.set_cons_zero, List.set_cons_succ] at hfin
          exact hfin
        · go_simp
          go_wp2_with fail
          have HQ := hid (HQ.out.alloc (MBox 0 0 none 0 0))
          refine hK.out _ _ (HKT.out _ (frq3 HQ.out (by simp) (by simp) (by simp))) (fun hHeld => ?_)
          clear hK K
          try simp only [List.setIfInBounds_toArray, List.set_cons_zero, List.set_cons_succ]
          obtain ⟨X, hX, HQ⟩ := frq_name HQ.out
          obtain ⟨ib, hib, HQ⟩ := frq_head HQ.out
          have hy := hX.out
          unfold MBox at hy
          have hz := hib.out
          rw [hy, hz]
          clear hy hz
          have HQ : Hid (FrQ w X [(ic, MBox 0 0 none 0 0), (ib, MBox 0 0 none 0 0), (ia, MBox 0 0 none 0 0), (p2, BBox rz cz sc l kc), (p1, BBox ry cy sb m kb), (p0, BBox rx cx sa n ka)] [fun W => FlM W tb m cb ys, fun W => FlM W ta n ca xs]) := frq_perm HQ.out (by simp) (by have hn := HQ.out.nod; simp only [List.map_cons, List.map_nil, List.nodup_cons, List.mem_cons, List.not_mem_nil, or_false, not_or, not_false_iff, List.nodup_nil, and_true] at hn ⊢; omega) (by simp)
          have hfin := HS2abc.out X ta ca tb cb ia ib ic HQ
          rw [hG.out, hA.out] at hfin
          simp only [Act.put, List.setIfInBounds_toArray, List.set_cons_zero, List.set_cons_succ] at hfin
          exact hfin
      have HS2bc : Hid (∀ (W : World) (ta : Option Addr) (ca : Nat) (tb : Option Addr) (cb : Nat) (ib ic : Nat), Hid (FrQ w W [(ic, MBox 0 0 none 0 0), (ib, MBox 0 0 none 0 0), (p2, BBox rz cz sc l kc), (p1, BBox ry cy sb m kb), (p0, BBox rx cx sa n ka)] [fun W => FlM W tb m cb ys, fun W => FlM W ta n ca xs]) → G 5 #[true, true, true, true, true, false, false, true, true, false, false, false] (Act.put (Act.put (Act.put (Act.put (A0) (some 54) (.agg #[.int .i64 rx, .int .i64 cx, .slice ta n ca])) (some 56) (.agg #[.int .i64 ry, .int .i64 cy, .slice tb m cb])) (some 12) (.pointer (some ⟨ib, 0, none⟩))) (some 13) (.pointer (some ⟨ic, 0, none⟩))) W) := fun W ta ca tb cb ib ic HQ => by
        rw [hG.out, hA.out]
        simp only [Act.put, List.setIfInBounds_toArray, List.set_cons_zero, List.set_cons_succ]
        refine wpAnyH_ready (rs := [5, 6]) (by kernel_rfl) (by simp) ?_
        refine AllReadyH.cons (o := _) rfl (fun K hK => ?_) (AllReadyH.cons (o := _) rfl (fun K hK => ?_) AllReadyH.nil)
        · go_simp
          refine (HOZ.out _ HQ.out.bel).mono ?_
          rintro e X ⟨⟨tc, cc, rfl, hf⟩, hb⟩
          have HQ := hid ((HQ.out.call hb).add (g := fun W => FlM W tc l cc zs) (kept_fl _ _ _ _) hf)
          clear hf hb
          unfold MV
          go_wp2_with fail
          refine hK.out _ _ (HKT.out _ (frq3 HQ.out (by simp) (by simp) (by simp))) (fun hHeld => ?_)
          clear hK K
          try simp only [List.setIfInBounds_toArray, List.set_cons_zero, List.set_cons_succ]
          have hfin := HS3bc.out X ta ca tb cb tc cc ib ic HQ
          rw [hG.out, hA.out] at hfin
          simp only [Act.put, List.setIfInBounds_toArray, List.set_cons_zero, List.set_cons_succ] at hfin
          exact hfin
        · go_simp
          go_wp2_with fail
          have HQ := hid (HQ.out.alloc (MBox 0 0 none 0 0))
          refine hK.out _ _ (HKT.out _ (frq3 HQ.out (by simp) (by simp) (by simp))) (fun hHeld => ?_)
          clear hK K
          try simp only [List.setIfInBounds_toArray, List.set_cons_zero, List.set_cons_succ]
          obtain ⟨X, hX, HQ⟩ := frq_name HQ.out
          obtain ⟨ia, hia, HQ⟩ := frq_head HQ.out
          have hy := hX.out
          unfold MBox at hy
          have hz := hia.out
          rw [hy, hz]
          clear hy hz
          have HQ : Hid (FrQ w X [(ic, MBox 0 0 none 0 0), (ib, MBox 0 0 none 0 0), (ia, MBox 0 0 none 0 0), (p2, BBox rz cz sc l kc), (p1, BBox ry cy sb m kb), (p0, BBox rx cx sa n ka)] [fun W => FlM W tb m cb ys, fun W => FlM W ta n ca xs]) := frq_perm HQ.out (by simp) (by have hn := HQ.out.nod; simp only [List.map_cons, List.map_nil, List.nodup_cons, List.mem_cons, List.not_mem_nil, or_false, not_or, not_false_iff, List.nodup_nil, and_true] at hn ⊢; omega) (by simp)
          have hfin := HS2abc.out X ta ca tb cb ia ib ic HQ
          rw [hG.out, hA.out] at hfin
          simp only [Act.put, List.setIfInBounds_toArray, List.set_cons_zero, List.set_cons_succ] at hfin
          exact hfin
      have HS1abc : Hid (∀ (W : World) (ta : Option Addr) (ca : Nat) (ia ib ic : Nat), Hid (FrQ w W [(ic, MBox 0 0 none 0 0), (ib, MBox 0 0 none 0 0), (ia, MBox 0 0 none 0 0), (p2, BBox rz cz sc l kc), (p1, BBox ry cy sb m kb), (p0, BBox rx cx sa n ka)] [fun W => FlM W ta n ca xs]) → G 5 #[true, true, true, false, true, false, true, true, true, false, false, false] (Act.put (Act.put (Act.put (Act.put (A0) (some 54) (.agg #[.int .i64 rx, .int .i64 cx, .slice ta n ca])) (some 11) (.pointer (some ⟨ia, 0, none⟩))) (some 12) (.pointer (some ⟨ib, 0, none⟩))) (some 13) (.pointer (some ⟨ic, 0, none⟩))) W) := fun W ta ca ia ib ic HQ => by
        rw [hG.out, hA.out]
        simp only [Act.put, List.setIfInBounds_toArray, List.set_cons_zero, List.set_cons_succ]
        refine wpAnyH_ready (rs := [3]) (by kernel_rfl) (by simp) ?_
        refine AllReadyH.cons (o := _) rfl (fun K hK => ?_) AllReadyH.nil
        go_simp
        refine (HOY.out _ HQ.out.bel).mono ?_
        rintro e X ⟨⟨tb, cb, rfl, hf⟩, hb⟩
        have HQ := hid ((HQ.out.call hb).add (g := fun W => FlM W tb m cb ys) (kept_fl _ _ _ _) hf)
        clear hf hb
        unfold MV
        go_wp2_with fail
        refine hK.out _ _ (HKT.out _ (frq3 HQ.out (by simp) (by simp) (by simp))) (fun hHeld => ?_)
        clear hK K
        try simp only [List.setIfInBounds_toArray, List.set_cons_zero, List.set_cons_succ]
        have hfin := HS2abc.out X ta ca tb cb ia ib ic HQ
        rw [hG.out, hA.out] at hfin
        simp only [Act.put, List.setIfInBounds_toArray, List.set_cons_zero, List.set_cons_succ] at hfin
        exact hfin
      clear HS3ab HS3ac HS3bc HS2abc
      have HS3 : Hid (∀ (W : World) (ta : Option Addr) (ca : Nat) (tb : Option Addr) (cb : Nat) (tc : Option Addr) (cc : Nat) , Hid (FrQ w W [(p2, BBox rz cz sc l kc), (p1, BBox ry cy sb m kb), (p0, BBox rx cx sa n ka)] [fun W => FlM W tc l cc zs, fun W => FlM W tb m cb ys, fun W => FlM W ta n ca xs]) → G 6 #[true, true, true, true, true, true, false, false, false, false, false, false] (Act.put (Act.put (Act.put (A0) (some 54) (.agg #[.int .i64 rx, .int .i64 cx, .slice ta n ca])) (some 56) (.agg #[.int .i64 ry, .int .i64 cy, .slice tb m cb])) (some 58) (.agg #[.int .i64 rz, .int .i64 cz, .slice tc l cc])) W) := fun W ta ca tb cb tc cc HQ => by
        rw [hG.out, hA.out]
        simp only [Act.put, List.setIfInBounds_toArray, List.set_cons_zero, List.set_cons_succ]
        refine wpAnyH_ready (rs := [6, 7, 8]) (by kernel_rfl) (by simp) ?_
        refine AllReadyH.cons (o := _) rfl (fun K hK => ?_) (AllReadyH.cons (o := _) rfl (fun K hK => ?_) (AllReadyH.cons (o := _) rfl (fun K hK => ?_) AllReadyH.nil))
        · go_simp
          go_wp2_with fail
          have HQ := hid (HQ.out.alloc (MBox 0 0 none 0 0))
          refine hK.out _ _ (HKT.out _ (frq3 HQ.out (by simp) (by simp) (by simp))) (fun hHeld => ?_)
          clear hK K
          try simp only [List.setIfInBounds_toArray, List.set_cons_zero, List.set_cons_succ]
          obtain ⟨X, hX, HQ⟩ := frq_name HQ.out
          obtain ⟨ia, hia, HQ⟩ := frq_head HQ.out
          have hy := hX.out
          unfold MBox at hy
          have hz := hia.out
          rw [hy, hz]
          clear hy hz
          have HQ : Hid (FrQ w X [(ia, MBox 0 0 none 0 0), (p2, BBox rz cz sc l kc), (p1, BBox ry cy sb m kb), (p0, BBox rx cx sa n ka)] [fun W => FlM W tc l cc zs, fun W => FlM W tb m cb ys, fun W => FlM W ta n ca xs]) := frq_perm HQ.out (by simp) (by have hn := HQ.out.nod; simp only [List.map_cons, List.map_nil, List.nodup_cons, List.mem_cons, List.not_mem_nil, or_false, not_or, not_false_iff, List.nodup_nil, and_true] at hn ⊢; omega) (by simp)
          have hfin := HS3a.out X ta ca tb cb tc cc ia HQ
          rw [hG.out, hA.out] at hfin
          simp only [Act.put, List.setIfInBounds_toArray, List.set_cons_zero, List.set_cons_succ] at hfin
          exact hfin
        · go_simp
          go_wp2_with fail
          have HQ := hid (HQ.out.alloc (MBox 0 0 none 0 0))
          refine hK.out _ _ (HKT.out _ (frq3 HQ.out (by simp) (by simp) (by simp))) (fun hHeld => ?_)
          clear hK K
          try simp only [List.setIfInBounds_toArray, List.set_cons_zero, List.set_cons_succ]
          obtain ⟨X, hX, HQ⟩ := frq_name HQ.out
          obtain ⟨ib, hib, HQ⟩ := frq_head HQ.out
          have hy := hX.out
          unfold MBox at hy
          have hz := hib.out
          rw [hy, hz]
          clear hy hz
          have HQ : Hid (FrQ w X [(ib, MBox 0 0 none 0 0), (p2, BBox rz cz sc l kc), (p1, BBox ry cy sb m kb), (p0, BBox rx cx sa n ka)] [fun W => FlM W tc l cc zs, fun W => FlM W tb m cb ys, fun W => FlM W ta n ca xs]) := frq_perm HQ.out (by simp) (by have hn := HQ.out.nod; simp only [List.map_cons, List.map_nil, List.nodup_cons, List.mem_cons, List.not_mem_nil, or_false, not_or, not_false_iff, List.nodup_nil, and_true] at hn ⊢; omega) (by simp)
          have hfin := HS3b.out X ta ca tb cb tc cc ib HQ
          rw [hG.out, hA.out] at hfin
          simp only [Act.put, List.setIfInBounds_toArray, List.set_cons_zero, List.set_cons_succ] at hfin
          exact hfin
        · go_simp
          go_wp2_with fail
          have HQ := hid (HQ.out.alloc (MBox 0 0 none 0 0))
          refine hK.out _ _ (HKT.out _ (frq3 HQ.out (by simp) (by simp) (by simp))) (fun hHeld => ?_)
          clear hK K
          try simp only [List.setIfInBounds_toArray, List.set_cons_zero, List.set_cons_succ]
          obtain ⟨X, hX, HQ⟩ := frq_name HQ.out
          obtain ⟨ic, hic, HQ⟩ := frq_head HQ.out
          have hy := hX.out
          unfold MBox at hy
          have hz := hic.out
          rw [hy, hz]
          clear hy hz
          have HQ : Hid (FrQ w X [(ic, MBox 0 0 none 0 0), (p2, BBox rz cz sc l kc), (p1, BBox ry cy sb m kb), (p0, BBox rx cx sa n ka)] [fun W => FlM W tc l cc zs, fun W => FlM W tb m cb ys, fun W => FlM W ta n ca xs]) := frq_perm HQ.out (by simp) (by have hn := HQ.out.nod; simp only [List.map_cons, List.map_nil, List.nodup_cons, List.mem_cons, List.not_mem_nil, or_false, not_or, not_false_iff, List.nodup_nil, and_true] at hn ⊢; omega) (by simp)
          have hfin := HS3c.out X ta ca tb cb tc cc ic HQ
          rw [hG.out, hA.out] at hfin
          simp only [Act.put, List.setIfInBounds_toArray, List.set_cons_zero, List.set_cons_succ] at hfin
          exact hfin
      have HS2a : Hid (∀ (W : World) (ta : Option Addr) (ca : Nat) (tb : Option Addr) (cb : Nat) (ia : Nat), Hid (FrQ w W [(ia, MBox 0 0 none 0 0), (p2, BBox rz cz sc l kc), (p1, BBox ry cy sb m kb), (p0, BBox rx cx sa n ka)] [fun W => FlM W tb m cb ys, fun W => FlM W ta n ca xs]) → G 6 #[true, true, true, true, true, false, true, false, false, false, false, false] (Act.put (Act.put (Act.put (A0) (some 54) (.agg #[.int .i64 rx, .int .i64 cx, .slice ta n ca])) (some 56) (.agg #[.int .i64 ry, .int .i64 cy, .slice tb m cb])) (some 11) (.pointer (some ⟨ia, 0, none⟩))) W) := fun W ta ca tb cb ia HQ => by
        rw [hG.out, hA.out]
        simp only [Act.put, List.setIfInBounds_toArray, List.set_cons_zero, List.set_cons_succ]
        refine wpAnyH_ready (rs := [5, 7, 8]) (by kernel_rfl) (by simp) ?_
        refine AllReadyH.cons (o := _) rfl (fun K hK => ?_) (AllReadyH.cons (o := _) rfl (fun K hK => ?_) (AllReadyH.cons (o := _) rfl (fun K hK => ?_) AllReadyH.nil))
        · go_simp
          refine (HOZ.out _ HQ.out.bel).mono ?_
          rintro e X ⟨⟨tc, cc, rfl, hf⟩, hb⟩
          have HQ := hid ((HQ.out.call hb).add (g := fun W => FlM W tc l cc zs) (kept_fl _ _ _ _) hf)
          clear hf hb
          unfold MV
          go_wp2_with fail
          refine hK.out _ _ (HKT.out _ (frq3 HQ.out (by simp) (by simp) (by simp))) (fun hHeld => ?_)
          clear hK K
          try simp only [List.setIfInBounds_toArray, List.set_cons_zero, List.set_cons_succ]
          have hfin := HS3a.out X ta ca tb cb tc cc ia HQ
          rw [hG.out, hA.out] at hfin
          simp only [Act.put, List.setIfInBounds_toArray, List.set_cons_zero, List.set_cons_succ] at hfin
          exact hfin
        · go_simp
          go_wp2_with fail
          have HQ := hid (HQ.out.alloc (MBox 0 0 none 0 0))
          refine hK.out _ _ (HKT.out _ (frq3 HQ.out (by simp) (by simp) (by simp))) (fun hHeld => ?_)
          clear hK K
          try simp only [List.setIfInBounds_toArray, List.set_cons_zero, List.set_cons_succ]
          obtain ⟨X, hX, HQ⟩ := frq_name HQ.out
          obtain ⟨ib, hib, HQ⟩ := frq_head HQ.out
          have hy := hX.out
          unfold MBox at hy
          have hz := hib.out
          rw [hy, hz]
          clear hy hz
          have HQ : Hid (FrQ w X [(ib, MBox 0 0 none 0 0), (ia, MBox 0 0 none 0 0), (p2, BBox rz cz sc l kc), (p1, BBox ry cy sb m kb), (p0, BBox rx cx sa n ka)] [fun W => FlM W tb m cb ys, fun W => FlM W ta n ca xs]) := frq_perm HQ.out (by simp) (by have hn := HQ.out.nod; simp only [List.map_cons, List.map_nil, List.nodup_cons, List.mem_cons, List.not_mem_nil, or_false, not_or, not_false_iff, List.nodup_nil, and_true] at hn ⊢; omega) (by simp)
          have hfin := HS2ab.out X ta ca tb cb ia ib HQ
          rw [hG.out, hA.out] at hfin
          simp only [Act.put, List.setIfInBounds_toArray, List.set_cons_zero, List.set_cons_succ] at hfin
          exact hfin
        · go_simp
          go_wp2_with fail
          have HQ := hid (HQ.out.alloc (MBox 0 0 none 0 0))
          refine hK.out _ _ (HKT.out _ (frq3 HQ.out (by simp) (by simp) (by simp))) (fun hHeld => ?_)
          clear hK K
          try simp only [List.setIfInBounds_toArray, List.set_cons_zero, List.set_cons_succ]
          obtain ⟨X, hX, HQ⟩ := frq_name HQ.out
          obtain ⟨ic, hic, HQ⟩ := frq_head HQ.out
          have hy := hX.out
          unfold MBox at hy
          have hz := hic.out
          rw [hy, hz]
          clear hy hz
          have HQ : Hid (FrQ w X [(ic, MBox 0 0 none 0 0), (ia, MBox 0 0 none 0 0), (p2, BBox rz cz sc l kc), (p1, BBox ry cy sb m kb), (p0, BBox rx cx sa n ka)] [fun W => FlM W tb m cb ys, fun W => FlM W ta n ca xs]) := frq_perm HQ.out (by simp) (by have hn := HQ.out.nod; simp only [List.map_cons, List.map_nil, List.nodup_cons, List.mem_cons, List.not_mem_nil, or_false, not_or, not_false_iff, List.nodup_nil, and_true] at hn ⊢; omega) (by simp)
          have hfin := HS2ac.out X ta ca tb cb ia ic HQ
          rw [hG.out, hA.out] at hfin
          simp only [Act.put, List.setIfInBounds_toArray, List.set_cons_zero, List.set_cons_succ] at hfin
          exact hfin
      have HS2b : Hid (∀ (W : World) (ta : Option Addr) (ca : Nat) (tb : Option Addr) (cb : Nat) (ib : Nat), Hid (FrQ w W [(ib, MBox 0 0 none 0 0), (p2, BBox rz cz sc l kc), (p1, BBox ry cy sb m kb), (p0, BBox rx cx sa n ka)] [fun W => FlM W tb m cb ys, fun W => FlM W ta n ca xs]) → G 6 #[true, true, true, true, true, false, false, true, false, false, false, false] (Act.put (Act.put (Act.put (A0) (some 54) (.agg #[.int .i64 rx, .int .i64 cx, .slice ta n ca])) (some 56) (.agg #[.int .i64 ry, .int .i64 cy, .slice tb m cb])) (some 12) (.pointer (some ⟨ib, 0, none⟩))) W) := fun W ta ca tb cb ib HQ => by
        rw [hG.out, hA.out]
        simp only [Act.put, List.setIfInBounds_toArray, List.set_cons_zero, List.set_cons_succ]
        refine wpAnyH_ready (rs := [5, 6, 8]) (by kernel_rfl) (by simp) ?_
        refine AllReadyH.cons (o := _) rfl (fun K hK => ?_) (AllReadyH.cons (o := _) rfl (fun K hK => ?_) (AllReadyH.cons (o := _) rfl (fun K hK => ?_) AllReadyH.nil))
        · go_simp
          refine (HOZ.out _ HQ.out.bel).mono ?_
          rintro e X ⟨⟨tc, cc, rfl, hf⟩, hb⟩
          have HQ := hid ((HQ.out.call hb).add (g := fun W => FlM W tc l cc zs) (kept_fl _ _ _ _) hf)
          clear hf hb
          unfold MV
          go_wp2_with fail
          refine hK.out _ _ (HKT.out _ (frq3 HQ.out (by simp) (by simp) (by simp))) (fun hHeld => ?_)
          clear hK K
          try simp only [List.setIfInBounds_toArray, List.set_cons_zero, List.set_cons_succ]
          have hfin := HS3b.out X ta ca tb cb tc cc ib HQ
          rw [hG.out, hA.out] at hfin
          simp only [Act.put, List.setIfInBounds_toArray, List.set_cons_zero, List.set_cons_succ] at hfin
          exact hfin
        · go_simp
          go_wp2_with fail
          have HQ := hid (HQ.out.alloc (MBox 0 0 none 0 0))
          refine hK.out _ _ (HKT.out _ (frq3 HQ.out (by simp) (by simp) (by simp))) (fun hHeld => ?_)
          clear hK K
          try simp only [List.setIfInBounds_toArray, List.set_cons_zero, List.set_cons_succ]
          obtain ⟨X, hX, HQ⟩ := frq_name HQ.out
          obtain ⟨ia, hia, HQ⟩ := frq_head HQ.out
          have hy := hX.out
          unfold MBox at hy
          have hz := hia.out
          rw [hy, hz]
          clear hy hz
          have HQ : Hid (FrQ w X [(ib, MBox 0 0 none 0 0), (ia, MBox 0 0 none 0 0), (p2, BBox rz cz sc l kc), (p1, BBox ry cy sb m kb), (p0, BBox rx cx sa n ka)] [fun W => FlM W tb m cb ys, fun W => FlM W ta n ca xs]) := frq_perm HQ.out (by simp) (by have hn := HQ.out.nod; simp only [List.map_cons, List.map_nil, List.nodup_cons, List.mem_cons, List.not_mem_nil, or_false, not_or, not_false_iff, List.nodup_nil, and_true] at hn ⊢; omega) (by simp)
          have hfin := HS2ab.out X ta ca tb cb ia ib HQ
          rw [hG.out, hA.out] at hfin
          simp only [Act.put, List.setIfInBounds_toArray, List.set_cons_zero, List.set_cons_succ] at hfin
          exact hfin
        · go_simp
          go_wp2_with fail
          have HQ := hid (HQ.out.alloc (MBox 0 0 none 0 0))
          refine hK.out _ _ (HKT.out _ (frq3 HQ.out (by simp) (by simp) (by simp))) (fun hHeld => ?_)
          clear hK K
          try simp only [List.setIfInBounds_toArray, List.set_cons_zero, List.set_cons_succ]
          obtain ⟨X, hX, HQ⟩ := frq_name HQ.out
          obtain ⟨ic, hic, HQ⟩ := frq_head HQ.out
          have hy := hX.out
          unfold MBox at hy
          have hz := hic.out
          rw [hy, hz]
          clear hy hz
          have HQ : Hid (FrQ w X [(ic, MBox 0 0 none 0 0), (ib, MBox 0 0 none 0 0), (p2, BBox rz cz sc l kc), (p1, BBox ry cy sb m kb), (p0, BBox rx cx sa n ka)] [fun W => FlM W tb m cb ys, fun W => FlM W ta n ca xs]) := frq_perm HQ.out (by simp) (by have hn := HQ.out.nod; simp only [List.map_cons, List.map_nil, List.nodup_cons, List.mem_cons, List.not_mem_nil, or_false, not_or, not_false_iff, List.nodup_nil, and_true] at hn ⊢; omega) (by simp)
          have hfin := HS2bc.out X ta ca tb cb ib ic HQ
          rw [hG.out, hA.out] at hfin
          simp only [Act.put, List.setIfInBounds_toArray, List.set_cons_zero, List.set_cons_succ] at hfin
          exact hfin
      have HS2c : Hid (∀ (W : World) (ta : Option Addr) (ca : Nat) (tb : Option Addr) (cb : Nat) (ic : Nat), Hid (FrQ w W [(ic, MBox 0 0 none 0 0), (p2, BBox rz cz sc l kc), (p1, BBox ry cy sb m kb), (p0, BBox rx cx sa n ka)] [fun W => FlM W tb m cb ys, fun W => FlM W ta n ca xs]) → G 6 #[true, true, true, true, true, false, false, false, true, false, false, false] (Act.put (Act.put (Act.put (A0) (some 54) (.agg #[.int .i64 rx, .int .i64 cx, .slice ta n ca])) (some 56) (.agg #[.int .i64 ry, .int .i64 cy, .slice tb m cb])) (some 13) (.pointer (some ⟨ic, 0, none⟩))) W) := fun W ta ca tb cb ic HQ => by
        rw [hG.out, hA.out]
        simp only [Act.put, List.setIfInBounds_toArray, List.set_cons_zero, List.set_cons_succ]
        refine wpAnyH_ready (rs := [5, 6, 7]) (by kernel_rfl) (by simp) ?_
        refine AllReadyH.cons (o := _) rfl (fun K hK => ?_) (AllReadyH.cons (o := _) rfl (fun K hK => ?_) (AllReadyH.cons (o := _) rfl (fun K hK => ?_) AllReadyH.nil))
        · go_simp
          refine (HOZ.out _ HQ.out.bel).mono ?_
          rintro e X ⟨⟨tc, cc, rfl, hf⟩, hb⟩
          have HQ := hid ((HQ.out.call hb).add (g := fun W => FlM W tc l cc zs) (kept_fl _ _ _ _) hf)
          clear hf hb
          unfold MV
          go_wp2_with fail
          refine hK.out _ _ (HKT.out _ (frq3 HQ.out (by simp) (by simp) (by simp))) (fun hHeld => ?_)
          clear hK K
          try simp only [List.setIfInBounds_toArray, List.set_cons_zero, List.set_cons_succ]
          have hfin := HS3c.out X ta ca tb cb tc cc ic HQ
          rw [hG.out, hA.out] at hfin
          simp only [Act.put, List.setIfInBounds_toArray, List.set_cons_zero, List.set_cons_succ] at hfin
          exact hfin
        · go_simp
          go_wp2_with fail
          have HQ := hid (HQ.out.alloc (MBox 0 0 none 0 0))
          refine hK.out _ _ (HKT.out _ (frq3 HQ.out (by simp) (by simp) (by simp))) (fun hHeld => ?_)
          clear hK K
          try simp only [List.setIfInBounds_toArray, List.set_cons_zero, List.set_cons_succ]
          obtain ⟨X, hX, HQ⟩ := frq_name HQ.out
          obtain ⟨ia, hia, HQ⟩ := frq_head HQ.out
          have hy := hX.out
          unfold MBox at hy
          have hz := hia.out
          rw [hy, hz]
          clear hy hz
          have HQ : Hid (FrQ w X [(ic, MBox 0 0 none 0 0), (ia, MBox 0 0 none 0 0), (p2, BBox rz cz sc l kc), (p1, BBox ry cy sb m kb), (p0, BBox rx cx sa n ka)] [fun W => FlM W tb m cb ys, fun W => FlM W ta n ca xs]) := frq_perm HQ.out (by simp) (by have hn := HQ.out.nod; simp only [List.map_cons, List.map_nil, List.nodup_cons, List.mem_cons, List.not_mem_nil, or_false, not_or, not_false_iff, List.nodup_nil, and_true] at hn ⊢; omega) (by simp)
          have hfin := HS2ac.out X ta ca tb cb ia ic HQ
          rw [hG.out, hA.out] at hfin
          simp only [Act.put, List.setIfInBounds_toArray, List.set_cons_zero, List.set_cons_succ] at hfin
          exact hfin
        · go_simp
          go_wp2_with fail
          have HQ := hid (HQ.out.alloc (MBox 0 0 none 0 0))
          refine hK.out _ _ (HKT.out _ (frq3 HQ.out (by simp) (by simp) (by simp))) (fun hHeld => ?_)
          clear hK K
          try simp only [List.setIfInBounds_toArray, List.set_cons_zero, List.set_cons_succ]
          obtain ⟨X, hX, HQ⟩ := frq_name HQ.out
          obtain ⟨ib, hib, HQ⟩ := frq_head HQ.out
          have hy := hX.out
          unfold MBox at hy
          have hz := hib.out
          rw [hy, hz]
          clear hy hz
          have HQ : Hid (FrQ w X [(ic, MBox 0 0 none 0 0), (ib, MBox 0 0 none 0 0), (p2, BBox rz cz sc l kc), (p1, BBox ry cy sb m kb), (p0, BBox rx cx sa n ka)] [fun W => FlM W tb m cb ys, fun W => FlM W ta n ca xs]) := frq_perm HQ.out (by simp) (by have hn := HQ.out.nod; simp only [List.map_cons, List.map_nil, List.nodup_cons, List.mem_cons, List.not_mem_nil, or_false, not_or, not_false_iff, List.nodup_nil, and_true] at hn ⊢; omega) (by simp)
          have hfin := HS2bc.out X ta ca tb cb ib ic HQ
          rw [hG.out, hA.out] at hfin
          simp only [Act.put, List.setIfInBounds_toArray, List.set_cons_zero, List.set_cons_succ] at hfin
          exact hfin
      have HS1ab : Hid (∀ (W : World) (ta : Option Addr) (ca : Nat) (ia ib : Nat), Hid (FrQ w W [(ib, MBox 0 0 none 0 0), (ia, MBox 0 0 none 0 0), (p2, BBox rz cz sc l kc), (p1, BBox ry cy sb m kb), (p0, BBox rx cx sa n ka)] [fun W => FlM W ta n ca xs]) → G 6 #[true, true, true, false, true, false, true, true, false, false, false, false] (Act.put (Act.put (Act.put (A0) (some 54) (.agg #[.int .i64 rx, .int .i64 cx, .slice ta n ca])) (some 11) (.pointer (some ⟨ia, 0, none⟩))) (some 12) (.pointer (some ⟨ib, 0, none⟩))) W) := fun W ta ca ia ib HQ => by
        rw [hG.out, hA.out]
        simp only [Act.put, List.setIfInBounds_toArray, List.set_cons_zero, List.set_cons_succ]
        refine wpAnyH_ready (rs := [3, 8]) (by kernel_rfl) (by simp) ?_
        refine AllReadyH.cons (o := _) rfl (fun K hK => ?_) (AllReadyH.cons (o := _) rfl (fun K hK => ?_) AllReadyH.nil)
        · go_simp
          refine (HOY.out _ HQ.out.bel).mono ?_
          rintro e X ⟨⟨tb, cb, rfl, hf⟩, hb⟩
          have HQ := hid ((HQ.out.call hb).add (g := fun W => FlM W tb m cb ys) (kept_fl _ _ _ _) hf)
          clear hf hb
          unfold MV
          go_wp2_with fail
          refine hK.out _ _ (HKT.out _ (frq3 HQ.out (by simp) (by simp) (by simp))) (fun hHeld => ?_)
          clear hK K
          try simp only [List.setIfInBounds_toArray, List.set_cons_zero, List.set_cons_succ]
          have hfin := HS2ab.out X ta ca tb cb ia ib HQ
          rw [hG.out, hA.out] at hfin
          simp only [Act.put, List.setIfInBounds_toArray, List.set_cons_zero, List.set_cons_succ] at hfin
          exact hfin
        · go_simp
          go_wp2_with fail
          have HQ := hid (HQ.out.alloc (MBox 0 0 none 0 0))
          refine hK.out _ _ (HKT.out _ (frq3 HQ.out (by simp) (by simp) (by simp))) (fun hHeld => ?_)
          clear hK K
          try simp only [List.setIfInBounds_toArray, List.set_cons_zero, List.set_cons_succ]
          obtain ⟨X, hX, HQ⟩ := frq_name HQ.out
          obtain ⟨ic, hic, HQ⟩ := frq_head HQ.out
          have hy := hX.out
          unfold MBox at hy
          have hz := hic.out
          rw [hy, hz]
          clear hy hz
          have HQ : Hid (FrQ w X [(ic, MBox 0 0 none 0 0), (ib, MBox 0 0 none 0 0), (ia, MBox 0 0 none 0 0), (p2, BBox rz cz sc l kc), (p1, BBox ry cy sb m kb), (p0, BBox rx cx sa n ka)] [fun W => FlM W ta n ca xs]) := frq_perm HQ.out (by simp) (by have hn := HQ.out.nod; simp only [List.map_cons, List.map_nil, List.nodup_cons, List.mem_cons, List.not_mem_nil, or_false, not_or, not_false_iff, List.nodup_nil, and_true] at hn ⊢; omega) (by simp)
          have hfin := HS1abc.out X ta ca ia ib ic HQ
          rw [hG.out, hA.out] at hfin
          simp only [Act.put, List.setIfInBounds_toArray, List.set_cons_zero, List.set_cons_succ] at hfin
          exact hfin
      have HS1ac : Hid (∀ (W : World) (ta : Option Addr) (ca : Nat) (ia ic : Nat), Hid (FrQ w W [(ic, MBox 0 0 none 0 0), (ia, MBox 0 0 none 0 0), (p2, BBox rz cz sc l kc), (p1, BBox ry cy sb m kb), (p0, BBox rx cx sa n ka)] [fun W => FlM W ta n ca xs]) → G 6 #[true, true, true, false, true, false, true, false, true, false, false, false] (Act.put (Act.put (Act.put (A0) (some 54) (.agg #[.int .i64 rx, .int .i64 cx, .slice ta n ca])) (some 11) (.pointer (some ⟨ia, 0, none⟩))) (some 13) (.pointer (some ⟨ic, 0, none⟩))) W) := fun W ta ca ia ic HQ => by
        rw [hG.out, hA.out]
        simp only [Act.put, List.setIfInBounds_toArray, List.set_cons_zero, List.set_cons_succ]
        refine wpAnyH_ready (rs := [3, 7]) (by kernel_rfl) (by simp) ?_
        refine AllReadyH.cons (o := _) rfl (fun K hK => ?_) (AllReadyH.cons (o := _) rfl (fun K hK => ?_) AllReadyH.nil)
        · go_simp
          refine (HOY.out _ HQ.out.bel).mono ?_
          rintro e X ⟨⟨tb, cb, rfl, hf⟩, hb⟩
          have HQ := hid ((HQ.out.call hb).add (g := fun W => FlM W tb m cb ys) (kept_fl _ _ _ _) hf)
          clear hf hb
          unfold MV
          go_wp2_with fail
          refine hK.out _ _ (HKT.out _ (frq3 HQ.out (by simp) (by simp) (by simp))) (fun hHeld => ?_)
          clear hK K
          try simp only [List.setIfInBounds_toArray, List.set_cons_zero, List.set_cons_succ]
          have hfin := HS2ac.out X ta ca tb cb ia ic HQ
          rw [hG.out, hA.out] at hfin
          simp only [Act.put, List.setIfInBounds_toArray, List.set_cons_zero, List.set_cons_succ] at hfin
          exact hfin
        · go_simp
          go_wp2_with fail
          have HQ := hid (HQ.out.alloc (MBox 0 0 none 0 0))
          refine hK.out _ _ (HKT.out _ (frq3 HQ.out (by simp) (by simp) (by simp))) (fun hHeld => ?_)
          clear hK K
          try simp only [List.setIfInBounds_toArray, List.set_cons_zero, List.set_cons_succ]
          obtain ⟨X, hX, HQ⟩ := frq_name HQ.out
          obtain ⟨ib, hib, HQ⟩ := frq_head HQ.out
          have hy := hX.out
          unfold MBox at hy
          have hz := hib.out
          rw [hy, hz]
          clear hy hz
          have HQ : Hid (FrQ w X [(ic, MBox 0 0 none 0 0), (ib, MBox 0 0 none 0 0), (ia, MBox 0 0 none 0 0), (p2, BBox rz cz sc l kc), (p1, BBox ry cy sb m kb), (p0, BBox rx cx sa n ka)] [fun W => FlM W ta n ca xs]) := frq_perm HQ.out (by simp) (by have hn := HQ.out.nod; simp only [List.map_cons, List.map_nil, List.nodup_cons, List.mem_cons, List.not_mem_nil, or_false, not_or, not_false_iff, List.nodup_nil, and_true] at hn ⊢; omega) (by simp)
          have hfin := HS1abc.out X ta ca ia ib ic HQ
          rw [hG.out, hA.out] at hfin
          simp only [Act.put, List.setIfInBounds_toArray, List.set_cons_zero, List.set_cons_succ] at hfin
          exact hfin
      have HS1bc : Hid (∀ (W : World) (ta : Option Addr) (ca : Nat) (ib ic : Nat), Hid (FrQ w W [(ic, MBox 0 0 none 0 0), (ib, MBox 0 0 none 0 0), (p2, BBox rz cz sc l kc), (p1, BBox ry cy sb m kb), (p0, BBox rx cx sa n ka)] [fun W => FlM W ta n ca xs]) → G 6 #[true, true, true, false, true, false, false, true, true, false, false, false] (Act.put (Act.put (Act.put (A0) (some 54) (.agg #[.int .i64 rx, .int .i64 cx, .slice ta n ca])) (some 12) (.pointer (some ⟨ib, 0, none⟩))) (some 13) (.pointer (some ⟨ic, 0, none⟩))) W) := fun W ta ca ib ic HQ => by
        rw [hG.out, hA.out]
        simp only [Act.put, List.setIfInBounds_toArray, List.set_cons_zero, List.set_cons_succ]
        refine wpAnyH_ready (rs := [3, 6]) (by kernel_rfl) (by simp) ?_
        refine AllReadyH.cons (o := _) rfl (fun K hK => ?_) (AllReadyH.cons (o := _) rfl (fun K hK => ?_) AllReadyH.nil)
        · go_simp
          refine (HOY.out _ HQ.out.bel).mono ?_
          rintro e X ⟨⟨tb, cb, rfl, hf⟩, hb⟩
          have HQ := hid ((HQ.out.call hb).add (g := fun W => FlM W tb m cb ys) (kept_fl _ _ _ _) hf)
          clear hf hb
          unfold MV
          go_wp2_with fail
          refine hK.out _ _ (HKT.out _ (frq3 HQ.out (by simp) (by simp) (by simp))) (fun hHeld => ?_)
          clear hK K
          try simp only [List.setIfInBounds_toArray, List.set_cons_zero, List.set_cons_succ]
          have hfin := HS2bc.out X ta ca tb cb ib ic HQ
          rw [hG.out, hA.out] at hfin
          simp only [Act.put, List.setIfInBounds_toArray, List.set_cons_zero, List.set_cons_succ] at hfin
          exact hfin
        · go_simp
          go_wp2_with fail
          have HQ := hid (HQ.out.alloc (MBox 0 0 none 0 0))
          refine hK.out _ _ (HKT.out _ (frq3 HQ.out (by simp) (by simp) (by simp))) (fun hHeld => ?_)
          clear hK K
          try simp only [List.setIfInBounds_toArray, List.set_cons_zero, List.set_cons_succ]
          obtain ⟨X, hX, HQ⟩ := frq_name HQ.out
          obtain ⟨ia, hia, HQ⟩ := frq_head HQ.out
          have hy := hX.out
          unfold MBox at hy
          have hz := hia.out
          rw [hy, hz]
          clear hy hz
          have HQ : Hid (FrQ w X [(ic, MBox 0 0 none 0 0), (ib, MBox 0 0 none 0 0), (ia, MBox 0 0 none 0 0), (p2, BBox rz cz sc l kc), (p1, BBox ry cy sb m kb), (p0, BBox rx cx sa n ka)] [fun W => FlM W ta n ca xs]) := frq_perm HQ.out (by simp) (by have hn := HQ.out.nod; simp only [List.map_cons, List.map_nil, List.nodup_cons, List.mem_cons, List.not_mem_nil, or_false, not_or, not_false_iff, List.nodup_nil, and_true] at hn ⊢; omega) (by simp)
          have hfin := HS1abc.out X ta ca ia ib ic HQ
          rw [hG.out, hA.out] at hfin
          simp only [Act.put, List.setIfInBounds_toArray, List.set_cons_zero, List.set_cons_succ] at hfin
          exact hfin
      have HS0abc : Hid (∀ (W : World) (ia ib ic : Nat), Hid (FrQ w W [(ic, MBox 0 0 none 0 0), (ib, MBox 0 0 none 0 0), (ia, MBox 0 0 none 0 0), (p2, BBox rz cz sc l kc), (p1, BBox ry cy sb m kb), (p0, BBox rx cx sa n ka)] []) → G 6 #[true, false, true, false, true, false, true, true, true, false, false, false] (Act.put (Act.put (Act.put (A0) (some 11) (.pointer (some ⟨ia, 0, none⟩))) (some 12) (.pointer (some ⟨ib, 0, none⟩))) (some 13) (.pointer (some ⟨ic, 0, none⟩))) W) := fun W ia ib ic HQ => by
        rw [hG.out, hA.out]
        simp only [Act.put, List.setIfInBounds_toArray, List.set_cons_zero, List.set_cons_succ]
        refine wpAnyH_ready (rs := [1]) (by kernel_rfl) (by simp) ?_
        refine AllReadyH.cons (o := _) rfl (fun K hK => ?_) AllReadyH.nil
        go_simp
        refine (HOX.out _ HQ.out.bel).mono ?_
        rintro e X ⟨⟨ta, ca, rfl, hf⟩, hb⟩
        have HQ := hid ((HQ.out.call hb).add (g := fun W => FlM W ta n ca xs) (kept_fl _ _ _ _) hf)
        clear hf hb
        unfold MV
        go_wp2_with fail
        refine hK.out _ _ (HKT.out _ (frq3 HQ.out (by simp) (by simp) (by simp))) (fun hHeld => ?_)
        clear hK K
        try simp only [List.setIfInBounds_toArray, List.set_cons_zero, List.set_cons_succ]
        have hfin := HS1abc.out X ta ca ia ib ic HQ
        rw [hG.out, hA.out] at hfin
        simp only [Act.put, List.setIfInBounds_toArray, List.set_cons_zero, List.set_cons_succ] at hfin
        exact hfin
      clear HS3a HS3b HS3c HS2ab HS2ac HS2bc HS1abc
      have HS2 : Hid (∀ (W : World) (ta : Option Addr) (ca : Nat) (tb : Option Addr) (cb : Nat) , Hid (FrQ w W [(p2, BBox rz cz sc l kc), (p1, BBox ry cy sb m kb), (p0, BBox rx cx sa n ka)] [fun W => FlM W tb m cb ys, fun W => FlM W ta n ca xs]) → G 7 #[true, true, true, true, true, false, false, false, false, false, false, false] (Act.put (Act.put (A0) (some 54) (.agg #[.int .i64 rx, .int .i64 cx, .slice ta n ca])) (some 56) (.agg #[.int .i64 ry, .int .i64 cy, .slice tb m cb])) W) := fun W ta ca tb cb HQ => by
        rw [hG.out, hA.out]
        simp only [Act.put, List.setIfInBounds_toArray, List.set_cons_zero, List.set_cons_succ]
        refine wpAnyH_ready (rs := [5, 6, 7, 8]) (by kernel_rfl) (by simp) ?_
        refine AllReadyH.cons (o := _) rfl (fun K hK => ?_) (AllReadyH.cons (o := _) rfl (fun K hK => ?_) (AllReadyH.cons (o := _) rfl (fun K hK => ?_) (AllReadyH.cons (o := _) rfl (fun K hK => ?_) AllReadyH.nil)))
        · go_simp
          refine (HOZ.out _ HQ.out.bel).mono ?_
          rintro e X ⟨⟨tc, cc, rfl, hf⟩, hb⟩
          have HQ := hid ((HQ.out.call hb).add (g := fun W => FlM W tc l cc zs) (kept_fl _ _ _ _) hf)
          clear hf hb
          unfold MV
          go_wp2_with fail
          refine hK.out _ _ (HKT.out _ (frq3 HQ.out (by simp) (by simp) (by simp))) (fun hHeld => ?_)
          clear hK K
          try simp only [List.setIfInBounds_toArray, List.set_cons_zero, List.set_cons_succ]
          have hfin := HS3.out X ta ca tb cb tc cc HQ
          rw [hG.out, hA.out] at hfin
          simp only [Act.put, List.setIfInBounds_toArray, List.set_cons_zero, List.set_cons_succ] at hfin
          exact hfin
        · go_simp
          go_wp2_with fail
          have HQ := hid (HQ.out.alloc (MBox 0 0 none 0 0))
          refine hK.out _ _ (HKT.out _ (frq3 HQ.out (by simp) (by simp) (by simp))) (fun hHeld => ?_)
          clear hK K
          try simp only [List.setIfInBounds_toArray, List.set_cons_zero, List.set_cons_succ]
          obtain ⟨X, hX, HQ⟩ := frq_name HQ.out
          obtain ⟨ia, hia, HQ⟩ := frq_head HQ.out
          have hy := hX.out
          unfold MBox at hy
          have hz := hia.out
          rw [hy, hz]
          clear hy hz
          have HQ : Hid (FrQ w X [(ia, MBox 0 0 none 0 0), (p2, BBox rz cz sc l kc), (p1, BBox ry cy sb m kb), (p0, BBox rx cx sa n ka)] [fun W => FlM W tb m cb ys, fun W => FlM W ta n ca xs]) := frq_perm HQ.out (by simp) (by have hn := HQ.out.nod; simp only [List.map_cons, List.map_nil, List.nodup_cons, List.mem_cons, List.not_mem_nil, or_false, not_or, not_false_iff, List.nodup_nil, and_true] at hn ⊢; omega) (by simp)
          have hfin := HS2a.out X ta ca tb cb ia HQ
          rw [hG.out, hA.out] at hfin
          simp only [Act.put, List.setIfInBounds_toArray, List.set_cons_zero, List.set_cons_succ] at hfin
          exact hfin
        · go_simp
          go_wp2_with fail
          have HQ := hid (HQ.out.alloc (MBox 0 0 none 0 0))
          refine hK.out _ _ (HKT.out _ (frq3 HQ.out (by simp) (by simp) (by simp))) (fun hHeld => ?_)
          clear hK K
          try simp only [List.setIfInBounds_toArray, List.set_cons_zero, List.set_cons_succ]
          obtain ⟨X, hX, HQ⟩ := frq_name HQ.out
          obtain ⟨ib, hib, HQ⟩ := frq_head HQ.out
          have hy := hX.out
          unfold MBox at hy
          have hz := hib.out
          rw [hy, hz]
          clear hy hz
          have HQ : Hid (FrQ w X [(ib, MBox 0 0 none 0 0), (p2, BBox rz cz sc l kc), (p1, BBox ry cy sb m kb), (p0, BBox rx cx sa n ka)] [fun W => FlM W tb m cb ys, fun W => FlM W ta n ca xs]) := frq_perm HQ.out (by simp) (by have hn := HQ.out.nod; simp only [List.map_cons, List.map_nil, List.nodup_cons, List.mem_cons, List.not_mem_nil, or_false, not_or, not_false_iff, List.nodup_nil, and_true] at hn ⊢; omega) (by simp)
          have hfin := HS2b.out X ta ca tb cb ib HQ
          rw [hG.out, hA.out] at hfin
          simp only [Act.put, List.setIfInBounds_toArray, List.set_cons_zero, List.set_cons_succ] at hfin
          exact hfin
        · go_simp
          go_wp2_with fail
          have HQ := hid (HQ.out.alloc (MBox 0 0 none 0 0))
          refine hK.out _ _ (HKT.out _ (frq3 HQ.out (by simp) (by simp) (by simp))) (fun hHeld => ?_)
          clear hK K
          try simp only [List.setIfInBounds_toArray, List.set_cons_zero, List.set_cons_succ]
          obtain ⟨X, hX, HQ⟩ := frq_name HQ.out
          obtain ⟨ic, hic, HQ⟩ := frq_head HQ.out
          have hy := hX.out
          unfold MBox at hy
          have hz := hic.out
          rw [hy, hz]
          clear hy hz
          have HQ : Hid (FrQ w X [(ic, MBox 0 0 none 0 0), (p2, BBox rz cz sc l kc), (p1, BBox ry cy sb m kb), (p0, BBox rx cx sa n ka)] [fun W => FlM W tb m cb ys, fun W => FlM W ta n ca xs]) := frq_perm HQ.out (by simp) (by have hn := HQ.out.nod; simp only [List.map_cons, List.map_nil, List.nodup_cons, List.mem_cons, List.not_mem_nil, or_false, not_or, not_false_iff, List.nodup_nil, and_true] at hn ⊢; omega) (by simp)
          have hfin := HS2c.out X ta ca tb cb ic HQ
          rw [hG.out, hA.out] at hfin
          simp only [Act.put, List.setIfInBounds_toArray, List.set_cons_zero, List.set_cons_succ] at hfin
          exact hfin
      have HS1a : Hid (∀ (W : World) (ta : Option Addr) (ca : Nat) (ia : Nat), Hid (FrQ w W [(ia, MBox 0 0 none 0 0), (p2, BBox rz cz sc l kc), (p1, BBox ry cy sb m kb), (p0, BBox rx cx sa n ka)] [fun W => FlM W ta n ca xs]) → G 7 #[true, true, true, false, true, false, true, false, false, false, false, false] (Act.put (Act.put (A0) (some 54) (.agg #[.int .i64 rx, .int .i64 cx, .slice ta n ca])) (some 11) (.pointer (some ⟨ia, 0, none⟩))) W) := fun W ta ca ia HQ => by
        rw [hG.out, hA.out]
        simp only [Act.put, List.setIfInBounds_toArray, List.set_cons_zero, List.set_cons_succ]
        refine wpAnyH_ready (rs := [3, 7, 8]) (by kernel_rfl) (by simp) ?_
        refine AllReadyH.cons (o := _) rfl (fun K hK => ?_) (AllReadyH.cons (o := _) rfl (fun K hK => ?_) (AllReadyH.cons (o := _) rfl (fun K hK => ?_) AllReadyH.nil))
        · go_simp
          refine (HOY.out _ HQ.out.bel).mono ?_
          rintro e X ⟨⟨tb, cb, rfl, hf⟩, hb⟩
          have HQ := hid ((HQ.out.call hb).add (g := fun W => FlM W tb m cb ys) (kept_fl _ _ _ _) hf)
          clear hf hb
          unfold MV
          go_wp2_with fail
          refine hK.out _ _ (HKT.out _ (frq3 HQ.out (by simp) (by simp) (by simp))) (fun hHeld => ?_)
          clear hK K
          try simp only [List.setIfInBounds_toArray, List.set_cons_zero, List.set_cons_succ]
          have hfin := HS2a.out X ta ca tb cb ia HQ
          rw [hG.out, hA.out] at hfin
          simp only [Act.put, List.setIfInBounds_toArray, List.set_cons_zero, List.set_cons_succ] at hfin
          exact hfin
        · go_simp
          go_wp2_with fail
          have HQ := hid (HQ.out.alloc (MBox 0 0 none 0 0))
          refine hK.out _ _ (HKT.out _ (frq3 HQ.out (by simp) (by simp) (by simp))) (fun hHeld => ?_)
          clear hK K
          try simp only [List.setIfInBounds_toArray, List.set_cons_zero, List.set_cons_succ]
          obtain ⟨X, hX, HQ⟩ := frq_name HQ.out
          obtain ⟨ib, hib, HQ⟩ := frq_head HQ.out
          have hy := hX.out
          unfold MBox at hy
          have hz := hib.out
          rw [hy, hz]
          clear hy hz
          have HQ : Hid (FrQ w X [(ib, MBox 0 0 none 0 0), (ia, MBox 0 0 none 0 0), (p2, BBox rz cz sc l kc), (p1, BBox ry cy sb m kb), (p0, BBox rx cx sa n ka)] [fun W => FlM W ta n ca xs]) := frq_perm HQ.out (by simp) (by have hn := HQ.out.nod; simp only [List.map_cons, List.map_nil, List.nodup_cons, List.mem_cons, List.not_mem_nil, or_false, not_or, not_false_iff, List.nodup_nil, and_true] at hn ⊢; omega) (by simp)
          have hfin := HS1ab.out X ta ca ia ib HQ
          rw [hG.out, hA.out] at hfin
          simp only [Act.put, List.setIfInBounds_toArray, List.set_cons_zero, List.set_cons_succ] at hfin
          exact hfin
        · go_simp
          go_wp2_with fail
          have HQ := hid (HQ.out.alloc (MBox 0 0 none 0 0))
          refine hK.out _ _ (HKT.out _ (frq3 HQ.out (by simp) (by simp) (by simp))) (fun hHeld => ?_)
          clear hK K
          try simp only [List.setIfInBounds_toArray, List.set_cons_zero, List.set_cons_succ]
          obtain ⟨X, hX, HQ⟩ := frq_name HQ.out
          obtain ⟨ic, hic, HQ⟩ := frq_head HQ.out
          have hy := hX.out
          unfold MBox at hy
          have hz := hic.out
          rw [hy, hz]
          clear hy hz
          have HQ : Hid (FrQ w X [(ic, MBox 0 0 none 0 0), (ia, MBox 0 0 none 0 0), (p2, BBox rz cz sc l kc), (p1, BBox ry cy sb m kb), (p0, BBox rx cx sa n ka)] [fun W => FlM W ta n ca xs]) := frq_perm HQ.out (by simp) (by have hn := HQ.out.nod; simp only [List.map_cons, List.map_nil, List.nodup_cons, List.mem_cons, List.not_mem_nil, or_false, not_or, not_false_iff, List.nodup_nil, and_true] at hn ⊢; omega) (by simp)
          have hfin := HS1ac.out X ta ca ia ic HQ
          rw [hG.out, hA.out] at hfin
          simp only [Act.put, List.setIfInBounds_toArray, List.set_cons_zero, List.set_cons_succ] at hfin
          exact hfin
      have HS1b : Hid (∀ (W : World) (ta : Option Addr) (ca : Nat) (ib : Nat), Hid (FrQ w W [(ib, MBox 0 0 none 0 0), (p2, BBox rz cz sc l kc), (p1, BBox ry cy sb m kb), (p0, BBox rx cx sa n ka)] [fun W => FlM W ta n ca xs]) → G 7 #[true, true, true, false, true, false, false, true, false, false, false, false] (Act.put (Act.put (A0) (some 54) (.agg #[.int .i64 rx, .int .i64 cx, .slice ta n ca])) (some 12) (.pointer (some ⟨ib, 0, none⟩))) W) := fun W ta ca ib HQ => by
        rw [hG.out, hA.out]
        simp only [Act.put, List.setIfInBounds_toArray, List.set_cons_zero, List.set_cons_succ]
        refine wpAnyH_ready (rs := [3, 6, 8]) (by kernel_rfl) (by simp) ?_
        refine AllReadyH.cons (o := _) rfl (fun K hK => ?_) (AllReadyH.cons (o := _) rfl (fun K hK => ?_) (AllReadyH.cons (o := _) rfl (fun K hK => ?_) AllReadyH.nil))
        · go_simp
          refine (HOY.out _ HQ.out.bel).mono ?_
          rintro e X ⟨⟨tb, cb, rfl, hf⟩, hb⟩
          have HQ := hid ((HQ.out.call hb).add (g := fun W => FlM W tb m cb ys) (kept_fl _ _ _ _) hf)
          clear hf hb
          unfold MV
          go_wp2_with fail
          refine hK.out _ _ (HKT.out _ (frq3 HQ.out (by simp) (by simp) (by simp))) (fun hHeld => ?_)
          clear hK K
          try simp only [List.setIfInBounds_toArray, List.set_cons_zero, List.set_cons_succ]
          have hfin := HS2b.out X ta ca tb cb ib HQ
          rw [hG.out, hA.out] at hfin
          simp only [Act.put, List.setIfInBounds_toArray, List.set_cons_zero, List.set_cons_succ] at hfin
          exact hfin
        · go_simp
          go_wp2_with fail
          have HQ := hid (HQ.out.alloc (MBox 0 0 none 0 0))
          refine hK.out _ _ (HKT.out _ (frq3 HQ.out (by simp) (by simp) (by simp))) (fun hHeld => ?_)
          clear hK K
          try simp only [List.setIfInBounds_toArray, List.set_cons_zero, List.set_cons_succ]
          obtain ⟨X, hX, HQ⟩ := frq_name HQ.out
          obtain ⟨ia, hia, HQ⟩ := frq_head HQ.out
          have hy := hX.out
          unfold MBox at hy
          have hz := hia.out
          rw [hy, hz]
          clear hy hz
          have HQ : Hid (FrQ w X [(ib, MBox 0 0 none 0 0), (ia, MBox 0 0 none 0 0), (p2, BBox rz cz sc l kc), (p1, BBox ry cy sb m kb), (p0, BBox rx cx sa n ka)] [fun W => FlM W ta n ca xs]) := frq_perm HQ.out (by simp) (by have hn := HQ.out.nod; simp only [List.map_cons, List.map_nil, List.nodup_cons, List.mem_cons, List.not_mem_nil, or_false, not_or, not_false_iff, List.nodup_nil, and_true] at hn ⊢; omega) (by simp)
          have hfin := HS1ab.out X ta ca ia ib HQ
          rw [hG.out, hA.out] at hfin
          simp only [Act.put, List.setIfInBounds_toArray, List.set_cons_zero, List.set_cons_succ] at hfin
          exact hfin
        · go_simp
          go_wp2_with fail
          have HQ := hid (HQ.out.alloc (MBox 0 0 none 0 0))
          refine hK.out _ _ (HKT.out _ (frq3 HQ.out (by simp) (by simp) (by simp))) (fun hHeld => ?_)
          clear hK K
          try simp only [List.setIfInBounds_toArray, List.set_cons_zero, List.set_cons_succ]
          obtain ⟨X, hX, HQ⟩ := frq_name HQ.out
          obtain ⟨ic, hic, HQ⟩ := frq_head HQ.out
          have hy := hX.out
          unfold MBox at hy
          have hz := hic.out
          rw [hy, hz]
          clear hy hz
          have HQ : Hid (FrQ w X [(ic, MBox 0 0 none 0 0), (ib, MBox 0 0 none 0 0), (p2, BBox rz cz sc l kc), (p1, BBox ry cy sb m kb), (p0, BBox rx cx sa n ka)] [fun W => FlM W ta n ca xs]) := frq_perm HQ.out (by simp) (by have hn := HQ.out.nod; simp only [List.map_cons, List.map_nil, List.nodup_cons, List.mem_cons, List.not_mem_nil, or_false, not_or, not_false_iff, List.nodup_nil, and_true] at hn ⊢; omega) (by simp)
          have hfin := HS1bc.out X ta ca ib ic HQ
          rw [hG.out, hA.out] at hfin
          simp only [Act.put, List.setIfInBounds_toArray, List.set_cons_zero, List.set_cons_succ] at hfin
          exact hfin
      have HS1c : Hid (∀ (W : World) (ta : Option Addr) (ca : Nat) (ic : Nat), Hid (FrQ w W [(ic, MBox 0 0 none 0 0), (p2, BBox rz cz sc l kc), (p1, BBox ry cy sb m kb), (p0, BBox rx cx sa n ka)] [fun W => FlM W ta n ca xs]) → G 7 #[true, true, true, false, true, false, false, false, true, false, false, false] (Act.put (Act.put (A0) (some 54) (.agg #[.int .i64 rx, .int .i64 cx, .slice ta n ca])) (some 13) (.pointer (some ⟨ic, 0, none⟩))) W) := fun W ta ca ic HQ => by
        rw [hG.out, hA.out]
        simp only [Act.put, List.setIfInBounds_toArray, List.set_cons_zero, List.set_cons_succ]
        refine wpAnyH_ready (rs := [3, 6, 7]) (by kernel_rfl) (by simp) ?_
        refine AllReadyH.cons (o := _) rfl (fun K hK => ?_) (AllReadyH.cons (o := _) rfl (fun K hK => ?_) (AllReadyH.cons (o := _) rfl (fun K hK => ?_) AllReadyH.nil))
        · go_simp
          refine (HOY.out _ HQ.out.bel).mono ?_
          rintro e X ⟨⟨tb, cb, rfl, hf⟩, hb⟩
          have HQ := hid ((HQ.out.call hb).add (g := fun W => FlM W tb m cb ys) (kept_fl _ _ _ _) hf)
          clear hf hb
          unfold MV
          go_wp2_with fail
          refine hK.out _ _ (HKT.out _ (frq3 HQ.out (by simp) (by simp) (by simp))) (fun hHeld => ?_)
          clear hK K
          try simp only [List.setIfInBounds_toArray, List.set_cons_zero, List.set_cons_succ]
          have hfin := HS2c.out X ta ca tb cb ic HQ
          rw [hG.out, hA.out] at hfin
          simp only [Act.put, List.setIfInBounds_toArray, List.set_cons_zero, List.set_cons_succ] at hfin
          exact hfin
        · go_simp
          go_wp2_with fail
          have HQ := hid (HQ.out.alloc (MBox 0 0 none 0 0))
          refine hK.out _ _ (HKT.out _ (frq3 HQ.out (by simp) (by simp) (by simp))) (fun hHeld => ?_)
          clear hK K
          try simp only [List.setIfInBounds_toArray, List.set_cons_zero, List.set_cons_succ]
          obtain ⟨X, hX, HQ⟩ := frq_name HQ.out
          obtain ⟨ia, hia, HQ⟩ := frq_head HQ.out
          have hy := hX.out
          unfold MBox at hy
          have hz := hia.out
          rw [hy, hz]
          clear hy hz
          have HQ : Hid (FrQ w X [(ic, MBox 0 0 none 0 0), (ia, MBox 0 0 none 0 0), (p2, BBox rz cz sc l kc), (p1, BBox ry cy sb m kb), (p0, BBox rx cx sa n ka)] [fun W => FlM W ta n ca xs]) := frq_perm HQ.out (by simp) (by have hn := HQ.out.nod; simp only [List.map_cons, List.map_nil, List.nodup_cons, List.mem_cons, List.not_mem_nil, or_false, not_or, not_false_iff, List.nodup_nil, and_true] at hn ⊢; omega) (by simp)
          have hfin := HS1ac.out X ta ca ia ic HQ
          rw [hG.out, hA.out] at hfin
          simp only [Act.put, List.setIfInBounds_toArray, List.set_cons_zero, List.set_cons_succ] at hfin
          exact hfin
        · go_simp
          go_wp2_with fail
          have HQ := hid (HQ.out.alloc (MBox 0 0 none 0 0))
          refine hK.out _ _ (HKT.out _ (frq3 HQ.out (by simp) (by simp) (by simp))) (fun hHeld => ?_)
          clear hK K
          try simp only [List.setIfInBounds_toArray, List.set_cons_zero, List.set_cons_succ]
          obtain ⟨X, hX, HQ⟩ := frq_name HQ.out
          obtain ⟨ib, hib, HQ⟩ := frq_head HQ.out
          have hy := hX.out
          unfold MBox at hy
          have hz := hib.out
          rw [hy, hz]
          clear hy hz
          have HQ : Hid (FrQ w X [(ic, MBox 0 0 none 0 0), (ib, MBox 0 0 none 0 0), (p2, BBox rz cz sc l kc), (p1, BBox ry cy sb m kb), (p0, BBox rx cx sa n ka)] [fun W => FlM W ta n ca xs]) := frq_perm HQ.out (by simp) (by have hn := HQ.out.nod; simp only [List.map_cons, List.map_nil, List.nodup_cons, List.mem_cons, List.not_mem_nil, or_false, not_or, not_false_iff, List.nodup_nil, and_true] at hn ⊢; omega) (by simp)
          have hfin := HS1bc.out X ta ca ib ic HQ
          rw [hG.out, hA.out] at hfin
          simp only [Act.put, List.setIfInBounds_toArray, List.set_cons_zero, List.set_cons_succ] at hfin
          exact hfin
      have HS0ab : Hid (∀ (W : World) (ia ib : Nat), Hid (FrQ w W [(ib, MBox 0 0 none 0 0), (ia, MBox 0 0 none 0 0), (p2, BBox rz cz sc l kc), (p1, BBox ry cy sb m kb), (p0, BBox rx cx sa n ka)] []) → G 7 #[true, false, true, false, true, false, true, true, false, false, false, false] (Act.put (Act.put (A0) (some 11) (.pointer (some ⟨ia, 0, none⟩))) (some 12) (.pointer (some ⟨ib, 0, none⟩))) W) := fun W ia ib HQ => by
        rw [hG.out, hA.out]
        simp only [Act.put, List.setIfInBounds_toArray, List.set_cons_zero, List.set_cons_succ]
        refine wpAnyH_ready (rs := [1, 8]) (by kernel_rfl) (by simp) ?_
        refine AllReadyH.cons (o := _) rfl (fun K hK => ?_) (AllReadyH.cons (o := _) rfl (fun K hK => ?_) AllReadyH.nil)
        · go_simp
          refine (HOX.out _ HQ.out.bel).mono ?_
          rintro e X ⟨⟨ta, ca, rfl, hf⟩, hb⟩
          have HQ := hid ((HQ.out.call hb).add (g := fun W => FlM W ta n ca xs) (kept_fl _ _ _ _) hf)
          clear hf hb
          unfold MV
          go_wp2_with fail
          refine hK.out _ _ (HKT.out _ (frq3 HQ.out (by simp) (by simp) (by simp))) (fun hHeld => ?_)
          clear hK K
          try simp only [List.setIfInBounds_toArray, List.set_cons_zero, List.set_cons_succ]
          have hfin := HS1ab.out X ta ca ia ib HQ
          rw [hG.out, hA.out] at hfin
          simp only [Act.put, List.setIfInBounds_toArray, List.set_cons_zero, List.set_cons_succ] at hfin
          exact hfin
        · go_simp
          go_wp2_with fail
          have HQ := hid (HQ.out.alloc (MBox 0 0 none 0 0))
          refine hK.out _ _ (HKT.out _ (frq3 HQ.out (by simp) (by simp) (by simp))) (fun hHeld => ?_)
          clear hK K
          try simp only [List.setIfInBounds_toArray, List.set_cons_zero, List.set_cons_succ]
          obtain ⟨X, hX, HQ⟩ := frq_name HQ.out
          obtain ⟨ic, hic, HQ⟩ := frq_head HQ.out
          have hy := hX.out
          unfold MBox at hy
          have hz := hic.out
          rw [hy, hz]
          clear hy hz
          have HQ : Hid (FrQ w X [(ic, MBox 0 0 none 0 0), (ib, MBox 0 0 none 0 0), (ia, MBox 0 0 none 0 0), (p2, BBox rz cz sc l kc), (p1, BBox ry cy sb m kb), (p0, BBox rx cx sa n ka)] []) := frq_perm HQ.out (by simp) (by have hn := HQ.out.nod; simp only [List.map_cons, List.map_nil, List.nodup_cons, List.mem_cons, List.not_mem_nil, or_false, not_or, not_false_iff, List.nodup_nil, and_true] at hn ⊢; omega) (by simp)
          have hfin := HS0abc.out X ia ib ic HQ
          rw [hG.out, hA.out] at hfin
          simp only [Act.put, List.setIfInBounds_toArray, List.set_cons_zero, List.set_cons_succ] at hfin
          exact hfin
      have HS0ac : Hid (∀ (W : World) (ia ic : Nat), Hid (FrQ w W [(ic, MBox 0 0 none 0 0), (ia, MBox 0 0 none 0 0), (p2, BBox rz cz sc l kc), (p1, BBox ry cy sb m kb), (p0, BBox rx cx sa n ka)] []) → G 7 #[true, false, true, false, true, false, true, false, true, false, false, false] (Act.put (Act.put (A0) (some 11) (.pointer (some ⟨ia, 0, none⟩))) (some 13) (.pointer (some ⟨ic, 0, none⟩))) W) := fun W ia ic HQ => by
        rw [hG.out, hA.out]
        simp only [Act.put, List.setIfInBounds_toArray, List.set_cons_zero, List.set_cons_succ]
        refine wpAnyH_ready (rs := [1, 7]) (by kernel_rfl) (by simp) ?_
        refine AllReadyH.cons (o := _) rfl (fun K hK => ?_) (AllReadyH.cons (o := _) rfl (fun K hK => ?_) AllReadyH.nil)
        · go_simp
          refine (HOX.out _ HQ.out.bel).mono ?_
          rintro e X ⟨⟨ta, ca, rfl, hf⟩, hb⟩
          have HQ := hid ((HQ.out.call hb).add (g := fun W => FlM W ta n ca xs) (kept_fl _ _ _ _) hf)
          clear hf hb
          unfold MV
          go_wp2_with fail
          refine hK.out _ _ (HKT.out _ (frq3 HQ.out (by simp) (by simp) (by simp))) (fun hHeld => ?_)
          clear hK K
          try simp only [List.setIfInBounds_toArray, List.set_cons_zero, List.set_cons_succ]
          have hfin := HS1ac.out X ta ca ia ic HQ
          rw [hG.out, hA.out] at hfin
          simp only [Act.put, List.setIfInBounds_toArray, List.set_cons_zero, List.set_cons_succ] at hfin
          exact hfin
        · go_simp
          go_wp2_with fail
          have HQ := hid (HQ.out.alloc (MBox 0 0 none 0 0))
          refine hK.out _ _ (HKT.out _ (frq3 HQ.out (by simp) (by simp) (by simp))) (fun hHeld => ?_)
          clear hK K
          try simp only [List.setIfInBounds_toArray, List.set_cons_zero, List.set_cons_succ]
          obtain ⟨X, hX, HQ⟩ := frq_name HQ.out
          obtain ⟨ib, hib, HQ⟩ := frq_head HQ.out
          have hy := hX.out
          unfold MBox at hy
          have hz := hib.out
          rw [hy, hz]
          clear hy hz
          have HQ : Hid (FrQ w X [(ic, MBox 0 0 none 0 0), (ib, MBox 0 0 none 0 0), (ia, MBox 0 0 none 0 0), (p2, BBox rz cz sc l kc), (p1, BBox ry cy sb m kb), (p0, BBox rx cx sa n ka)] []) := frq_perm HQ.out (by simp) (by have hn := HQ.out.nod; simp only [List.map_cons, List.map_nil, List.nodup_cons, List.mem_cons, List.not_mem_nil, or_false, not_or, not_false_iff, List.nodup_nil, and_true] at hn ⊢; omega) (by simp)
          have hfin := HS0abc.out X ia ib ic HQ
          rw [hG.out, hA.out] at hfin
          simp only [Act.put, List.setIfInBounds_toArray, List.set_cons_zero, List.set_cons_succ] at hfin
          exact hfin
      have HS0bc : Hid (∀ (W : World) (ib ic : Nat), Hid (FrQ w W [(ic, MBox 0 0 none 0 0), (ib, MBox 0 0 none 0 0), (p2, BBox rz cz sc l kc), (p1, BBox ry cy sb m kb), (p0, BBox rx cx sa n ka)] []) → G 7 #[true, false, true, false, true, false, false, true, true, false, false, false] (Act.put (Act.put (A0) (some 12) (.pointer (some ⟨ib, 0, none⟩))) (some 13) (.pointer (some ⟨ic, 0, none⟩))) W) := fun W ib ic HQ => by
        rw [hG.out, hA.out]
        simp only [Act.put, List.setIfInBounds_toArray, List.set_cons_zero, List.set_cons_succ]
        refine wpAnyH_ready (rs := [1, 6]) (by kernel_rfl) (by simp) ?_
        refine AllReadyH.cons (o := _) rfl (fun K hK => ?_) (AllReadyH.cons (o := _) rfl (fun K hK => ?_) AllReadyH.nil)
        · go_simp
          refine (HOX.out _ HQ.out.bel).mono ?_
          rintro e X ⟨⟨ta, ca, rfl, hf⟩, hb⟩
          have HQ := hid ((HQ.out.call hb).add (g := fun W => FlM W ta n ca xs) (kept_fl _ _ _ _) hf)
          clear hf hb
          unfold MV
          go_wp2_with fail
          refine hK.out _ _ (HKT.out _ (frq3 HQ.out (by simp) (by simp) (by simp))) (fun hHeld => ?_)
          clear hK K
          try simp only [List.setIfInBounds_toArray, List.set_cons_zero, List.set_cons_succ]
          have hfin := HS1bc.out X ta ca ib ic HQ
          rw [hG.out, hA.out] at hfin
          simp only [Act.put, List.setIfInBounds_toArray, List.set_cons_zero, List.set_cons_succ] at hfin
          exact hfin
        · go_simp
          go_wp2_with fail
          have HQ := hid (HQ.out.alloc (MBox 0 0 none 0 0))
          refine hK.out _ _ (HKT.out _ (frq3 HQ.out (by simp) (by simp) (by simp))) (fun hHeld => ?_)
          clear hK K
          try simp only [List.setIfInBounds_toArray, List.set_cons_zero, List.set_cons_succ]
          obtain ⟨X, hX, HQ⟩ := frq_name HQ.out
          obtain ⟨ia, hia, HQ⟩ := frq_head HQ.out
          have hy := hX.out
          unfold MBox at hy
          have hz := hia.out
          rw [hy, hz]
          clear hy hz
          have HQ : Hid (FrQ w X [(ic, MBox 0 0 none 0 0), (ib, MBox 0 0 none 0 0), (ia, MBox 0 0 none 0 0), (p2, BBox rz cz sc l kc), (p1, BBox ry cy sb m kb), (p0, BBox rx cx sa n ka)] []) := frq_perm HQ.out (by simp) (by have hn := HQ.out.nod; simp only [List.map_cons, List.map_nil, List.nodup_cons, List.mem_cons, List.not_mem_nil, or_false, not_or, not_false_iff, List.nodup_nil, and_true] at hn ⊢; omega) (by simp)
          have hfin := HS0abc.out X ia ib ic HQ
          rw [hG.out, hA.out] at hfin
          simp only [Act.put, List.setIfInBounds_toArray, List.set_cons_zero, List.set_cons_succ] at hfin
          exact hfin
      clear HS3 HS2a HS2b HS2c HS1ab HS1ac HS1bc HS0abc
      have HS1 : Hid (∀ (W : World) (ta : Option Addr) (ca : Nat) , Hid (FrQ w W [(p2, BBox rz cz sc l kc), (p1, BBox ry cy sb m kb), (p0, BBox rx cx sa n ka)] [fun W => FlM W ta n ca xs]) → G 8 #[true, true, true, false, true, false, false, false, false, false, false, false] (Act.put (A0) (some 54) (.agg #[.int .i64 rx, .int .i64 cx, .slice ta n ca])) W) := fun W ta ca HQ => by
        rw [hG.out, hA.out]
        simp only [Act.put, List.setIfInBounds_toArray, List.set_cons_zero, List.set_cons_succ]
        refine wpAnyH_ready (rs := [3, 6, 7, 8]) (by kernel_rfl) (by simp) ?_
        refine AllReadyH.cons (o := _) rfl (fun K hK => ?_) (AllReadyH.cons (o := _) rfl (fun K hK => ?_) (AllReadyH.cons (o := _) rfl (fun K hK => ?_) (AllReadyH.cons (o := _) rfl (fun K hK => ?_) AllReadyH.nil)))
        · go_simp
          refine (HOY.out _ HQ.out.bel).mono ?_
          rintro e X ⟨⟨tb, cb, rfl, hf⟩, hb⟩
          have HQ := hid ((HQ.out.call hb).add (g := fun W => FlM W tb m cb ys) (kept_fl _ _ _ _) hf)
          clear hf hb
          unfold MV
          go_wp2_with fail
          refine hK.out _ _ (HKT.out _ (frq3 HQ.out (by simp) (by simp) (by simp))) (fun hHeld => ?_)
          clear hK K
          try simp only [List.setIfInBounds_toArray, List.set_cons_zero, List.set_cons_succ]
          have hfin := HS2.out X ta ca tb cb HQ
          rw [hG.out, hA.out] at hfin
          simp only [Act.put, List.setIfInBounds_toArray, List.set_cons_zero, List.set_cons_succ] at hfin
          exact hfin
        · go_simp
          go_wp2_with fail
          have HQ := hid (HQ.out.alloc (MBox 0 0 none 0 0))
          refine hK.out _ _ (HKT.out _ (frq3 HQ.out (by simp) (by simp) (by simp))) (fun hHeld => ?_)
          clear hK K
          try simp only [List.setIfInBounds_toArray, List.set_cons_zero, List.set_cons_succ]
          obtain ⟨X, hX, HQ⟩ := frq_name HQ.out
          obtain ⟨ia, hia, HQ⟩ := frq_head HQ.out
          have hy := hX.out
          unfold MBox at hy
          have hz := hia.out
          rw [hy, hz]
          clear hy hz
          have HQ : Hid (FrQ w X [(ia, MBox 0 0 none 0 0), (p2, BBox rz cz sc l kc), (p1, BBox ry cy sb m kb), (p0, BBox rx cx sa n ka)] [fun W => FlM W ta n ca xs]) := frq_perm HQ.out (by simp) (by have hn := HQ.out.nod; simp only [List.map_cons, List.map_nil, List.nodup_cons, List.mem_cons, List.not_mem_nil, or_false, not_or, not_false_iff, List.nodup_nil, and_true] at hn ⊢; omega) (by simp)
          have hfin := HS1a.out X ta ca ia HQ
          rw [hG.out, hA.out] at hfin
          simp only [Act.put, List.setIfInBounds_toArray, List.set_cons_zero, List.set_cons_succ] at hfin
          exact hfin
        · go_simp
          go_wp2_with fail
          have HQ := hid (HQ.out.alloc (MBox 0 0 none 0 0))
          refine hK.out _ _ (HKT.out _ (frq3 HQ.out (by simp) (by simp) (by simp))) (fun hHeld => ?_)
          clear hK K
          try simp only [List.setIfInBounds_toArray, List.set_cons_zero, List.set_cons_succ]
          obtain ⟨X, hX, HQ⟩ := frq_name HQ.out
          obtain ⟨ib, hib, HQ⟩ := frq_head HQ.out
          have hy := hX.out
          unfold MBox at hy
          have hz := hib.out
          rw [hy, hz]
          clear hy hz
          have HQ : Hid (FrQ w X [(ib, MBox 0 0 none 0 0), (p2, BBox rz cz sc l kc), (p1, BBox ry cy sb m kb), (p0, BBox rx cx sa n ka)] [fun W => FlM W ta n ca xs]) := frq_perm HQ.out (by simp) (by have hn := HQ.out.nod; simp only [List.map_cons, List.map_nil, List.nodup_cons, List.mem_cons, List.not_mem_nil, or_false, not_or, not_false_iff, List.nodup_nil, and_true] at hn ⊢; omega) (by simp)
          have hfin := HS1b.out X ta ca ib HQ
          rw [hG.out, hA.out] at hfin
          simp only [Act.put, List.setIfInBounds_toArray, List.set_cons_zero, List.set_cons_succ] at hfin
          exact hfin
        · go_simp
          go_wp2_with fail
          have HQ := hid (HQ.out.alloc (MBox 0 0 none 0 0))
          refine hK.out _ _ (HKT.out _ (frq3 HQ.out (by simp) (by simp) (by simp))) (fun hHeld => ?_)
          clear hK K
          try simp only [List.setIfInBounds_toArray, List.set_cons_zero, List.set_cons_succ]
          obtain ⟨X, hX, HQ⟩ := frq_name HQ.out
          obtain ⟨ic, hic, HQ⟩ := frq_head HQ.out
          have hy := hX.out
          unfold MBox at hy
          have hz := hic.out
          rw [hy, hz]
          clear hy hz
          have HQ : Hid (FrQ w X [(ic, MBox 0 0 none 0 0), (p2, BBox rz cz sc l kc), (p1, BBox ry cy sb m kb), (p0, BBox rx cx sa n ka)] [fun W => FlM W ta n ca xs]) := frq_perm HQ.out (by simp) (by have hn := HQ.out.nod; simp only [List.map_cons, List.map_nil, List.nodup_cons, List.mem_cons, List.not_mem_nil, or_false, not_or, not_false_iff, List.nodup_nil, and_true] at hn ⊢; omega) (by simp)
          have hfin := HS1c.out X ta ca ic HQ
          rw [hG.out, hA.out] at hfin
          simp only [Act.put, List.setIfInBounds_toArray, List.set_cons_zero, List.set_cons_succ] at hfin
          exact hfin
      have HS0a : Hid (∀ (W : World) (ia : Nat), Hid (FrQ w W [(ia, MBox 0 0 none 0 0), (p2, BBox rz cz sc l kc), (p1, BBox ry cy sb m kb), (p0, BBox rx cx sa n ka)] []) → G 8 #[true, false, true, false, true, false, true, false, false, false, false, false] (Act.put (A0) (some 11) (.pointer (some ⟨ia, 0, none⟩))) W) := fun W ia HQ => by
        rw [hG.out, hA.out]
        simp only [Act.put, List.setIfInBounds_toArray, List.set_cons_zero, List.set_cons_succ]
        refine wpAnyH_ready (rs := [1, 7, 8]) (by kernel_rfl) (by simp) ?_
        refine AllReadyH.cons (o := _) rfl (fun K hK => ?_) (AllReadyH.cons (o := _) rfl (fun K hK => ?_) (AllReadyH.cons (o := _) rfl (fun K hK => ?_) AllReadyH.nil))
        · go_simp
          refine (HOX.out _ HQ.out.bel).mono ?_
          rintro e X ⟨⟨ta, ca, rfl, hf⟩, hb⟩
          have HQ := hid ((HQ.out.call hb).add (g := fun W => FlM W ta n ca xs) (kept_fl _ _ _ _) hf)
          clear hf hb
          unfold MV
          go_wp2_with fail
          refine hK.out _ _ (HKT.out _ (frq3 HQ.out (by simp) (by simp) (by simp))) (fun hHeld => ?_)
          clear hK K
          try simp only [List.setIfInBounds_toArray, List.set_cons_zero, List.set_cons_succ]
          have hfin := HS1a.out X ta ca ia HQ
          rw [hG.out, hA.out] at hfin
          simp only [Act.put, List.setIfInBounds_toArray, List.set_cons_zero, List.set_cons_succ] at hfin
          exact hfin
        · go_simp
          go_wp2_with fail
          have HQ := hid (HQ.out.alloc (MBox 0 0 none 0 0))
          refine hK.out _ _ (HKT.out _ (frq3 HQ.out (by simp) (by simp) (by simp))) (fun hHeld => ?_)
          clear hK K
          try simp only [List.setIfInBounds_toArray, List.set_cons_zero, List.set_cons_succ]
          obtain ⟨X, hX, HQ⟩ := frq_name HQ.out
          obtain ⟨ib, hib, HQ⟩ := frq_head HQ.out
          have hy := hX.out
          unfold MBox at hy
          have hz := hib.out
          rw [hy, hz]
          clear hy hz
          have HQ : Hid (FrQ w X [(ib, MBox 0 0 none 0 0), (ia, MBox 0 0 none 0 0), (p2, BBox rz cz sc l kc), (p1, BBox ry cy sb m kb), (p0, BBox rx cx sa n ka)] []) := frq_perm HQ.out (by simp) (by have hn := HQ.out.nod; simp only [List.map_cons, List.map_nil, List.nodup_cons, List.mem_cons, List.not_mem_nil, or_false, not_or, not_false_iff, List.nodup_nil, and_true] at hn ⊢; omega) (by simp)
          have hfin := HS0ab.out X ia ib HQ
          rw [hG.out, hA.out] at hfin
          simp only [Act.put, List.setIfInBounds_toArray, List.set_cons_zero, List.set_cons_succ] at hfin
          exact hfin
        · go_simp
          go_wp2_with fail
          have HQ := hid (HQ.out.alloc (MBox 0 0 none 0 0))
          refine hK.out _ _ (HKT.out _ (frq3 HQ.out (by simp) (by simp) (by simp))) (fun hHeld => ?_)
          clear hK K
          try simp only [List.setIfInBounds_toArray, List.set_cons_zero, List.set_cons_succ]
          obtain ⟨X, hX, HQ⟩ := frq_name HQ.out
          obtain ⟨ic, hic, HQ⟩ := frq_head HQ.out
          have hy := hX.out
          unfold MBox at hy
          have hz := hic.out
          rw [hy, hz]
          clear hy hz
          have HQ : Hid (FrQ w X [(ic, MBox 0 0 none 0 0), (ia, MBox 0 0 none 0 0), (p2, BBox rz cz sc l kc), (p1, BBox ry cy sb m kb), (p0, BBox rx cx sa n ka)] []) := frq_perm HQ.out (by simp) (by have hn := HQ.out.nod; simp only [List.map_cons, List.map_nil, List.nodup_cons, List.mem_cons, List.not_mem_nil, or_false, not_or, not_false_iff, List.nodup_nil, and_true] at hn ⊢; omega) (by simp)
          have hfin := HS0ac.out X ia ic HQ
          rw [hG.out, hA.out] at hfin
          simp only [Act.put, List.setIfInBounds_toArray, List.set_cons_zero, List.set_cons_succ] at hfin
          exact hfin
      have HS0b : Hid (∀ (W : World) (ib : Nat), Hid (FrQ w W [(ib, MBox 0 0 none 0 0), (p2, BBox rz cz sc l kc), (p1, BBox ry cy sb m kb), (p0, BBox rx cx sa n ka)] []) → G 8 #[true, false, true, false, true, false, false, true, false, false, false, false] (Act.put (A0) (some 12) (.pointer (some ⟨ib, 0, none⟩))) W) := fun W ib HQ => by
        rw [hG.out, hA.out]
        simp only [Act.put, List.setIfInBounds_toArray, List.set_cons_zero, List.set_cons_succ]
        refine wpAnyH_ready (rs := [1, 6, 8]) (by kernel_rfl) (by simp) ?_
        refine AllReadyH.cons (o := _) rfl (fun K hK => ?_) (AllReadyH.cons (o := _) rfl (fun K hK => ?_) (AllReadyH.cons (o := _) rfl (fun K hK => ?_) AllReadyH.nil))
        · go_simp
          refine (HOX.out _ HQ.out.bel).mono ?_
          rintro e X ⟨⟨ta, ca, rfl, hf⟩, hb⟩
          have HQ := hid ((HQ.out.call hb).add (g := fun W => FlM W ta n ca xs) (kept_fl _ _ _ _) hf)
          clear hf hb
          unfold MV
          go_wp2_with fail
          refine hK.out _ _ (HKT.out _ (frq3 HQ.out (by simp) (by simp) (by simp))) (fun hHeld => ?_)
          clear hK K
          try simp only [List.setIfInBounds_toArray, List.set_cons_zero, List.set_cons_succ]
          have hfin := HS1b.out X ta ca ib HQ
          rw [hG.out, hA.out] at hfin
          simp only [Act.put, List.setIfInBounds_toArray, List.set_cons_zero, List.set_cons_succ] at hfin
          exact hfin
        · go_simp
          go_wp2_with fail
          have HQ := hid (HQ.out.alloc (MBox 0 0 none 0 0))
          refine hK.out _ _ (HKT.out _ (frq3 HQ.out (by simp) (by simp) (by simp))) (fun hHeld => ?_)
          clear hK K
          try simp only [List.setIfInBounds_toArray, List.set_cons_zero, List.set_cons_succ]
          obtain ⟨X, hX, HQ⟩ := frq_name HQ.out
          obtain ⟨ia, hia, HQ⟩ := frq_head HQ.out
          have hy := hX.out
          unfold MBox at hy
          have hz := hia.out
          rw [hy, hz]
          clear hy hz
          have HQ : Hid (FrQ w X [(ib, MBox 0 0 none 0 0), (ia, MBox 0 0 none 0 0), (p2, BBox rz cz sc l kc), (p1, BBox ry cy sb m kb), (p0, BBox rx cx sa n ka)] []) := frq_perm HQ.out (by simp) (by have hn := HQ.out.nod; simp only [List.map_cons, List.map_nil, List.nodup_cons, List.mem_cons, List.not_mem_nil, or_false, not_or, not_false_iff, List.nodup_nil, and_true] at hn ⊢; omega) (by simp)
          have hfin := HS0ab.out X ia ib HQ
          rw [hG.out, hA.out] at hfin
          simp only [Act.put, List.setIfInBounds_toArray, List.set_cons_zero, List.set_cons_succ] at hfin
          exact hfin
        · go_simp
          go_wp2_with fail
          have HQ := hid (HQ.out.alloc (MBox 0 0 none 0 0))
          refine hK.out _ _ (HKT.out _ (frq3 HQ.out (by simp) (by simp) (by simp))) (fun hHeld => ?_)
          clear hK K
          try simp only [List.setIfInBounds_toArray, List.set_cons_zero, List.set_cons_succ]
          obtain ⟨X, hX, HQ⟩ := frq_name HQ.out
          obtain ⟨ic, hic, HQ⟩ := frq_head HQ.out
          have hy := hX.out
          unfold MBox at hy
          have hz := hic.out
          rw [hy, hz]
          clear hy hz
          have HQ : Hid (FrQ w X [(ic, MBox 0 0 none 0 0), (ib, MBox 0 0 none 0 0), (p2, BBox rz cz sc l kc), (p1, BBox ry cy sb m kb), (p0, BBox rx cx sa n ka)] []) := frq_perm HQ.out (by simp) (by have hn := HQ.out.nod; simp only [List.map_cons, List.map_nil, List.nodup_cons, List.mem_cons, List.not_mem_nil, or_false, not_or, not_false_iff, List.nodup_nil, and_true] at hn ⊢; omega) (by simp)
          have hfin := HS0bc.out X ib ic HQ
          rw [hG.out, hA.out] at hfin
          simp only [Act.put, List.setIfInBounds_toArray, List.set_cons_zero, List.set_cons_succ] at hfin
          exact hfin
      have HS0c : Hid (∀ (W : World) (ic : Nat), Hid (FrQ w W [(ic, MBox 0 0 none 0 0), (p2, BBox rz cz sc l kc), (p1, BBox ry cy sb m kb), (p0, BBox rx cx sa n ka)] []) → G 8 #[true, false, true, false, true, false, false, false, true, false, false, false] (Act.put (A0) (some 13) (.pointer (some ⟨ic, 0, none⟩))) W) := fun W ic HQ => by
        rw [hG.out, hA.out]
        simp only [Act.put, List.setIfInBounds_toArray, List.set_cons_zero, List.set_cons_succ]
        refine wpAnyH_ready (rs := [1, 6, 7]) (by kernel_rfl) (by simp) ?_
        refine AllReadyH.cons (o := _) rfl (fun K hK => ?_) (AllReadyH.cons (o := _) rfl (fun K hK => ?_) (AllReadyH.cons (o := _) rfl (fun K hK => ?_) AllReadyH.nil))
        · go_simp
          refine (HOX.out _ HQ.out.bel).mono ?_
          rintro e X ⟨⟨ta, ca, rfl, hf⟩, hb⟩
          have HQ := hid ((HQ.out.call hb).add (g := fun W => FlM W ta n ca xs) (kept_fl _ _ _ _) hf)
          clear hf hb
          unfold MV
          go_wp2_with fail
          refine hK.out _ _ (HKT.out _ (frq3 HQ.out (by simp) (by simp) (by simp))) (fun hHeld => ?_)
          clear hK K
          try simp only [List.setIfInBounds_toArray, List.set_cons_zero, List.set_cons_succ]
          have hfin := HS1c.out X ta ca ic HQ
          rw [hG.out, hA.out] at hfin
          simp only [Act.put, List.setIfInBounds_toArray, List.set_cons_zero, List.set_cons_succ] at hfin
          exact hfin
        · go_simp
          go_wp2_with fail
          have HQ := hid (HQ.out.alloc (MBox 0 0 none 0 0))
          refine hK.out _ _ (HKT.out _ (frq3 HQ.out (by simp) (by simp) (by simp))) (fun hHeld => ?_)
          clear hK K
          try simp only [List.setIfInBounds_toArray, List.set_cons_zero, List.set_cons_succ]
          obtain ⟨X, hX, HQ⟩ := frq_name HQ.out
          obtain ⟨ia, hia, HQ⟩ := frq_head HQ.out
          have hy := hX.out
          unfold MBox at hy
          have hz := hia.out
          rw [hy, hz]
          clear hy hz
          have HQ : Hid (FrQ w X [(ic, MBox 0 0 none 0 0), (ia, MBox 0 0 none 0 0), (p2, BBox rz cz sc l kc), (p1, BBox ry cy sb m kb), (p0, BBox rx cx sa n ka)] []) := frq_perm HQ.out (by simp) (by have hn := HQ.out.nod; simp only [List.map_cons, List.map_nil, List.nodup_cons, List.mem_cons, List.not_mem_nil, or_false, not_or, not_false_iff, List.nodup_nil, and_true] at hn ⊢; omega) (by simp)
          have hfin := HS0ac.out X ia ic HQ
          rw [hG.out, hA.out] at hfin
          simp only [Act.put, List.setIfInBounds_toArray, List.set_cons_zero, List.set_cons_succ] at hfin
          exact hfin
        · go_simp
          go_wp2_with fail
          have HQ := hid (HQ.out.alloc (MBox 0 0 none 0 0))
          refine hK.out _ _ (HKT.out _ (frq3 HQ.out (by simp) (by simp) (by simp))) (fun hHeld => ?_)
          clear hK K
          try simp only [List.setIfInBounds_toArray, List.set_cons_zero, List.set_cons_succ]
          obtain ⟨X, hX, HQ⟩ := frq_name HQ.out
          obtain ⟨ib, hib, HQ⟩ := frq_head HQ.out
          have hy := hX.out
          unfold MBox at hy
          have hz := hib.out
          rw [hy, hz]
          clear hy hz
          have HQ : Hid (FrQ w X [(ic, MBox 0 0 none 0 0), (ib, MBox 0 0 none 0 0), (p2, BBox rz cz sc l kc), (p1, BBox ry cy sb m kb), (p0, BBox rx cx sa n ka)] []) := frq_perm HQ.out (by simp) (by have hn := HQ.out.nod; simp only [List.map_cons, List.map_nil, List.nodup_cons, List.mem_cons, List.not_mem_nil, or_false, not_or, not_false_iff, List.nodup_nil, and_true] at hn ⊢; omega) (by simp)
          have hfin := HS0bc.out X ib ic HQ
          rw [hG.out, hA.out] at hfin
          simp only [Act.put, List.setIfInBounds_toArray, List.set_cons_zero, List.set_cons_succ] at hfin
          exact hfin
      clear HS2 HS1a HS1b HS1c HS0ab HS0ac HS0bc
      have HS0 : Hid (∀ (W : World) , Hid (FrQ w W [(p2, BBox rz cz sc l kc), (p1, BBox ry cy sb m kb), (p0, BBox rx cx sa n ka)] []) → G 9 #[true, false, true, false, true, false, false, false, false, false, false, false] (A0) W) := fun W  HQ => by
        rw [hG.out, hA.out]
        refine wpAnyH_ready (rs := [1, 6, 7, 8]) (by kernel_rfl) (by simp) ?_
        refine AllReadyH.cons (o := _) rfl (fun K hK => ?_) (AllReadyH.cons (o := _) rfl (fun K hK => ?_) (AllReadyH.cons (o := _) rfl (fun K hK => ?_) (AllReadyH.cons (o := _) rfl (fun K hK => ?_) AllReadyH.nil)))
        · go_simp
          refine (HOX.out _ HQ.out.bel).mono ?_
          rintro e X ⟨⟨ta, ca, rfl, hf⟩, hb⟩
          have HQ := hid ((HQ.out.call hb).add (g := fun W => FlM W ta n ca xs) (kept_fl _ _ _ _) hf)
          clear hf hb
          unfold MV
          go_wp2_with fail
          refine hK.out _ _ (HKT.out _ (frq3 HQ.out (by simp) (by simp) (by simp))) (fun hHeld => ?_)
          clear hK K
          try simp only [List.setIfInBounds_toArray, List.set_cons_zero, List.set_cons_succ]
          have hfin := HS1.out X ta ca HQ
          rw [hG.out, hA.out] at hfin
          simp only [Act.put, List.setIfInBounds_toArray, List.set_cons_zero, List.set_cons_succ] at hfin
          exact hfin
        · go_simp
          go_wp2_with fail
          have HQ := hid (HQ.out.alloc (MBox 0 0 none 0 0))
          refine hK.out _ _ (HKT.out _ (frq3 HQ.out (by simp) (by simp) (by simp))) (fun hHeld => ?_)
          clear hK K
          try simp only [List.setIfInBounds_toArray, List.set_cons_zero, List.set_cons_succ]
          obtain ⟨X, hX, HQ⟩ := frq_name HQ.out
          obtain ⟨ia, hia, HQ⟩ := frq_head HQ.out
          have hy := hX.out
          unfold MBox at hy
          have hz := hia.out
          rw [hy, hz]
          clear hy hz
          have HQ : Hid (FrQ w X [(ia, MBox 0 0 none 0 0), (p2, BBox rz cz sc l kc), (p1, BBox ry cy sb m kb), (p0, BBox rx cx sa n ka)] []) := frq_perm HQ.out (by simp) (by have hn := HQ.out.nod; simp only [List.map_cons, List.map_nil, List.nodup_cons, List.mem_cons, List.not_mem_nil, or_false, not_or, not_false_iff, List.nodup_nil, and_true] at hn ⊢; omega) (by simp)
          have hfin := HS0a.out X ia HQ
          rw [hG.out, hA.out] at hfin
          simp only [Act.put, List.setIfInBounds_toArray, List.set_cons_zero, List.set_cons_succ] at hfin
          exact hfin
        · go_simp
          go_wp2_with fail
          have HQ := hid (HQ.out.alloc (MBox 0 0 none 0 0))
          refine hK.out _ _ (HKT.out _ (frq3 HQ.out (by simp) (by simp) (by simp))) (fun hHeld => ?_)
          clear hK K
          try simp only [List.setIfInBounds_toArray, List.set_cons_zero, List.set_cons_succ]
          obtain ⟨X, hX, HQ⟩ := frq_name HQ.out
          obtain ⟨ib, hib, HQ⟩ := frq_head HQ.out
          have hy := hX.out
          unfold MBox at hy
          have hz := hib.out
          rw [hy, hz]
          clear hy hz
          have HQ : Hid (FrQ w X [(ib, MBox 0 0 none 0 0), (p2, BBox rz cz sc l kc), (p1, BBox ry cy sb m kb), (p0, BBox rx cx sa n ka)] []) := frq_perm HQ.out (by simp) (by have hn := HQ.out.nod; simp only [List.map_cons, List.map_nil, List.nodup_cons, List.mem_cons, List.not_mem_nil, or_false, not_or, not_false_iff, List.nodup_nil, and_true] at hn ⊢; omega) (by simp)
          have hfin := HS0b.out X ib HQ
          rw [hG.out, hA.out] at hfin
          simp only [Act.put, List.setIfInBounds_toArray, List.set_cons_zero, List.set_cons_succ] at hfin
          exact hfin
        · go_simp
          go_wp2_with fail
          have HQ := hid (HQ.out.alloc (MBox 0 0 none 0 0))
          refine hK.out _ _ (HKT.out _ (frq3 HQ.out (by simp) (by simp) (by simp))) (fun hHeld => ?_)
          clear hK K
          try simp only [List.setIfInBounds_toArray, List.set_cons_zero, List.set_cons_succ]
          obtain ⟨X, hX, HQ⟩ := frq_name HQ.out
          obtain ⟨ic, hic, HQ⟩ := frq_head HQ.out
          have hy := hX.out
          unfold MBox at hy
          have hz := hic.out
          rw [hy, hz]
          clear hy hz
          have HQ : Hid (FrQ w X [(ic, MBox 0 0 none 0 0), (p2, BBox rz cz sc l kc), (p1, BBox ry cy sb m kb), (p0, BBox rx cx sa n ka)] []) := frq_perm HQ.out (by simp) (by have hn := HQ.out.nod; simp only [List.map_cons, List.map_nil, List.nodup_cons, List.mem_cons, List.not_mem_nil, or_false, not_or, not_false_iff, List.nodup_nil, and_true] at hn ⊢; omega) (by simp)
          have hfin := HS0c.out X ic HQ
          rw [hG.out, hA.out] at hfin
          simp only [Act.put, List.setIfInBounds_toArray, List.set_cons_zero, List.set_cons_succ] at hfin
          exact hfin
      exact HS0.out _ HQ0
  · as_aux_lemma =>
      rintro a' w2 ⟨ta, ca, tb, cb, tc, cc, ia, ib, ic, rfl, hF⟩
      simp only [Act.put, List.setIfInBounds_toArray, List.set_cons_zero, List.set_cons_succ]
      have HF : Hid (FrQ w w2 [(ic, MBox rz cz tc l cc), (ib, MBox ry cy tb m cb), (ia, MBox rx cx ta n ca), (p2, BBox rz cz sc l kc), (p1, BBox ry cy sb m kb), (p0, BBox rx cx sa n ka)] [fun W => FlM W tc l cc zs, fun W => FlM W tb m cb ys, fun W => FlM W ta n ca xs]) := hF
      clear hF HKT HQ0
      have HCA := hid (fun W (h : FlM W ta n ca xs) => Check_any rx cx ta n ca xs W h HNM.out.1)
      have HCR := hid (fun W (h : FlM W ta n ca xs) => rCheck_any rx cx ta n ca xs W h HNM.out.1)
      have HAP := hid (fun W g (hW : Below w.heap.size w W) (hg : W.heap[g]? = some (.cells #[] 3)) => append_inte 25 g pa q pc ps W hg (HPL.out.belo hW) HNM.out.2.2.2)
      have HPO := hid (fun W s k pb pd (h : FlM W s n k xs) (h2 : I64At W pb q ps) => Order_tot rx cx s n k xs pb q pd ps W h h2 HNM.out.1)
      have HPD := hid (fun W s k t l2 (h : FlM W s m k ys) (h2 : FlM W t l l2 zs) => Beside_tot ry cy s m k ys rz cz t l l2 zs W h h2 HNM.out.2.1 HNM.out.2.2.1)
      have HM1 := hid (fun W s k t l2 (h : FlM W s n k xs) (h2 : FlM W t m l2 ys) => Mul_tot rx cx s n k xs ry cy t m l2 ys W h h2 HNM.out.1 HNM.out.2.1)
      have HM2 := hid (fun W s k t l2 (h : FlM W s n k xs) (h2 : FlM W t l l2 zs) => Mul_tot rx cx s n k xs rz cz t l l2 zs W h h2 HNM.out.1 HNM.out.2.2.1)
      have HM3 := hid (fun W s k t l2 (h : FlM W s m k ys) (h2 : FlM W t l l2 zs) => Mul_tot ry cy s m k ys rz cz t l l2 zs W h h2 HNM.out.2.1 HNM.out.2.2.1)
      have HPS := hid (fun W s k t l2 (h : FlM W s n k xs) (h2 : FlM W t m l2 ys) => Stack_tot rx cx s n k xs ry cy t m l2 ys W h h2 HNM.out.1 HNM.out.2.1)
      obtain ⟨OT, hOT⟩ : ∃ t, Hid (ordT rx cx n xs q ps = t) := ⟨_, rfl⟩
      rw [hOT.out] at HPO
      obtain ⟨BT, hBT⟩ : ∃ t, Hid (bsdT ry cy m ys rz cz l zs = t) := ⟨_, rfl⟩
      rw [hBT.out] at HPD
      obtain ⟨M1, hM1⟩ : ∃ t, Hid (mulT rx cx n xs ry cy m ys = t) := ⟨_, rfl⟩
      rw [hM1.out] at HM1
      obtain ⟨M2, hM2⟩ : ∃ t, Hid (mulT rx cx n xs rz cz l zs = t) := ⟨_, rfl⟩
      rw [hM2.out] at HM2
      obtain ⟨M3, hM3⟩ : ∃ t, Hid (mulT ry cy m ys rz cz l zs = t) := ⟨_, rfl⟩
      rw [hM3.out] at HM3
      obtain ⟨ST, hST⟩ : ∃ t, Hid (stkT rx cx n xs ry cy m ys = t) := ⟨_, rfl⟩
      rw [hST.out] at HPS
      have HF : Hid (FrQ w w2 [(ic, MBox rz cz tc l cc), (ib, MBox ry cy tb m cb), (ia, MBox rx cx ta n ca)] [fun W => FlM W tc l cc zs, fun W => FlM W tb m cb ys, fun W => FlM W ta n ca xs]) := HF.out.sub (.cons_cons _ (.cons_cons _ (.cons_cons _ (.cons _ (.cons _ (.cons _ .slnil)))))) (.cons_cons _ (.cons_cons _ (.cons_cons _ .slnil)))
      go_upto_region 4 with fail
      go_cut [66] from 51 (fun s66 W => s66 = .bool (chkM rx cx n xs == 0) ∧ Hid (FrQ w W [(ic, MBox rz cz tc l cc), (ib, MBox ry cy tb m cb), (ia, MBox rx cx ta n ca)] [fun W => FlM W tc l cc zs, fun W => FlM W tb m cb ys, fun W => FlM W ta n ca xs]))
      case first =>
        as_aux_lemma =>
          by_cases hT0 : chkM rx cx n xs = 0
          · have hye : (chkM rx cx n xs == 0) = true := by simpa using hT0
            obtain ⟨c00, c01, c02⟩ := mcells_of (HF.out.at 2 rfl : w2.heap[ia]? = some (MBox rx cx ta n ca))
            go_wp2_with fail
            refine (HCA.out _ (HF.out.get (g := fun W => FlM W ta n ca xs) 2 rfl)).mono ?_
            rintro e u3 ⟨rfl, hb⟩
            have HF : Hid (FrQ w u3 [(ic, MBox rz cz tc l cc), (ib, MBox ry cy tb m cb), (ia, MBox rx cx ta n ca)] [fun W => FlM W tc l cc zs, fun W => FlM W tb m cb ys, fun W => FlM W ta n ca xs]) := HF.out.call hb
            clear hb
            obtain ⟨c00, c01, c02⟩ := mcells_of (HF.out.at 2 rfl : u3.heap[ia]? = some (MBox rx cx ta n ca))
            go_wp2_with fail
            refine (HCR.out _ (HF.out.get (g := fun W => FlM W ta n ca xs) 2 rfl)).mono ?_
            rintro e u4 ⟨rfl, hb⟩
            have HF : Hid (FrQ w u4 [(ic, MBox rz cz tc l cc), (ib, MBox ry cy tb m cb), (ia, MBox rx cx ta n ca)] [fun W => FlM W tc l cc zs, fun W => FlM W tb m cb ys, fun W => FlM W ta n ca xs]) := HF.out.call hb
            clear hb
            go_wp2_with fail
            go_meet
            exact ⟨by first | rfl | rw [hye], HF⟩
          · have hne : (chkM rx cx n xs == 0) = false := by simpa using hT0
            obtain ⟨c00, c01, c02⟩ := mcells_of (HF.out.at 2 rfl : w2.heap[ia]? = some (MBox rx cx ta n ca))
            go_wp2_with fail
            refine (HCA.out _ (HF.out.get (g := fun W => FlM W ta n ca xs) 2 rfl)).mono ?_
            rintro e u3 ⟨rfl, hb⟩
            have HF : Hid (FrQ w u3 [(ic, MBox rz cz tc l cc), (ib, MBox ry cy tb m cb), (ia, MBox rx cx ta n ca)] [fun W => FlM W tc l cc zs, fun W => FlM W tb m cb ys, fun W => FlM W ta n ca xs]) := HF.out.call hb
            clear hb
            go_wp2_with fail
            go_meet
            exact ⟨by first | rfl | rw [hne], HF⟩
      case rest =>
      as_aux_lemma =>
      obtain ⟨rfl, HF⟩ := hcut
      go_upto_if 66 with fail
      go_cut [] from 51 (fun W => Hid (FrQ w W [(ic, MBox rz cz tc l cc), (ib, MBox ry cy tb m cb), (ia, MBox rx cx ta n ca)] [fun W => FlM W tc l cc zs, fun W => FlM W tb m cb ys, fun W => FlM W ta n ca xs]))
      case first =>
        as_aux_lemma =>
          by_cases hT0 : chkM rx cx n xs = 0
          · have hye : (chkM rx cx n xs == 0) = true := by simpa using hT0
            obtain ⟨r, c, hrx, hcx, hga⟩ := gd_of (HF.out.get (g := fun W => FlM W ta n ca xs) 2 rfl) hT0
            have HR12 := hid (And.intro hga.1 hga.2.1)
            have HRX := hid hrx
            have HCX := hid hcx
            clear hga hrx hcx
            have HT0 := hid hT0
            clear hT0
            obtain ⟨KK, hK1, hK2, hK3, hK4⟩ := round_k k0 c
            rw [← HCX.out] at hK2 hK3 hK4
            have hc0 : 0 ≤ cx := by have := HCX.out; omega
            have hc12 : cx ≤ 12 := by have := HCX.out; have := HR12.out.2; omega
            have hkk := HKK.out
            obtain ⟨M0, hM0⟩ : ∃ t, Hid (k0.tmod (cx + 1) = t) := ⟨_, rfl⟩
            rw [hM0.out] at hK2 hK3 hK4
            have HKT : Hid (∀ W, Hid (FrQ w W [(ic, MBox rz cz tc l cc), (ib, MBox ry cy tb m cb), (ia, MBox rx cx ta n ca)] [fun W => FlM W tc l cc zs, fun W => FlM W tb m cb ys, fun W => FlM W ta n ca xs]) → (W.cell? ⟨ia, 0, none⟩ = some (.int .i64 rx) ∧ W.cell? ⟨ia, 1, none⟩ = some (.int .i64 cx) ∧ W.cell? ⟨ia, 2, none⟩ = some (.slice ta n ca)) ∧ Hid (FrQ w W [(ic, MBox rz cz tc l cc), (ib, MBox ry cy tb m cb), (ia, MBox rx cx ta n ca)] [fun W => FlM W tc l cc zs, fun W => FlM W tb m cb ys, fun W => FlM W ta n ca xs])) := fun W hW => by
              obtain ⟨a00, a01, a02⟩ := mcells_of (hW.out.at 2 rfl : W.heap[ia]? = some (MBox rx cx ta n ca))
              exact ⟨⟨a00, a01, a02⟩, hW⟩
            have HQ0 : Hid (FrQ w wc.drew [(ic, MBox rz cz tc l cc), (ib, MBox ry cy tb m cb), (ia, MBox rx cx ta n ca)] [fun W => FlM W tc l cc zs, fun W => FlM W tb m cb ys, fun W => FlM W ta n ca xs]) := HF.out.drew
            have HQS0 : Hid (FrQ w wc.drew [(ic, MBox rz cz tc l cc), (ib, MBox ry cy tb m cb), (ia, MBox rx cx ta n ca)] [fun W => FlM W tc l cc zs, fun W => FlM W tb m cb ys, fun W => FlM W ta n ca xs]) := HQ0.out.sub (.cons_cons _ (.cons_cons _ (.cons_cons _ .slnil))) (.cons_cons _ (.cons_cons _ (.cons_cons _ .slnil)))
            go_wp2_with fail
            refine wp_region_held_drew (S := fun W => (W.cell? ⟨ia, 0, none⟩ = some (.int .i64 rx) ∧ W.cell? ⟨ia, 1, none⟩ = some (.int .i64 cx) ∧ W.cell? ⟨ia, 2, none⟩ = some (.slice ta n ca)) ∧ Hid (FrQ w W [(ic, MBox rz cz tc l cc), (ib, MBox ry cy tb m cb), (ia, MBox rx cx ta n ca)] [fun W => FlM W tc l cc zs, fun W => FlM W tb m cb ys, fun W => FlM W ta n ca xs])) (by kernel_rfl) (HKT.out _ HQS0) (fun hHeld => ?_)
            refine take_at 0 67 (.int .i64 (k0)) rfl rfl (by kernel_rfl) (by kernel_rfl) (by kernel_rfl) (fun _ _ _ h => h) (Or.inl ⟨by rfl, fun w hSw => by (try dsimp only at hSw); go_simp⟩) (by assumption) ?_
            simp only [Act.put, List.setIfInBounds_toArray, List.set_cons_zero, List.set_cons_succ]
            refine take_at 1 68 (.pointer (some ⟨ia, 1, none⟩)) rfl rfl (by kernel_rfl) (by kernel_rfl) (by kernel_rfl) (fun _ _ _ h => h) (Or.inl ⟨by rfl, fun w hSw => by (try dsimp only at hSw); go_simp⟩) (by assumption) ?_
            simp only [Act.put, List.setIfInBounds_toArray, List.set_cons_zero, List.set_cons_succ]
            refine take_at 2 69 (.int .i64 (cx)) rfl rfl (by kernel_rfl) (by kernel_rfl) (by kernel_rfl) (fun _ _ _ h => h) (Or.inl ⟨by rfl, fun w hSw => by (try dsimp only at hSw); go_simp⟩) (by assumption) ?_
            simp only [Act.put, List.setIfInBounds_toArray, List.set_cons_zero, List.set_cons_succ]
            refine take_at 3 70 (.int .i64 (cx + 1)) rfl rfl (by kernel_rfl) (by kernel_rfl) (by kernel_rfl) (fun _ _ _ h => h) (Or.inl ⟨by rfl, fun w hSw => by (try dsimp only at hSw); go_simp; exact IntWalk.i64_in _ (by omega)⟩) (by assumption) ?_
            simp only [Act.put, List.setIfInBounds_toArray, List.set_cons_zero, List.set_cons_succ]
            refine take_at 4 71 (.int .i64 (M0)) rfl rfl (by kernel_rfl) (by kernel_rfl) (by kernel_rfl) (fun _ _ _ h => h) (Or.inl ⟨by rfl, fun w hSw => by (try dsimp only at hSw); go_simp; rw [if_neg (by omega), hM0.out]⟩) (by assumption) ?_
            simp only [Act.put, List.setIfInBounds_toArray, List.set_cons_zero, List.set_cons_succ]
            refine take_at 5 72 (.pointer (some ⟨ia, 1, none⟩)) rfl rfl (by kernel_rfl) (by kernel_rfl) (by kernel_rfl) (fun _ _ _ h => h) (Or.inl ⟨by rfl, fun w hSw => by (try dsimp only at hSw); go_simp⟩) (by assumption) ?_
            simp only [Act.put, List.setIfInBounds_toArray, List.set_cons_zero, List.set_cons_succ]
            refine take_at 6 73 (.int .i64 (cx)) rfl rfl (by kernel_rfl) (by kernel_rfl) (by kernel_rfl) (fun _ _ _ h => h) (Or.inl ⟨by rfl, fun w hSw => by (try dsimp only at hSw); go_simp⟩) (by assumption) ?_
            simp only [Act.put, List.setIfInBounds_toArray, List.set_cons_zero, List.set_cons_succ]
            refine take_at 7 74 (.int .i64 (M0 + cx)) rfl rfl (by kernel_rfl) (by kernel_rfl) (by kernel_rfl) (fun _ _ _ h => h) (Or.inl ⟨by rfl, fun w hSw => by (try dsimp only at hSw); go_simp; exact IntWalk.i64_in _ (by omega)⟩) (by assumption) ?_
            simp only [Act.put, List.setIfInBounds_toArray, List.set_cons_zero, List.set_cons_succ]
            refine take_at 8 75 (.int .i64 (M0 + cx + 1)) rfl rfl (by kernel_rfl) (by kernel_rfl) (by kernel_rfl) (fun _ _ _ h => h) (Or.inl ⟨by rfl, fun w hSw => by (try dsimp only at hSw); go_simp; exact IntWalk.i64_in _ (by omega)⟩) (by assumption) ?_
            simp only [Act.put, List.setIfInBounds_toArray, List.set_cons_zero, List.set_cons_succ]
            refine take_at 9 76 (.pointer (some ⟨ia, 1, none⟩)) rfl rfl (by kernel_rfl) (by kernel_rfl) (by kernel_rfl) (fun _ _ _ h => h) (Or.inl ⟨by rfl, fun w hSw => by (try dsimp only at hSw); go_simp⟩) (by assumption) ?_
            simp only [Act.put, List.setIfInBounds_toArray, List.set_cons_zero, List.set_cons_succ]
            refine take_at 10 77 (.int .i64 (cx)) rfl rfl (by kernel_rfl) (by kernel_rfl) (by kernel_rfl) (fun _ _ _ h => h) (Or.inl ⟨by rfl, fun w hSw => by (try dsimp only at hSw); go_simp⟩) (by assumption) ?_
            simp only [Act.put, List.setIfInBounds_toArray, List.set_cons_zero, List.set_cons_succ]
            refine take_at 11 78 (.int .i64 (cx + 1)) rfl rfl (by kernel_rfl) (by kernel_rfl) (by kernel_rfl) (fun _ _ _ h => h) (Or.inl ⟨by rfl, fun w hSw => by (try dsimp only at hSw); go_simp; exact IntWalk.i64_in _ (by omega)⟩) (by assumption) ?_
            simp only [Act.put, List.setIfInBounds_toArray, List.set_cons_zero, List.set_cons_succ]
            refine take_at 12 79 (.int .i64 ((KK : Int))) rfl rfl (by kernel_rfl) (by kernel_rfl) (by kernel_rfl) (fun _ _ _ h => h) (Or.inl ⟨by rfl, fun w hSw => by (try dsimp only at hSw); go_simp; omega⟩) (by assumption) ?_
            simp only [Act.put, List.setIfInBounds_toArray, List.set_cons_zero, List.set_cons_succ]
            refine take_at 13 3 (.int .i64 ((KK : Int))) rfl rfl (by kernel_rfl) (by kernel_rfl) (by kernel_rfl) (fun _ _ _ h => h) (Or.inl ⟨by rfl, fun w hSw => by (try dsimp only at hSw); go_simp⟩) (by assumption) ?_
            simp only [Act.put, List.setIfInBounds_toArray, List.set_cons_zero, List.set_cons_succ]
            refine wpAnyH_done (by kernel_rfl) ?_ _
            have HF : Hid (FrQ w wc.drew [(ic, MBox rz cz tc l cc), (ib, MBox ry cy tb m cb), (ia, MBox rx cx ta n ca)] [fun W => FlM W tc l cc zs, fun W => FlM W tb m cb ys, fun W => FlM W ta n ca xs]) := HQ0.out
            clear HKT HQ0 HQS0
            have HKC := hid hK1
            clear hK2 hK3 hK4 hM0 hc0 hc12 hkk hK1
            obtain ⟨c00, c01, c02⟩ := mcells_of (HF.out.at 2 rfl : wc.drew.heap[ia]? = some (MBox rx cx ta n ca))
            go_wp2_with fail
            refine (Block_in (i := 0) (j := 0) (a := r) (b := KK) HRX.out HCX.out (HF.out.get (g := fun W => FlM W ta n ca xs) 2 rfl) HT0.out (by omega) (by have := HKC.out; omega) rfl rfl HRX.out rfl).mono ?_
            rintro e u3 ⟨⟨A0, A1, A2, A3, A4, rfl, hres⟩, hb⟩
            have HF : Hid (FrQ w u3 [(ic, MBox rz cz tc l cc), (ib, MBox ry cy tb m cb), (ia, MBox rx cx ta n ca)] [fun W => FlM W tc l cc zs, fun W => FlM W tb m cb ys, fun W => FlM W ta n ca xs]) := HF.out.call hb
            have HF : Hid (FrQ w u3 [(ic, MBox rz cz tc l cc), (ib, MBox ry cy tb m cb), (ia, MBox rx cx ta n ca)] [fun W => ResM 0 r KK (fun u v => canonOf (xs.getD ((0 + u) * c + (0 + v)) 0)) W A0 A1 A2 A3 A4, fun W => FlM W tc l cc zs, fun W => FlM W tb m cb ys, fun W => FlM W ta n ca xs]) := HF.out.add (kept_res _ _ _ _ _ _ _ _ _) hres
            clear hb
            clear hres
            have HF : Hid (FrQ w (u3.alloc (MBox A0 A1 A2 A3 A4)) [(u3.heap.size, MBox A0 A1 A2 A3 A4), (ic, MBox rz cz tc l cc), (ib, MBox ry cy tb m cb), (ia, MBox rx cx ta n ca)] [fun W => ResM 0 r KK (fun u v => canonOf (xs.getD ((0 + u) * c + (0 + v)) 0)) W A0 A1 A2 A3 A4, fun W => FlM W tc l cc zs, fun W => FlM W tb m cb ys, fun W => FlM W ta n ca xs]) := HF.out.alloc _
            obtain ⟨V4, hV4⟩ : ∃ V, Hid (u3.alloc (MBox A0 A1 A2 A3 A4) = V) := ⟨_, rfl⟩
            obtain ⟨xA, hxA⟩ : ∃ t, Hid (u3.heap.size = t) := ⟨_, rfl⟩
            rw [hV4.out, hxA.out] at HF
            have hV4' := hV4.out
            unfold MBox at hV4'
            have hxA' := hxA.out
            obtain ⟨c00, c01, c02⟩ := mcells_of (HF.out.at 3 rfl : V4.heap[ia]? = some (MBox rx cx ta n ca))
            go_wp2_with fail
            refine (Block_in (i := 0) (j := KK) (a := r) (b := c - KK) HRX.out HCX.out (HF.out.get (g := fun W => FlM W ta n ca xs) 3 rfl) HT0.out (by omega) (by have := HKC.out; omega) rfl rfl HRX.out (by have h1 := HCX.out; have h2 := HKC.out; have h3 := HR12.out; rw [wrap64_in _ (by omega)]; omega)).mono ?_
            rintro e u5 ⟨⟨B0, B1, B2, B3, B4, rfl, hres⟩, hb⟩
            have HF : Hid (FrQ w u5 [(xA, MBox A0 A1 A2 A3 A4), (ic, MBox rz cz tc l cc), (ib, MBox ry cy tb m cb), (ia, MBox rx cx ta n ca)] [fun W => ResM 0 r KK (fun u v => canonOf (xs.getD ((0 + u) * c + (0 + v)) 0)) W A0 A1 A2 A3 A4, fun W => FlM W tc l cc zs, fun W => FlM W tb m cb ys, fun W => FlM W ta n ca xs]) := HF.out.call hb
            have HF : Hid (FrQ w u5 [(xA, MBox A0 A1 A2 A3 A4), (ic, MBox rz cz tc l cc), (ib, MBox ry cy tb m cb), (ia, MBox rx cx ta n ca)] [fun W => ResM 0 r (c - KK) (fun u v => canonOf (xs.getD ((0 + u) * c + (KK + v)) 0)) W B0 B1 B2 B3 B4, fun W => ResM 0 r KK (fun u v => canonOf (xs.getD ((0 + u) * c + (0 + v)) 0)) W A0 A1 A2 A3 A4, fun W => FlM W tc l cc zs, fun W => FlM W tb m cb ys, fun W => FlM W ta n ca xs]) := HF.out.add (kept_res _ _ _ _ _ _ _ _ _) hres
            clear hb
            clear hres
            have HF : Hid (FrQ w (u5.alloc (MBox B0 B1 B2 B3 B4)) [(u5.heap.size, MBox B0 B1 B2 B3 B4), (xA, MBox A0 A1 A2 A3 A4), (ic, MBox rz cz tc l cc), (ib, MBox ry cy tb m cb), (ia, MBox rx cx ta n ca)] [fun W => ResM 0 r (c - KK) (fun u v => canonOf (xs.getD ((0 + u) * c + (KK + v)) 0)) W B0 B1 B2 B3 B4, fun W => ResM 0 r KK (fun u v => canonOf (xs.getD ((0 + u) * c + (0 + v)) 0)) W A0 A1 A2 A3 A4, fun W => FlM W tc l cc zs, fun W => FlM W tb m cb ys, fun W => FlM W ta n ca xs]) := HF.out.alloc _
            obtain ⟨V6, hV6⟩ : ∃ V, Hid (u5.alloc (MBox B0 B1 B2 B3 B4) = V) := ⟨_, rfl⟩
            obtain ⟨xB, hxB⟩ : ∃ t, Hid (u5.heap.size = t) := ⟨_, rfl⟩
            rw [hV6.out, hxB.out] at HF
            have hV6' := hV6.out
            unfold MBox at hV6'
            have hxB' := hxB.out
            obtain ⟨c00, c01, c02⟩ := mcells_of (HF.out.at 1 rfl : V6.heap[xA]? = some (MBox A0 A1 A2 A3 A4))
            obtain ⟨c10, c11, c12⟩ := mcells_of (HF.out.at 0 rfl : V6.heap[xB]? = some (MBox B0 B1 B2 B3 B4))
            go_wp2_with fail
            refine (Beside_res (r := r) (c := KK) (c2 := c - KK) HR12.out.1 (by have h2 := HKC.out; have h3 := HR12.out; omega) (HF.out.get (g := fun W => ResM 0 r KK (fun u v => canonOf (xs.getD ((0 + u) * c + (0 + v)) 0)) W A0 A1 A2 A3 A4) 1 rfl) (HF.out.get (g := fun W => ResM 0 r (c - KK) (fun u v => canonOf (xs.getD ((0 + u) * c + (KK + v)) 0)) W B0 B1 B2 B3 B4) 0 rfl)).mono ?_
            rintro e u7 ⟨⟨C0, C1, C2, C3, C4, rfl, hres⟩, hb⟩
            have HF : Hid (FrQ w u7 [(xB, MBox B0 B1 B2 B3 B4), (xA, MBox A0 A1 A2 A3 A4), (ic, MBox rz cz tc l cc), (ib, MBox ry cy tb m cb), (ia, MBox rx cx ta n ca)] [fun W => ResM 0 r (c - KK) (fun u v => canonOf (xs.getD ((0 + u) * c + (KK + v)) 0)) W B0 B1 B2 B3 B4, fun W => ResM 0 r KK (fun u v => canonOf (xs.getD ((0 + u) * c + (0 + v)) 0)) W A0 A1 A2 A3 A4, fun W => FlM W tc l cc zs, fun W => FlM W tb m cb ys, fun W => FlM W ta n ca xs]) := HF.out.call hb
            have HF : Hid (FrQ w u7 [(xB, MBox B0 B1 B2 B3 B4), (xA, MBox A0 A1 A2 A3 A4), (ic, MBox rz cz tc l cc), (ib, MBox ry cy tb m cb), (ia, MBox rx cx ta n ca)] [fun W => ResM 0 r c (sideV KK (fun u v => canonOf (xs.getD ((0 + u) * c + (0 + v)) 0)) (fun u v => canonOf (xs.getD ((0 + u) * c + (KK + v)) 0))) W C0 C1 C2 C3 C4, fun W => ResM 0 r (c - KK) (fun u v => canonOf (xs.getD ((0 + u) * c + (KK + v)) 0)) W B0 B1 B2 B3 B4, fun W => ResM 0 r KK (fun u v => canonOf (xs.getD ((0 + u) * c + (0 + v)) 0)) W A0 A1 A2 A3 A4, fun W => FlM W tc l cc zs, fun W => FlM W tb m cb ys, fun W => FlM W ta n ca xs]) := HF.out.add (kept_res _ _ _ _ _ _ _ _ _) (by rw [show KK + (c - KK) = c by have h2 := HKC.out; omega] at hres; exact hres)
            clear hb
            clear hres
            have HF : Hid (FrQ w (u7.alloc (MBox C0 C1 C2 C3 C4)) [(u7.heap.size, MBox C0 C1 C2 C3 C4), (xB, MBox B0 B1 B2 B3 B4), (xA, MBox A0 A1 A2 A3 A4), (ic, MBox rz cz tc l cc), (ib, MBox ry cy tb m cb), (ia, MBox rx cx ta n ca)] [fun W => ResM 0 r c (sideV KK (fun u v => canonOf (xs.getD ((0 + u) * c + (0 + v)) 0)) (fun u v => canonOf (xs.getD ((0 + u) * c + (KK + v)) 0))) W C0 C1 C2 C3 C4, fun W => ResM 0 r (c - KK) (fun u v => canonOf (xs.getD ((0 + u) * c + (KK + v)) 0)) W B0 B1 B2 B3 B4, fun W => ResM 0 r KK (fun u v => canonOf (xs.getD ((0 + u) * c + (0 + v)) 0)) W A0 A1 A2 A3 A4, fun W => FlM W tc l cc zs, fun W => FlM W tb m cb ys, fun W => FlM W ta n ca xs]) := HF.out.alloc _
            obtain ⟨V8, hV8⟩ : ∃ V, Hid (u7.alloc (MBox C0 C1 C2 C3 C4) = V) := ⟨_, rfl⟩
            obtain ⟨xC, hxC⟩ : ∃ t, Hid (u7.heap.size = t) := ⟨_, rfl⟩
            rw [hV8.out, hxC.out] at HF
            have hV8' := hV8.out
            unfold MBox at hV8'
            have hxC' := hxC.out
            have HF : Hid (FrQ w V8 [(xC, MBox C0 C1 C2 C3 C4), (ic, MBox rz cz tc l cc), (ib, MBox ry cy tb m cb), (ia, MBox rx cx ta n ca)] [fun W => ResM 0 r c (sideV KK (fun u v => canonOf (xs.getD ((0 + u) * c + (0 + v)) 0)) (fun u v => canonOf (xs.getD ((0 + u) * c + (KK + v)) 0))) W C0 C1 C2 C3 C4, fun W => FlM W tc l cc zs, fun W => FlM W tb m cb ys, fun W => FlM W ta n ca xs]) := HF.out.sub (.cons_cons _ (.cons _ (.cons _ (.cons_cons _ (.cons_cons _ (.cons_cons _ .slnil)))))) (.cons_cons _ (.cons _ (.cons _ (.cons_cons _ (.cons_cons _ (.cons_cons _ .slnil))))))
            have hrr : rx = (r : Int) := HRX.out
            have hrl := HR12.out.1
            obtain ⟨K2, hk2, hk3⟩ : ∃ K2 : Nat, K2 ≤ r ∧ ((KK : Int)).tmod (rx + 1) = (K2 : Int) := by
              have h0 := Int.tmod_nonneg ((r : Int) + 1) (show 0 ≤ (KK : Int) by omega)
              have h1 := Int.tmod_lt_of_pos (KK : Int) (show 0 < (r : Int) + 1 by omega)
              obtain ⟨K2, e⟩ := Int.eq_ofNat_of_zero_le h0
              exact ⟨K2, by omega, by rw [hrr]; exact e⟩
            have hw1 : IntKind.i64.wrap (rx + 1) = rx + 1 := IntWalk.i64_in _ (by omega)
            have hnz : ¬ (rx + 1 = 0) := by omega
            have HK2 := hid hk2
            clear hk2 hrr hrl
            obtain ⟨c00, c01, c02⟩ := mcells_of (HF.out.at 3 rfl : V8.heap[ia]? = some (MBox rx cx ta n ca))
            go_wp2_with fail
            refine (Block_in (i := 0) (j := 0) (a := K2) (b := c) HRX.out HCX.out (HF.out.get (g := fun W => FlM W ta n ca xs) 3 rfl) HT0.out (by have := HK2.out; omega) (by omega) rfl rfl (by first | exact hk3 | rfl) HCX.out).mono ?_
            rintro e u9 ⟨⟨D0, D1, D2, D3, D4, rfl, hres⟩, hb⟩
            have HF : Hid (FrQ w u9 [(xC, MBox C0 C1 C2 C3 C4), (ic, MBox rz cz tc l cc), (ib, MBox ry cy tb m cb), (ia, MBox rx cx ta n ca)] [fun W => ResM 0 r c (sideV KK (fun u v => canonOf (xs.getD ((0 + u) * c + (0 + v)) 0)) (fun u v => canonOf (xs.getD ((0 + u) * c + (KK + v)) 0))) W C0 C1 C2 C3 C4, fun W => FlM W tc l cc zs, fun W => FlM W tb m cb ys, fun W => FlM W ta n ca xs]) := HF.out.call hb
            have HF : Hid (FrQ w u9 [(xC, MBox C0 C1 C2 C3 C4), (ic, MBox rz cz tc l cc), (ib, MBox ry cy tb m cb), (ia, MBox rx cx ta n ca)] [fun W => ResM 0 K2 c (fun u v => canonOf (xs.getD ((0 + u) * c + (0 + v)) 0)) W D0 D1 D2 D3 D4, fun W => ResM 0 r c (sideV KK (fun u v => canonOf (xs.getD ((0 + u) * c + (0 + v)) 0)) (fun u v => canonOf (xs.getD ((0 + u) * c + (KK + v)) 0))) W C0 C1 C2 C3 C4, fun W => FlM W tc l cc zs, fun W => FlM W tb m cb ys, fun W => FlM W ta n ca xs]) := HF.out.add (kept_res _ _ _ _ _ _ _ _ _) hres
            clear hb
            clear hres
            have HF : Hid (FrQ w (u9.alloc (MBox D0 D1 D2 D3 D4)) [(u9.heap.size, MBox D0 D1 D2 D3 D4), (xC, MBox C0 C1 C2 C3 C4), (ic, MBox rz cz tc l cc), (ib, MBox ry cy tb m cb), (ia, MBox rx cx ta n ca)] [fun W => ResM 0 K2 c (fun u v => canonOf (xs.getD ((0 + u) * c + (0 + v)) 0)) W D0 D1 D2 D3 D4, fun W => ResM 0 r c (sideV KK (fun u v => canonOf (xs.getD ((0 + u) * c + (0 + v)) 0)) (fun u v => canonOf (xs.getD ((0 + u) * c + (KK + v)) 0))) W C0 C1 C2 C3 C4, fun W => FlM W tc l cc zs, fun W => FlM W tb m cb ys, fun W => FlM W ta n ca xs]) := HF.out.alloc _
            obtain ⟨V10, hV10⟩ : ∃ V, Hid (u9.alloc (MBox D0 D1 D2 D3 D4) = V) := ⟨_, rfl⟩
            obtain ⟨xA, hxA⟩ : ∃ t, Hid (u9.heap.size = t) := ⟨_, rfl⟩
            rw [hV10.out, hxA.out] at HF
            have hV10' := hV10.out
            unfold MBox at hV10'
            have hxA' := hxA.out
            obtain ⟨c00, c01, c02⟩ := mcells_of (HF.out.at 4 rfl : V10.heap[ia]? = some (MBox rx cx ta n ca))
            go_wp2_with fail
            refine (Block_in (i := K2) (j := 0) (a := r - K2) (b := c) HRX.out HCX.out (HF.out.get (g := fun W => FlM W ta n ca xs) 4 rfl) HT0.out (by have := HK2.out; omega) (by omega) (by first | exact hk3 | rfl) rfl (by have h1 := HRX.out; have h2 := HK2.out; have h3 := HR12.out; rw [wrap64_in _ (by omega)]; omega) HCX.out).mono ?_
            rintro e u11 ⟨⟨E0, E1, E2, E3, E4, rfl, hres⟩, hb⟩
            have HF : Hid (FrQ w u11 [(xA, MBox D0 D1 D2 D3 D4), (xC, MBox C0 C1 C2 C3 C4), (ic, MBox rz cz tc l cc), (ib, MBox ry cy tb m cb), (ia, MBox rx cx ta n ca)] [fun W => ResM 0 K2 c (fun u v => canonOf (xs.getD ((0 + u) * c + (0 + v)) 0)) W D0 D1 D2 D3 D4, fun W => ResM 0 r c (sideV KK (fun u v => canonOf (xs.getD ((0 + u) * c + (0 + v)) 0)) (fun u v => canonOf (xs.getD ((0 + u) * c + (KK + v)) 0))) W C0 C1 C2 C3 C4, fun W => FlM W tc l cc zs, fun W => FlM W tb m cb ys, fun W => FlM W ta n ca xs]) := HF.out.call hb
            have HF : Hid (FrQ w u11 [(xA, MBox D0 D1 D2 D3 D4), (xC, MBox C0 C1 C2 C3 C4), (ic, MBox rz cz tc l cc), (ib, MBox ry cy tb m cb), (ia, MBox rx cx ta n ca)] [fun W => ResM 0 (r - K2) c (fun u v => canonOf (xs.getD ((K2 + u) * c + (0 + v)) 0)) W E0 E1 E2 E3 E4, fun W => ResM 0 K2 c (fun u v => canonOf (xs.getD ((0 + u) * c + (0 + v)) 0)) W D0 D1 D2 D3 D4, fun W => ResM 0 r c (sideV KK (fun u v => canonOf (xs.getD ((0 + u) * c + (0 + v)) 0)) (fun u v => canonOf (xs.getD ((0 + u) * c + (KK + v)) 0))) W C0 C1 C2 C3 C4, fun W => FlM W tc l cc zs, fun W => FlM W tb m cb ys, fun W => FlM W ta n ca xs]) := HF.out.add (kept_res _ _ _ _ _ _ _ _ _) hres
            clear hb
            clear hres
            have HF : Hid (FrQ w (u11.alloc (MBox E0 E1 E2 E3 E4)) [(u11.heap.size, MBox E0 E1 E2 E3 E4), (xA, MBox D0 D1 D2 D3 D4), (xC, MBox C0 C1 C2 C3 C4), (ic, MBox rz cz tc l cc), (ib, MBox ry cy tb m cb), (ia, MBox rx cx ta n ca)] [fun W => ResM 0 (r - K2) c (fun u v => canonOf (xs.getD ((K2 + u) * c + (0 + v)) 0)) W E0 E1 E2 E3 E4, fun W => ResM 0 K2 c (fun u v => canonOf (xs.getD ((0 + u) * c + (0 + v)) 0)) W D0 D1 D2 D3 D4, fun W => ResM 0 r c (sideV KK (fun u v => canonOf (xs.getD ((0 + u) * c + (0 + v)) 0)) (fun u v => canonOf (xs.getD ((0 + u) * c + (KK + v)) 0))) W C0 C1 C2 C3 C4, fun W => FlM W tc l cc zs, fun W => FlM W tb m cb ys, fun W => FlM W ta n ca xs]) := HF.out.alloc _
            obtain ⟨V12, hV12⟩ : ∃ V, Hid (u11.alloc (MBox E0 E1 E2 E3 E4) = V) := ⟨_, rfl⟩
            obtain ⟨xB, hxB⟩ : ∃ t, Hid (u11.heap.size = t) := ⟨_, rfl⟩
            rw [hV12.out, hxB.out] at HF
            have hV12' := hV12.out
            unfold MBox at hV12'
            have hxB' := hxB.out
            obtain ⟨c00, c01, c02⟩ := mcells_of (HF.out.at 1 rfl : V12.heap[xA]? = some (MBox D0 D1 D2 D3 D4))
            obtain ⟨c10, c11, c12⟩ := mcells_of (HF.out.at 0 rfl : V12.heap[xB]? = some (MBox E0 E1 E2 E3 E4))
            go_wp2_with fail
            refine (Stack_res (r := K2) (r2 := r - K2) (c := c) HR12.out.2 (by have h2 := HK2.out; have h3 := HR12.out; omega) (HF.out.get (g := fun W => ResM 0 K2 c (fun u v => canonOf (xs.getD ((0 + u) * c + (0 + v)) 0)) W D0 D1 D2 D3 D4) 1 rfl) (HF.out.get (g := fun W => ResM 0 (r - K2) c (fun u v => canonOf (xs.getD ((K2 + u) * c + (0 + v)) 0)) W E0 E1 E2 E3 E4) 0 rfl)).mono ?_
            rintro e u13 ⟨⟨F0, F1, F2, F3, F4, rfl, hres⟩, hb⟩
            have HF : Hid (FrQ w u13 [(xB, MBox E0 E1 E2 E3 E4), (xA, MBox D0 D1 D2 D3 D4), (xC, MBox C0 C1 C2 C3 C4), (ic, MBox rz cz tc l cc), (ib, MBox ry cy tb m cb), (ia, MBox rx cx ta n ca)] [fun W => ResM 0 (r - K2) c (fun u v => canonOf (xs.getD ((K2 + u) * c + (0 + v)) 0)) W E0 E1 E2 E3 E4, fun W => ResM 0 K2 c (fun u v => canonOf (xs.getD ((0 + u) * c + (0 + v)) 0)) W D0 D1 D2 D3 D4, fun W => ResM 0 r c (sideV KK (fun u v => canonOf (xs.getD ((0 + u) * c + (0 + v)) 0)) (fun u v => canonOf (xs.getD ((0 + u) * c + (KK + v)) 0))) W C0 C1 C2 C3 C4, fun W => FlM W tc l cc zs, fun W => FlM W tb m cb ys, fun W => FlM W ta n ca xs]) := HF.out.call hb
            have HF : Hid (FrQ w u13 [(xB, MBox E0 E1 E2 E3 E4), (xA, MBox D0 D1 D2 D3 D4), (xC, MBox C0 C1 C2 C3 C4), (ic, MBox rz cz tc l cc), (ib, MBox ry cy tb m cb), (ia, MBox rx cx ta n ca)] [fun W => ResM 0 r c (overV K2 (fun u v => canonOf (xs.getD ((0 + u) * c + (0 + v)) 0)) (fun u v => canonOf (xs.getD ((K2 + u) * c + (0 + v)) 0))) W F0 F1 F2 F3 F4, fun W => ResM 0 (r - K2) c (fun u v => canonOf (xs.getD ((K2 + u) * c + (0 + v)) 0)) W E0 E1 E2 E3 E4, fun W => ResM 0 K2 c (fun u v => canonOf (xs.getD ((0 + u) * c + (0 + v)) 0)) W D0 D1 D2 D3 D4, fun W => ResM 0 r c (sideV KK (fun u v => canonOf (xs.getD ((0 + u) * c + (0 + v)) 0)) (fun u v => canonOf (xs.getD ((0 + u) * c + (KK + v)) 0))) W C0 C1 C2 C3 C4, fun W => FlM W tc l cc zs, fun W => FlM W tb m cb ys, fun W => FlM W ta n ca xs]) := HF.out.add (kept_res _ _ _ _ _ _ _ _ _) (by rw [show K2 + (r - K2) = r by have h2 := HK2.out; omega] at hres; exact hres)
            clear hb
            clear hres
            have HF : Hid (FrQ w (u13.alloc (MBox F0 F1 F2 F3 F4)) [(u13.heap.size, MBox F0 F1 F2 F3 F4), (xB, MBox E0 E1 E2 E3 E4), (xA, MBox D0 D1 D2 D3 D4), (xC, MBox C0 C1 C2 C3 C4), (ic, MBox rz cz tc l cc), (ib, MBox ry cy tb m cb), (ia, MBox rx cx ta n ca)] [fun W => ResM 0 r c (overV K2 (fun u v => canonOf (xs.getD ((0 + u) * c + (0 + v)) 0)) (fun u v => canonOf (xs.getD ((K2 + u) * c + (0 + v)) 0))) W F0 F1 F2 F3 F4, fun W => ResM 0 (r - K2) c (fun u v => canonOf (xs.getD ((K2 + u) * c + (0 + v)) 0)) W E0 E1 E2 E3 E4, fun W => ResM 0 K2 c (fun u v => canonOf (xs.getD ((0 + u) * c + (0 + v)) 0)) W D0 D1 D2 D3 D4, fun W => ResM 0 r c (sideV KK (fun u v => canonOf (xs.getD ((0 + u) * c + (0 + v)) 0)) (fun u v => canonOf (xs.getD ((0 + u) * c + (KK + v)) 0))) W C0 C1 C2 C3 C4, fun W => FlM W tc l cc zs, fun W => FlM W tb m cb ys, fun W => FlM W ta n ca xs]) := HF.out.alloc _
            obtain ⟨V14, hV14⟩ : ∃ V, Hid (u13.alloc (MBox F0 F1 F2 F3 F4) = V) := ⟨_, rfl⟩
            obtain ⟨xF, hxF⟩ : ∃ t, Hid (u13.heap.size = t) := ⟨_, rfl⟩
            rw [hV14.out, hxF.out] at HF
            have hV14' := hV14.out
            unfold MBox at hV14'
            have hxF' := hxF.out
            have HF : Hid (FrQ w V14 [(xF, MBox F0 F1 F2 F3 F4), (xC, MBox C0 C1 C2 C3 C4), (ic, MBox rz cz tc l cc), (ib, MBox ry cy tb m cb), (ia, MBox rx cx ta n ca)] [fun W => ResM 0 r c (overV K2 (fun u v => canonOf (xs.getD ((0 + u) * c + (0 + v)) 0)) (fun u v => canonOf (xs.getD ((K2 + u) * c + (0 + v)) 0))) W F0 F1 F2 F3 F4, fun W => ResM 0 r c (sideV KK (fun u v => canonOf (xs.getD ((0 + u) * c + (0 + v)) 0)) (fun u v => canonOf (xs.getD ((0 + u) * c + (KK + v)) 0))) W C0 C1 C2 C3 C4, fun W => FlM W tc l cc zs, fun W => FlM W tb m cb ys, fun W => FlM W ta n ca xs]) := HF.out.sub (.cons_cons _ (.cons _ (.cons _ (.cons_cons _ (.cons_cons _ (.cons_cons _ (.cons_cons _ .slnil))))))) (.cons_cons _ (.cons _ (.cons _ (.cons_cons _ (.cons_cons _ (.cons_cons _ (.cons_cons _ .slnil)))))))
            obtain ⟨c00, c01, c02⟩ := mcells_of (HF.out.at 4 rfl : V14.heap[ia]? = some (MBox rx cx ta n ca))
            obtain ⟨c10, c11, c12⟩ := mcells_of (HF.out.at 1 rfl : V14.heap[xC]? = some (MBox C0 C1 C2 C3 C4))
            go_wp2_with fail
            refine (alike_in HRX.out HCX.out (HF.out.get (g := fun W => ResM 0 r c (sideV KK (fun u v => canonOf (xs.getD ((0 + u) * c + (0 + v)) 0)) (fun u v => canonOf (xs.getD ((0 + u) * c + (KK + v)) 0))) W C0 C1 C2 C3 C4) 1 rfl) (HF.out.get (g := fun W => FlM W ta n ca xs) 4 rfl) HT0.out (fun i j hi _ => side_whole i j hi)).mono ?_
            rintro e u15 ⟨rfl, hb⟩
            have HF : Hid (FrQ w u15 [(xF, MBox F0 F1 F2 F3 F4), (xC, MBox C0 C1 C2 C3 C4), (ic, MBox rz cz tc l cc), (ib, MBox ry cy tb m cb), (ia, MBox rx cx ta n ca)] [fun W => ResM 0 r c (overV K2 (fun u v => canonOf (xs.getD ((0 + u) * c + (0 + v)) 0)) (fun u v => canonOf (xs.getD ((K2 + u) * c + (0 + v)) 0))) W F0 F1 F2 F3 F4, fun W => ResM 0 r c (sideV KK (fun u v => canonOf (xs.getD ((0 + u) * c + (0 + v)) 0)) (fun u v => canonOf (xs.getD ((0 + u) * c + (KK + v)) 0))) W C0 C1 C2 C3 C4, fun W => FlM W tc l cc zs, fun W => FlM W tb m cb ys, fun W => FlM W ta n ca xs]) := HF.out.call hb
            clear hb
            obtain ⟨c00, c01, c02⟩ := mcells_of (HF.out.at 4 rfl : u15.heap[ia]? = some (MBox rx cx ta n ca))
            obtain ⟨c10, c11, c12⟩ := mcells_of (HF.out.at 0 rfl : u15.heap[xF]? = some (MBox F0 F1 F2 F3 F4))
            go_wp2_with fail
            refine (alike_in HRX.out HCX.out (HF.out.get (g := fun W => ResM 0 r c (overV K2 (fun u v => canonOf (xs.getD ((0 + u) * c + (0 + v)) 0)) (fun u v => canonOf (xs.getD ((K2 + u) * c + (0 + v)) 0))) W F0 F1 F2 F3 F4) 0 rfl) (HF.out.get (g := fun W => FlM W ta n ca xs) 4 rfl) HT0.out (fun i j _ _ => over_whole i j)).mono ?_
            rintro e u16 ⟨rfl, hb⟩
            have HF : Hid (FrQ w u16 [(xF, MBox F0 F1 F2 F3 F4), (xC, MBox C0 C1 C2 C3 C4), (ic, MBox rz cz tc l cc), (ib, MBox ry cy tb m cb), (ia, MBox rx cx ta n ca)] [fun W => ResM 0 r c (overV K2 (fun u v => canonOf (xs.getD ((0 + u) * c + (0 + v)) 0)) (fun u v => canonOf (xs.getD ((K2 + u) * c + (0 + v)) 0))) W F0 F1 F2 F3 F4, fun W => ResM 0 r c (sideV KK (fun u v => canonOf (xs.getD ((0 + u) * c + (0 + v)) 0)) (fun u v => canonOf (xs.getD ((0 + u) * c + (KK + v)) 0))) W C0 C1 C2 C3 C4, fun W => FlM W tc l cc zs, fun W => FlM W tb m cb ys, fun W => FlM W ta n ca xs]) := HF.out.call hb
            clear hb
            have HF : Hid (FrQ w u16 [(ic, MBox rz cz tc l cc), (ib, MBox ry cy tb m cb), (ia, MBox rx cx ta n ca)] [fun W => FlM W tc l cc zs, fun W => FlM W tb m cb ys, fun W => FlM W ta n ca xs]) := HF.out.sub (.cons _ (.cons _ (.cons_cons _ (.cons_cons _ (.cons_cons _ .slnil))))) (.cons _ (.cons _ (.cons_cons _ (.cons_cons _ (.cons_cons _ .slnil)))))
            go_wp2_with fail
            go_meet
            exact HF
          · have hne : (chkM rx cx n xs == 0) = false := by simpa using hT0
            go_wp2_with fail
            go_meet
            exact HF
      case rest =>
      as_aux_lemma =>
      have HF := hcut
      clear hcut
      have HKT : Hid (∀ W, Hid (FrQ w W [(ic, MBox rz cz tc l cc), (ib, MBox ry cy tb m cb), (ia, MBox rx cx ta n ca)] [fun W => FlM W tc l cc zs, fun W => FlM W tb m cb ys, fun W => FlM W ta n ca xs]) → (W.cell? ⟨ia, 0, none⟩ = some (.int .i64 rx) ∧ W.cell? ⟨ia, 1, none⟩ = some (.int .i64 cx) ∧ W.cell? ⟨ia, 2, none⟩ = some (.slice ta n ca)) ∧ Hid (FrQ w W [(ic, MBox rz cz tc l cc), (ib, MBox ry cy tb m cb), (ia, MBox rx cx ta n ca)] [fun W => FlM W tc l cc zs, fun W => FlM W tb m cb ys, fun W => FlM W ta n ca xs])) := fun W hW => by
        obtain ⟨a00, a01, a02⟩ := mcells_of (hW.out.at 2 rfl : W.heap[ia]? = some (MBox rx cx ta n ca))
        exact ⟨⟨a00, a01, a02⟩, hW⟩
      have HQ0 : Hid (FrQ w wc.drew [(ic, MBox rz cz tc l cc), (ib, MBox ry cy tb m cb), (ia, MBox rx cx ta n ca)] [fun W => FlM W tc l cc zs, fun W => FlM W tb m cb ys, fun W => FlM W ta n ca xs]) := HF.out.drew
      have HQS0 : Hid (FrQ w wc.drew [(ic, MBox rz cz tc l cc), (ib, MBox ry cy tb m cb), (ia, MBox rx cx ta n ca)] [fun W => FlM W tc l cc zs, fun W => FlM W tb m cb ys, fun W => FlM W ta n ca xs]) := HQ0.out.sub (.cons_cons _ (.cons_cons _ (.cons_cons _ .slnil))) (.cons_cons _ (.cons_cons _ (.cons_cons _ .slnil)))
      go_wp2_with fail
      refine region_merge2 (fun a0 a' w' => ∃ (gr : Nat) (qa : Option Addr) (qc : Nat) (O0 O1 : Int) (O2 : Option Addr) (O3 O4 xo : Nat), a' = Act.put (Act.put (Act.put (Act.put (Act.put (Act.put (Act.put (Act.put (Act.put (Act.put (a0) (some 156) (.agg #[.int .i64 rx, .int .i64 cx, .slice ta n ca])) (some 157) (.slice (some ⟨gr, 0, none⟩) 0 0)) (some 158) (.slice pa q pc)) (some 159) (.slice qa q qc)) (some 160) (.tuple #[.agg #[.int .i64 O0, .int .i64 O1, .slice O2 O3 O4], .int .i64 OT])) (some 155) (.tuple #[.agg #[.int .i64 O0, .int .i64 O1, .slice O2 O3 O4], .int .i64 OT])) (some 161) (.agg #[.int .i64 O0, .int .i64 O1, .slice O2 O3 O4])) (some 162) (.int .i64 OT)) (some 27) (.pointer (some ⟨xo, 0, none⟩))) (some 28) (.int .i64 OT) ∧ FrQ w w' [(xo, MBox O0 O1 O2 O3 O4), (ic, MBox rz cz tc l cc), (ib, MBox ry cy tb m cb), (ia, MBox rx cx ta n ca)] [fun W => ResM OT rx.toNat rx.toNat (ordV xs ps rx.toNat) W O0 O1 O2 O3 O4, fun W => FlM W tc l cc zs, fun W => FlM W tb m cb ys, fun W => FlM W ta n ca xs]) (fun HR => ?_) ?_
      · as_aux_lemma =>
          simp only [Act.put, List.setIfInBounds_toArray, List.set_cons_zero, List.set_cons_succ] at HR
          refine wp_region_held_drew (S := fun W => (W.cell? ⟨ia, 0, none⟩ = some (.int .i64 rx) ∧ W.cell? ⟨ia, 1, none⟩ = some (.int .i64 cx) ∧ W.cell? ⟨ia, 2, none⟩ = some (.slice ta n ca)) ∧ Hid (FrQ w W [(ic, MBox rz cz tc l cc), (ib, MBox ry cy tb m cb), (ia, MBox rx cx ta n ca)] [fun W => FlM W tc l cc zs, fun W => FlM W tb m cb ys, fun W => FlM W ta n ca xs])) (by kernel_rfl) (HKT.out _ HQS0) (fun hHeld => ?_)
          refine take_at 0 156 (.agg #[.int .i64 rx, .int .i64 cx, .slice ta n ca]) rfl rfl (by kernel_rfl) (by kernel_rfl) (by kernel_rfl) (fun _ _ _ h => h) (Or.inl ⟨by rfl, fun w hSw => by (try dsimp only at hSw); go_simp⟩) (by assumption) ?_
          simp only [Act.put, List.setIfInBounds_toArray, List.set_cons_zero, List.set_cons_succ]
          refine take_at 2 158 (.slice pa q pc) rfl rfl (by kernel_rfl) (by kernel_rfl) (by kernel_rfl) (fun _ _ _ h => h) (Or.inl ⟨by rfl, fun w hSw => by (try dsimp only at hSw); go_simp⟩) (by assumption) ?_
          simp only [Act.put, List.setIfInBounds_toArray, List.set_cons_zero, List.set_cons_succ]
          refine wpAnyH_ready (rs := [1, 8]) (by kernel_rfl) (by simp) ?_
          refine AllReadyH.cons (o := _) rfl (fun K hK => ?_) (AllReadyH.cons (o := _) rfl (fun K hK => ?_) AllReadyH.nil)
          · have HQ1 := hid (HQ0.out.alloc (.cells #[] 3))
            go_simp
            go_wp2_with fail
            have HQS := hid (HQ1.out.sub (.cons _ (.cons_cons _ (.cons_cons _ (.cons_cons _ .slnil)))) (.cons_cons _ (.cons_cons _ (.cons_cons _ .slnil))))
            refine hK.out _ _ (HKT.out _ HQS) (fun hHeld1 => ?_)
            clear hK K HQS
            try simp only [Act.put, List.setIfInBounds_toArray, List.set_cons_zero, List.set_cons_succ]
            obtain ⟨t1, ht1⟩ : ∃ X, Hid (wc.drew.alloc (.cells #[] 3) = X) := ⟨_, rfl⟩
            obtain ⟨gr, hgr⟩ : ∃ X, Hid (wc.drew.heap.size = X) := ⟨_, rfl⟩
            rw [ht1.out, hgr.out] at HQ1
            have hy1 : (wc.alloc (.cells #[] 3)).drew = t1 := ht1.out
            have hy2 : wc.heap.size = gr := hgr.out
            rw [hy1]
            rw [hy2]
            clear hy1 hy2
            refine wpAnyH_ready (rs := [3, 8]) (by kernel_rfl) (by simp) ?_
            refine AllReadyH.cons (o := _) rfl (fun K hK => ?_) (AllReadyH.cons (o := _) rfl (fun K hK => ?_) AllReadyH.nil)
            · obtain ⟨qa, qc, t2, hrun, hq, hbq⟩ := HAP.out _ _ HQ1.out.bel (HQ1.out.at 0 rfl : t1.heap[gr]? = some (.cells #[] 3))
              have HIQ : Hid (∀ W, Below t2.heap.size t2 W → I64At W qa q ps) := fun W hW => hq.belo hW
              refine step_ape 25 rfl _ _ rfl (.slice (some ⟨gr, 0, none⟩) 0 0) (.slice pa q pc) (by first | rfl | (simp [Act.eval]; done) | (simp [Act.eval, Act.put]; done)) (by first | rfl | (simp [Act.eval]; done) | (simp [Act.eval, Act.put]; done)) hrun ?_
              have HQ2 := hid ((HQ1.out.call hbq).sub (.cons _ (.cons_cons _ (.cons_cons _ (.cons_cons _ .slnil)))) (.cons_cons _ (.cons_cons _ (.cons_cons _ .slnil))))
              clear hq hbq hrun
              have HQS := hid (HQ2.out.sub (.cons_cons _ (.cons_cons _ (.cons_cons _ .slnil))) (.cons_cons _ (.cons_cons _ (.cons_cons _ .slnil))))
              refine hK.out _ _ (HKT.out _ HQS) (fun hHeld2 => ?_)
              clear hK K HQS
              try simp only [Act.put, List.setIfInBounds_toArray]
              refine wpAnyH_ready (rs := [4, 8]) (by kernel_rfl) (by simp) ?_
              refine AllReadyH.cons (o := _) rfl (fun K hK => ?_) (AllReadyH.cons (o := _) rfl (fun K hK => ?_) AllReadyH.nil)
              · go_simp
                refine (HPO.out _ _ _ _ _ (HQ2.out.get (g := fun W => FlM W ta n ca xs) 2 rfl) (HIQ.out _ (by first | exact Below.refl _ _ | (rw [← ht2.out]; exact (Below.refl _ _).alloc (Nat.le_refl _) _)))).mono ?_
                rintro e t3 ⟨⟨O0, O1, O2, O3, O4, rfl, hres⟩, hbq⟩
                have HQ3 := hid (HQ2.out.call hbq)
                have HQ3 := hid (HQ3.out.add (g := fun W => ResM OT rx.toNat rx.toNat (ordV xs ps rx.toNat) W O0 O1 O2 O3 O4) (kept_res _ _ _ _ _ _ _ _ _) hres)
                clear hbq
                clear hres
                go_wp2_with fail
                have HQS := hid (HQ3.out.sub (.cons_cons _ (.cons_cons _ (.cons_cons _ .slnil))) (.cons _ (.cons_cons _ (.cons_cons _ (.cons_cons _ .slnil)))))
                refine hK.out _ _ (HKT.out _ HQS) (fun hHeld3 => ?_)
                clear hK K HQS
                try simp only [Act.put, List.setIfInBounds_toArray, List.set_cons_zero, List.set_cons_succ]
                refine take_at 5 155 (.tuple #[.agg #[.int .i64 O0, .int .i64 O1, .slice O2 O3 O4], .int .i64 OT]) rfl rfl (by kernel_rfl) (by kernel_rfl) (by kernel_rfl) (fun _ _ _ h => h) (Or.inl ⟨by rfl, fun w hSw => by (try dsimp only at hSw); go_simp⟩) (by assumption) ?_
                simp only [Act.put, List.setIfInBounds_toArray, List.set_cons_zero, List.set_cons_succ]
                refine take_at 6 161 (.agg #[.int .i64 O0, .int .i64 O1, .slice O2 O3 O4]) rfl rfl (by kernel_rfl) (by kernel_rfl) (by kernel_rfl) (fun _ _ _ h => h) (Or.inl ⟨by rfl, fun w hSw => by (try dsimp only at hSw); go_simp⟩) (by assumption) ?_
                simp only [Act.put, List.setIfInBounds_toArray, List.set_cons_zero, List.set_cons_succ]
                refine take_at 7 162 (.int .i64 OT) rfl rfl (by kernel_rfl) (by kernel_rfl) (by kernel_rfl) (fun _ _ _ h => h) (Or.inl ⟨by rfl, fun w hSw => by (try dsimp only at hSw); go_simp⟩) (by assumption) ?_
                simp only [Act.put, List.setIfInBounds_toArray, List.set_cons_zero, List.set_cons_succ]
                refine wpAnyH_ready (rs := [8]) (by kernel_rfl) (by simp) ?_
                refine AllReadyH.cons (o := _) rfl (fun K hK => ?_) AllReadyH.nil
                have HQ4 := hid (HQ3.out.alloc (MBox 0 0 none 0 0))
                go_simp
                go_wp2_with fail
                have HQS := hid (HQ4.out.sub (.cons _ (.cons_cons _ (.cons_cons _ (.cons_cons _ .slnil)))) (.cons _ (.cons_cons _ (.cons_cons _ (.cons_cons _ .slnil)))))
                refine hK.out _ _ (HKT.out _ HQS) (fun hHeld4 => ?_)
                clear hK K HQS
                try simp only [Act.put, List.setIfInBounds_toArray, List.set_cons_zero, List.set_cons_succ]
                obtain ⟨t4, ht4⟩ : ∃ X, Hid (t3.alloc (MBox 0 0 none 0 0) = X) := ⟨_, rfl⟩
                obtain ⟨xo, hxo⟩ : ∃ X, Hid (t3.heap.size = X) := ⟨_, rfl⟩
                rw [ht4.out, hxo.out] at HQ4
                have hy1 : t3.alloc (.cells #[.int .i64 0, .int .i64 0, .slice none 0 0] 29) = t4 := ht4.out
                have hy2 := hxo.out
                rw [hy1]
                rw [hy2]
                clear hy1 hy2
                refine wpAnyH_ready (rs := [9]) (by kernel_rfl) (by simp) ?_
                refine AllReadyH.cons (o := _) rfl (fun K hK => ?_) AllReadyH.nil
                obtain ⟨z0, z1, z2⟩ := mcells_of (HQ4.out.at 0 rfl : t4.heap[xo]? = some (MBox 0 0 none 0 0))
                have fz := frzM (HQ4.out.at 0 rfl : t4.heap[xo]? = some (MBox 0 0 none 0 0))
                have HQ5 : Hid (FrQ w (StoM t4 xo O0 O1 O2 O3 O4) [(xo, MBox O0 O1 O2 O3 O4), (ic, MBox rz cz tc l cc), (ib, MBox ry cy tb m cb), (ia, MBox rx cx ta n ca)] [fun W => ResM OT rx.toNat rx.toNat (ordV xs ps rx.toNat) W O0 O1 O2 O3 O4, fun W => FlM W tc l cc zs, fun W => FlM W tb m cb ys, fun W => FlM W ta n ca xs]) := HQ4.out.sto 0 rfl
                obtain ⟨U5, hU5⟩ : ∃ X, Hid ((StoM t4 xo O0 O1 O2 O3 O4) = X) := ⟨_, rfl⟩
                rw [hU5.out] at HQ5
                have hU5' := hU5.out
                unfold StoM at hU5'
                go_simp
                go_wp2_with fail
                have HQS := hid (HQ5.out.sub (.cons _ (.cons_cons _ (.cons_cons _ (.cons_cons _ .slnil)))) (.cons _ (.cons_cons _ (.cons_cons _ (.cons_cons _ .slnil)))))
                refine hK.out _ _ (HKT.out _ HQS) (fun hHeld5 => ?_)
                clear hK K HQS
                try simp only [Act.put, List.setIfInBounds_toArray, List.set_cons_zero, List.set_cons_succ]
                clear z0 z1 z2 fz
                refine take_at 10 28 (.int .i64 OT) rfl rfl (by kernel_rfl) (by kernel_rfl) (by kernel_rfl) (fun _ _ _ h => h) (Or.inl ⟨by rfl, fun w hSw => by (try dsimp only at hSw); go_simp⟩) (by assumption) ?_
                simp only [Act.put, List.setIfInBounds_toArray, List.set_cons_zero, List.set_cons_succ]
                refine wpAnyH_done (by kernel_rfl) ?_ _
                exact HR.out _ _ ⟨gr, qa, qc, O0, O1, O2, O3, O4, xo, rfl, HQ5.out⟩
              · have HQ3 := hid (HQ2.out.alloc (MBox 0 0 none 0 0))
                go_simp
                go_wp2_with fail
                have HQS := hid (HQ3.out.sub (.cons _ (.cons_cons _ (.cons_cons _ (.cons_cons _ .slnil)))) (.cons_cons _ (.cons_cons _ (.cons_cons _ .slnil))))
                refine hK.out _ _ (HKT.out _ HQS) (fun hHeld3 => ?_)
                clear hK K HQS
                try simp only [Act.put, List.setIfInBounds_toArray, List.set_cons_zero, List.set_cons_succ]
                obtain ⟨t3, ht3⟩ : ∃ X, Hid (t2.alloc (MBox 0 0 none 0 0) = X) := ⟨_, rfl⟩
                obtain ⟨xo, hxo⟩ : ∃ X, Hid (t2.heap.size = X) := ⟨_, rfl⟩
                rw [ht3.out, hxo.out] at HQ3
                have hy1 : t2.alloc (.cells #[.int .i64 0, .int .i64 0, .slice none 0 0] 29) = t3 := ht3.out
                have hy2 := hxo.out
                rw [hy1]
                rw [hy2]
                clear hy1 hy2
                refine wpAnyH_ready (rs := [4]) (by kernel_rfl) (by simp) ?_
                refine AllReadyH.cons (o := _) rfl (fun K hK => ?_) AllReadyH.nil
                go_simp
                refine (HPO.out _ _ _ _ _ (HQ3.out.get (g := fun W => FlM W ta n ca xs) 2 rfl) (HIQ.out _ (by first | exact Below.refl _ _ | (rw [← ht3.out]; exact (Below.refl _ _).alloc (Nat.le_refl _) _)))).mono ?_
                rintro e t4 ⟨⟨O0, O1, O2, O3, O4, rfl, hres⟩, hbq⟩
                have HQ4 := hid (HQ3.out.call hbq)
                have HQ4 := hid (HQ4.out.add (g := fun W => ResM OT rx.toNat rx.toNat (ordV xs ps rx.toNat) W O0 O1 O2 O3 O4) (kept_res _ _ _ _ _ _ _ _ _) hres)
                clear hbq
                clear hres
                go_wp2_with fail
                have HQS := hid (HQ4.out.sub (.cons _ (.cons_cons _ (.cons_cons _ (.cons_cons _ .slnil)))) (.cons _ (.cons_cons _ (.cons_cons _ (.cons_cons _ .slnil)))))
                refine hK.out _ _ (HKT.out _ HQS) (fun hHeld4 => ?_)
                clear hK K HQS
                try simp only [Act.put, List.setIfInBounds_toArray, List.set_cons_zero, List.set_cons_succ]
                refine take_at 5 155 (.tuple #[.agg #[.int .i64 O0, .int .i64 O1, .slice O2 O3 O4], .int .i64 OT]) rfl rfl (by kernel_rfl) (by kernel_rfl) (by kernel_rfl) (fun _ _ _ h => h) (Or.inl ⟨by rfl, fun w hSw => by (try dsimp only at hSw); go_simp⟩) (by assumption) ?_
                simp only [Act.put, List.setIfInBounds_toArray, List.set_cons_zero, List.set_cons_succ]
                refine take_at 6 161 (.agg #[.int .i64 O0, .int .i64 O1, .slice O2 O3 O4]) rfl rfl (by kernel_rfl) (by kernel_rfl) (by kernel_rfl) (fun _ _ _ h => h) (Or.inl ⟨by rfl, fun w hSw => by (try dsimp only at hSw); go_simp⟩) (by assumption) ?_
                simp only [Act.put, List.setIfInBounds_toArray, List.set_cons_zero, List.set_cons_succ]
                refine take_at 7 162 (.int .i64 OT) rfl rfl (by kernel_rfl) (by kernel_rfl) (by kernel_rfl) (fun _ _ _ h => h) (Or.inl ⟨by rfl, fun w hSw => by (try dsimp only at hSw); go_simp⟩) (by assumption) ?_
                simp only [Act.put, List.setIfInBounds_toArray, List.set_cons_zero, List.set_cons_succ]
                refine wpAnyH_ready (rs := [9]) (by kernel_rfl) (by simp) ?_
                refine AllReadyH.cons (o := _) rfl (fun K hK => ?_) AllReadyH.nil
                obtain ⟨z0, z1, z2⟩ := mcells_of (HQ4.out.at 0 rfl : t4.heap[xo]? = some (MBox 0 0 none 0 0))
                have fz := frzM (HQ4.out.at 0 rfl : t4.heap[xo]? = some (MBox 0 0 none 0 0))
                have HQ5 : Hid (FrQ w (StoM t4 xo O0 O1 O2 O3 O4) [(xo, MBox O0 O1 O2 O3 O4), (ic, MBox rz cz tc l cc), (ib, MBox ry cy tb m cb), (ia, MBox rx cx ta n ca)] [fun W => ResM OT rx.toNat rx.toNat (ordV xs ps rx.toNat) W O0 O1 O2 O3 O4, fun W => FlM W tc l cc zs, fun W => FlM W tb m cb ys, fun W => FlM W ta n ca xs]) := HQ4.out.sto 0 rfl
                obtain ⟨U5, hU5⟩ : ∃ X, Hid ((StoM t4 xo O0 O1 O2 O3 O4) = X) := ⟨_, rfl⟩
                rw [hU5.out] at HQ5
                have hU5' := hU5.out
                unfold StoM at hU5'
                go_simp
                go_wp2_with fail
                have HQS := hid (HQ5.out.sub (.cons _ (.cons_cons _ (.cons_cons _ (.cons_cons _ .slnil)))) (.cons _ (.cons_cons _ (.cons_cons _ (.cons_cons _ .slnil)))))
                refine hK.out _ _ (HKT.out _ HQS) (fun hHeld5 => ?_)
                clear hK K HQS
                try simp only [Act.put, List.setIfInBounds_toArray, List.set_cons_zero, List.set_cons_succ]
                clear z0 z1 z2 fz
                refine take_at 10 28 (.int .i64 OT) rfl rfl (by kernel_rfl) (by kernel_rfl) (by kernel_rfl) (fun _ _ _ h => h) (Or.inl ⟨by rfl, fun w hSw => by (try dsimp only at hSw); go_simp⟩) (by assumption) ?_
                simp only [Act.put, List.setIfInBounds_toArray, List.set_cons_zero, List.set_cons_succ]
                refine wpAnyH_done (by kernel_rfl) ?_ _
                exact HR.out _ _ ⟨gr, qa, qc, O0, O1, O2, O3, O4, xo, rfl, HQ5.out⟩
            · have HQ2 := hid (HQ1.out.alloc (MBox 0 0 none 0 0))
              go_simp
              go_wp2_with fail
              have HQS := hid (HQ2.out.sub (.cons _ (.cons _ (.cons_cons _ (.cons_cons _ (.cons_cons _ .slnil))))) (.cons_cons _ (.cons_cons _ (.cons_cons _ .slnil))))
              refine hK.out _ _ (HKT.out _ HQS) (fun hHeld2 => ?_)
              clear hK K HQS
              try simp only [Act.put, List.setIfInBounds_toArray, List.set_cons_zero, List.set_cons_succ]
              obtain ⟨t2, ht2⟩ : ∃ X, Hid (t1.alloc (MBox 0 0 none 0 0) = X) := ⟨_, rfl⟩
              obtain ⟨xo, hxo⟩ : ∃ X, Hid (t1.heap.size = X) := ⟨_, rfl⟩
              rw [ht2.out, hxo.out] at HQ2
              have hy1 : t1.alloc (.cells #[.int .i64 0, .int .i64 0, .slice none 0 0] 29) = t2 := ht2.out
              have hy2 := hxo.out
              rw [hy1]
              rw [hy2]
              clear hy1 hy2
              refine wpAnyH_ready (rs := [3]) (by kernel_rfl) (by simp) ?_
              refine AllReadyH.cons (o := _) rfl (fun K hK => ?_) AllReadyH.nil
              obtain ⟨qa, qc, t3, hrun, hq, hbq⟩ := HAP.out _ _ HQ2.out.bel (HQ2.out.at 1 rfl : t2.heap[gr]? = some (.cells #[] 3))
              have HIQ : Hid (∀ W, Below t3.heap.size t3 W → I64At W qa q ps) := fun W hW => hq.belo hW
              refine step_ape 25 rfl _ _ rfl (.slice (some ⟨gr, 0, none⟩) 0 0) (.slice pa q pc) (by first | rfl | (simp [Act.eval]; done) | (simp [Act.eval, Act.put]; done)) (by first | rfl | (simp [Act.eval]; done) | (simp [Act.eval, Act.put]; done)) hrun ?_
              have HQ3 := hid ((HQ2.out.call hbq).sub (.cons_cons _ (.cons _ (.cons_cons _ (.cons_cons _ (.cons_cons _ .slnil))))) (.cons_cons _ (.cons_cons _ (.cons_cons _ .slnil))))
              clear hq hbq hrun
              have HQS := hid (HQ3.out.sub (.cons _ (.cons_cons _ (.cons_cons _ (.cons_cons _ .slnil)))) (.cons_cons _ (.cons_cons _ (.cons_cons _ .slnil))))
              refine hK.out _ _ (HKT.out _ HQS) (fun hHeld3 => ?_)
              clear hK K HQS
              try simp only [Act.put, List.setIfInBounds_toArray]
              refine wpAnyH_ready (rs := [4]) (by kernel_rfl) (by simp) ?_
              refine AllReadyH.cons (o := _) rfl (fun K hK => ?_) AllReadyH.nil
              go_simp
              refine (HPO.out _ _ _ _ _ (HQ3.out.get (g := fun W => FlM W ta n ca xs) 2 rfl) (HIQ.out _ (by first | exact Below.refl _ _ | (rw [← ht3.out]; exact (Below.refl _ _).alloc (Nat.le_refl _) _)))).mono ?_
              rintro e t4 ⟨⟨O0, O1, O2, O3, O4, rfl, hres⟩, hbq⟩
              have HQ4 := hid (HQ3.out.call hbq)
              have HQ4 := hid (HQ4.out.add (g := fun W => ResM OT rx.toNat rx.toNat (ordV xs ps rx.toNat) W O0 O1 O2 O3 O4) (kept_res _ _ _ _ _ _ _ _ _) hres)
              clear hbq
              clear hres
              go_wp2_with fail
              have HQS := hid (HQ4.out.sub (.cons _ (.cons_cons _ (.cons_cons _ (.cons_cons _ .slnil)))) (.cons _ (.cons_cons _ (.cons_cons _ (.cons_cons _ .slnil)))))
              refine hK.out _ _ (HKT.out _ HQS) (fun hHeld4 => ?_)
              clear hK K HQS
              try simp only [Act.put, List.setIfInBounds_toArray, List.set_cons_zero, List.set_cons_succ]
              refine take_at 5 155 (.tuple #[.agg #[.int .i64 O0, .int .i64 O1, .slice O2 O3 O4], .int .i64 OT]) rfl rfl (by kernel_rfl) (by kernel_rfl) (by kernel_rfl) (fun _ _ _ h => h) (Or.inl ⟨by rfl, fun w hSw => by (try dsimp only at hSw); go_simp⟩) (by assumption) ?_
              simp only [Act.put, List.setIfInBounds_toArray, List.set_cons_zero, List.set_cons_succ]
              refine take_at 6 161 (.agg #[.int .i64 O0, .int .i64 O1, .slice O2 O3 O4]) rfl rfl (by kernel_rfl) (by kernel_rfl) (by kernel_rfl) (fun _ _ _ h => h) (Or.inl ⟨by rfl, fun w hSw => by (try dsimp only at hSw); go_simp⟩) (by assumption) ?_
              simp only [Act.put, List.setIfInBounds_toArray, List.set_cons_zero, List.set_cons_succ]
              refine take_at 7 162 (.int .i64 OT) rfl rfl (by kernel_rfl) (by kernel_rfl) (by kernel_rfl) (fun _ _ _ h => h) (Or.inl ⟨by rfl, fun w hSw => by (try dsimp only at hSw); go_simp⟩) (by assumption) ?_
              simp only [Act.put, List.setIfInBounds_toArray, List.set_cons_zero, List.set_cons_succ]
              refine wpAnyH_ready (rs := [9]) (by kernel_rfl) (by simp) ?_
              refine AllReadyH.cons (o := _) rfl (fun K hK => ?_) AllReadyH.nil
              obtain ⟨z0, z1, z2⟩ := mcells_of (HQ4.out.at 0 rfl : t4.heap[xo]? = some (MBox 0 0 none 0 0))
              have fz := frzM (HQ4.out.at 0 rfl : t4.heap[xo]? = some (MBox 0 0 none 0 0))
              have HQ5 : Hid (FrQ w (StoM t4 xo O0 O1 O2 O3 O4) [(xo, MBox O0 O1 O2 O3 O4), (ic, MBox rz cz tc l cc), (ib, MBox ry cy tb m cb), (ia, MBox rx cx ta n ca)] [fun W => ResM OT rx.toNat rx.toNat (ordV xs ps rx.toNat) W O0 O1 O2 O3 O4, fun W => FlM W tc l cc zs, fun W => FlM W tb m cb ys, fun W => FlM W ta n ca xs]) := HQ4.out.sto 0 rfl
              obtain ⟨U5, hU5⟩ : ∃ X, Hid ((StoM t4 xo O0 O1 O2 O3 O4) = X) := ⟨_, rfl⟩
              rw [hU5.out] at HQ5
              have hU5' := hU5.out
              unfold StoM at hU5'
              go_simp
              go_wp2_with fail
              have HQS := hid (HQ5.out.sub (.cons _ (.cons_cons _ (.cons_cons _ (.cons_cons _ .slnil)))) (.cons _ (.cons_cons _ (.cons_cons _ (.cons_cons _ .slnil)))))
              refine hK.out _ _ (HKT.out _ HQS) (fun hHeld5 => ?_)
              clear hK K HQS
              try simp only [Act.put, List.setIfInBounds_toArray, List.set_cons_zero, List.set_cons_succ]
              clear z0 z1 z2 fz
              refine take_at 10 28 (.int .i64 OT) rfl rfl (by kernel_rfl) (by kernel_rfl) (by kernel_rfl) (fun _ _ _ h => h) (Or.inl ⟨by rfl, fun w hSw => by (try dsimp only at hSw); go_simp⟩) (by assumption) ?_
              simp only [Act.put, List.setIfInBounds_toArray, List.set_cons_zero, List.set_cons_succ]
              refine wpAnyH_done (by kernel_rfl) ?_ _
              exact HR.out _ _ ⟨gr, qa, qc, O0, O1, O2, O3, O4, xo, rfl, HQ5.out⟩
          · have HQ1 := hid (HQ0.out.alloc (MBox 0 0 none 0 0))
            go_simp
            go_wp2_with fail
            have HQS := hid (HQ1.out.sub (.cons _ (.cons_cons _ (.cons_cons _ (.cons_cons _ .slnil)))) (.cons_cons _ (.cons_cons _ (.cons_cons _ .slnil))))
            refine hK.out _ _ (HKT.out _ HQS) (fun hHeld1 => ?_)
            clear hK K HQS
            try simp only [Act.put, List.setIfInBounds_toArray, List.set_cons_zero, List.set_cons_succ]
            obtain ⟨t1, ht1⟩ : ∃ X, Hid (wc.drew.alloc (MBox 0 0 none 0 0) = X) := ⟨_, rfl⟩
            obtain ⟨xo, hxo⟩ : ∃ X, Hid (wc.drew.heap.size = X) := ⟨_, rfl⟩
            rw [ht1.out, hxo.out] at HQ1
            have hy1 : (wc.alloc (.cells #[.int .i64 0, .int .i64 0, .slice none 0 0] 29)).drew = t1 := ht1.out
            have hy2 : wc.heap.size = xo := hxo.out
            rw [hy1]
            rw [hy2]
            clear hy1 hy2
            refine wpAnyH_ready (rs := [1]) (by kernel_rfl) (by simp) ?_
            refine AllReadyH.cons (o := _) rfl (fun K hK => ?_) AllReadyH.nil
            have HQ2 := hid (HQ1.out.alloc (.cells #[] 3))
            go_simp
            go_wp2_with fail
            have HQS := hid (HQ2.out.sub (.cons _ (.cons _ (.cons_cons _ (.cons_cons _ (.cons_cons _ .slnil))))) (.cons_cons _ (.cons_cons _ (.cons_cons _ .slnil))))
            refine hK.out _ _ (HKT.out _ HQS) (fun hHeld2 => ?_)
            clear hK K HQS
            try simp only [Act.put, List.setIfInBounds_toArray, List.set_cons_zero, List.set_cons_succ]
            obtain ⟨t2, ht2⟩ : ∃ X, Hid (t1.alloc (.cells #[] 3) = X) := ⟨_, rfl⟩
            obtain ⟨gr, hgr⟩ : ∃ X, Hid (t1.heap.size = X) := ⟨_, rfl⟩
            rw [ht2.out, hgr.out] at HQ2
            have hy1 : t1.alloc (.cells #[] 3) = t2 := ht2.out
            have hy2 := hgr.out
            rw [hy1]
            rw [hy2]
            clear hy1 hy2
            refine wpAnyH_ready (rs := [3]) (by kernel_rfl) (by simp) ?_
            refine AllReadyH.cons (o := _) rfl (fun K hK => ?_) AllReadyH.nil
            obtain ⟨qa, qc, t3, hrun, hq, hbq⟩ := HAP.out _ _ HQ2.out.bel (HQ2.out.at 0 rfl : t2.heap[gr]? = some (.cells #[] 3))
            have HIQ : Hid (∀ W, Below t3.heap.size t3 W → I64At W qa q ps) := fun W hW => hq.belo hW
            refine step_ape 25 rfl _ _ rfl (.slice (some ⟨gr, 0, none⟩) 0 0) (.slice pa q pc) (by first | rfl | (simp [Act.eval]; done) | (simp [Act.eval, Act.put]; done)) (by first | rfl | (simp [Act.eval]; done) | (simp [Act.eval, Act.put]; done)) hrun ?_
            have HQ3 := hid ((HQ2.out.call hbq).sub (.cons _ (.cons_cons _ (.cons_cons _ (.cons_cons _ (.cons_cons _ .slnil))))) (.cons_cons _ (.cons_cons _ (.cons_cons _ .slnil))))
            clear hq hbq hrun
            have HQS := hid (HQ3.out.sub (.cons _ (.cons_cons _ (.cons_cons _ (.cons_cons _ .slnil)))) (.cons_cons _ (.cons_cons _ (.cons_cons _ .slnil))))
            refine hK.out _ _ (HKT.out _ HQS) (fun hHeld3 => ?_)
            clear hK K HQS
            try simp only [Act.put, List.setIfInBounds_toArray]
            refine wpAnyH_ready (rs := [4]) (by kernel_rfl) (by simp) ?_
            refine AllReadyH.cons (o := _) rfl (fun K hK => ?_) AllReadyH.nil
            go_simp
            refine (HPO.out _ _ _ _ _ (HQ3.out.get (g := fun W => FlM W ta n ca xs) 2 rfl) (HIQ.out _ (by first | exact Below.refl _ _ | (rw [← ht3.out]; exact (Below.refl _ _).alloc (Nat.le_refl _) _)))).mono ?_
            rintro e t4 ⟨⟨O0, O1, O2, O3, O4, rfl, hres⟩, hbq⟩
            have HQ4 := hid (HQ3.out.call hbq)
            have HQ4 := hid (HQ4.out.add (g := fun W => ResM OT rx.toNat rx.toNat (ordV xs ps rx.toNat) W O0 O1 O2 O3 O4) (kept_res _ _ _ _ _ _ _ _ _) hres)
            clear hbq
            clear hres
            go_wp2_with fail
            have HQS := hid (HQ4.out.sub (.cons _ (.cons_cons _ (.cons_cons _ (.cons_cons _ .slnil)))) (.cons _ (.cons_cons _ (.cons_cons _ (.cons_cons _ .slnil)))))
            refine hK.out _ _ (HKT.out _ HQS) (fun hHeld4 => ?_)
            clear hK K HQS
            try simp only [Act.put, List.setIfInBounds_toArray, List.set_cons_zero, List.set_cons_succ]
            refine take_at 5 155 (.tuple #[.agg #[.int .i64 O0, .int .i64 O1, .slice O2 O3 O4], .int .i64 OT]) rfl rfl (by kernel_rfl) (by kernel_rfl) (by kernel_rfl) (fun _ _ _ h => h) (Or.inl ⟨by rfl, fun w hSw => by (try dsimp only at hSw); go_simp⟩) (by assumption) ?_
            simp only [Act.put, List.setIfInBounds_toArray, List.set_cons_zero, List.set_cons_succ]
            refine take_at 6 161 (.agg #[.int .i64 O0, .int .i64 O1, .slice O2 O3 O4]) rfl rfl (by kernel_rfl) (by kernel_rfl) (by kernel_rfl) (fun _ _ _ h => h) (Or.inl ⟨by rfl, fun w hSw => by (try dsimp only at hSw); go_simp⟩) (by assumption) ?_
            simp only [Act.put, List.setIfInBounds_toArray, List.set_cons_zero, List.set_cons_succ]
            refine take_at 7 162 (.int .i64 OT) rfl rfl (by kernel_rfl) (by kernel_rfl) (by kernel_rfl) (fun _ _ _ h => h) (Or.inl ⟨by rfl, fun w hSw => by (try dsimp only at hSw); go_simp⟩) (by assumption) ?_
            simp only [Act.put, List.setIfInBounds_toArray, List.set_cons_zero, List.set_cons_succ]
            refine wpAnyH_ready (rs := [9]) (by kernel_rfl) (by simp) ?_
            refine AllReadyH.cons (o := _) rfl (fun K hK => ?_) AllReadyH.nil
            obtain ⟨z0, z1, z2⟩ := mcells_of (HQ4.out.at 0 rfl : t4.heap[xo]? = some (MBox 0 0 none 0 0))
            have fz := frzM (HQ4.out.at 0 rfl : t4.heap[xo]? = some (MBox 0 0 none 0 0))
            have HQ5 : Hid (FrQ w (StoM t4 xo O0 O1 O2 O3 O4) [(xo, MBox O0 O1 O2 O3 O4), (ic, MBox rz cz tc l cc), (ib, MBox ry cy tb m cb), (ia, MBox rx cx ta n ca)] [fun W => ResM OT rx.toNat rx.toNat (ordV xs ps rx.toNat) W O0 O1 O2 O3 O4, fun W => FlM W tc l cc zs, fun W => FlM W tb m cb ys, fun W => FlM W ta n ca xs]) := HQ4.out.sto 0 rfl
            obtain ⟨U5, hU5⟩ : ∃ X, Hid ((StoM t4 xo O0 O1 O2 O3 O4) = X) := ⟨_, rfl⟩
            rw [hU5.out] at HQ5
            have hU5' := hU5.out
            unfold StoM at hU5'
            go_simp
            go_wp2_with fail
            have HQS := hid (HQ5.out.sub (.cons _ (.cons_cons _ (.cons_cons _ (.cons_cons _ .slnil)))) (.cons _ (.cons_cons _ (.cons_cons _ (.cons_cons _ .slnil)))))
            refine hK.out _ _ (HKT.out _ HQS) (fun hHeld5 => ?_)
            clear hK K HQS
            try simp only [Act.put, List.setIfInBounds_toArray, List.set_cons_zero, List.set_cons_succ]
            clear z0 z1 z2 fz
            refine take_at 10 28 (.int .i64 OT) rfl rfl (by kernel_rfl) (by kernel_rfl) (by kernel_rfl) (fun _ _ _ h => h) (Or.inl ⟨by rfl, fun w hSw => by (try dsimp only at hSw); go_simp⟩) (by assumption) ?_
            simp only [Act.put, List.setIfInBounds_toArray, List.set_cons_zero, List.set_cons_succ]
            refine wpAnyH_done (by kernel_rfl) ?_ _
            exact HR.out _ _ ⟨gr, qa, qc, O0, O1, O2, O3, O4, xo, rfl, HQ5.out⟩
      · rintro a' w3 ⟨gr, qa, qc, O0, O1, O2, O3, O4, xo, rfl, hF⟩
        simp only [Act.put, List.setIfInBounds_toArray, List.set_cons_zero, List.set_cons_succ]
        have HF : Hid (FrQ w w3 [(xo, MBox O0 O1 O2 O3 O4), (ic, MBox rz cz tc l cc), (ib, MBox ry cy tb m cb), (ia, MBox rx cx ta n ca)] [fun W => ResM OT rx.toNat rx.toNat (ordV xs ps rx.toNat) W O0 O1 O2 O3 O4, fun W => FlM W tc l cc zs, fun W => FlM W tb m cb ys, fun W => FlM W ta n ca xs]) := hF
        clear hF HKT HQ0 HQS0
        go_upto_if 164 with fail
        go_cut [] from 51 (fun W => Hid (FrQ w W [(ic, MBox rz cz tc l cc), (ib, MBox ry cy tb m cb), (ia, MBox rx cx ta n ca)] [fun W => FlM W tc l cc zs, fun W => FlM W tb m cb ys, fun W => FlM W ta n ca xs]))
        case first =>
          as_aux_lemma =>
            by_cases hT0 : OT = 0
            · have hye : (OT == 0) = true := by simpa using hT0
              have HOZ := hid (hOT.out.trans hT0)
              obtain ⟨zx, zr, zc, zq, zo⟩ := ordT_zero HOZ.out
              have HZX := hid zx
              have HZR := hid zr
              have HZC := hid zc
              have HZQ := hid zq
              have HZO := hid zo
              clear zx zr zc zq zo hT0
              have HRZ : Hid (∀ W, Below w.heap.size w W → FlM W ta n ca xs → Calls Try.prog 13 #[.agg #[.int .i64 rx, .int .i64 cx, .slice ta n ca], .slice pa q pc] W fun e w' => (∃ Z0 Z1 Z2 Z3 Z4, e = .returned (.tuple #[.agg #[.int .i64 Z0, .int .i64 Z1, .slice Z2 Z3 Z4], .int .i64 0])) ∧ Below W.heap.size W w') := fun W hW h => by
                refine (rOrder_tot rx cx ta n ca xs pa q pc ps W h (HPL.out.belo hW) HZX.out).mono ?_
                rintro e w' ⟨⟨Z0, Z1, Z2, Z3, Z4, rfl, _⟩, hbb⟩
                exact ⟨⟨Z0, Z1, Z2, Z3, Z4, by rw [HOZ.out]⟩, hbb⟩
              have HCZ : Hid (∀ W, FlM W ta n ca xs → Calls Try.prog 7 #[.agg #[.int .i64 rx, .int .i64 cx, .slice ta n ca]] W fun e w' => e = .returned (.int .i64 0) ∧ Below W.heap.size W w') := fun W h => by
                have := HCR.out W h
                rw [HZX.out] at this
                exact this
              have hmk := run_make_row' (P := Try.prog) 25 3 (.int .i64 0) 8 Try.underlying25 info_ib rfl .i64 .i64 q (by have := HZQ.out; omega) (by have := HZQ.out; omega)
              obtain ⟨c00, c01, c02⟩ := mcells_of (HF.out.at 3 rfl : w3.heap[ia]? = some (MBox rx cx ta n ca))
              go_wp2_with fail
              refine (HRZ.out _ HF.out.bel (HF.out.get (g := fun W => FlM W ta n ca xs) 3 rfl)).mono ?_
              rintro e u4 ⟨⟨P0, P1, P2, P3, P4, rfl⟩, hb⟩
              have HF : Hid (FrQ w u4 [(xo, MBox O0 O1 O2 O3 O4), (ic, MBox rz cz tc l cc), (ib, MBox ry cy tb m cb), (ia, MBox rx cx ta n ca)] [fun W => ResM OT rx.toNat rx.toNat (ordV xs ps rx.toNat) W O0 O1 O2 O3 O4, fun W => FlM W tc l cc zs, fun W => FlM W tb m cb ys, fun W => FlM W ta n ca xs]) := HF.out.call hb
              clear hb
              have HF : Hid (FrQ w (u4.alloc (MBox P0 P1 P2 P3 P4)) [(u4.heap.size, MBox P0 P1 P2 P3 P4), (xo, MBox O0 O1 O2 O3 O4), (ic, MBox rz cz tc l cc), (ib, MBox ry cy tb m cb), (ia, MBox rx cx ta n ca)] [fun W => ResM OT rx.toNat rx.toNat (ordV xs ps rx.toNat) W O0 O1 O2 O3 O4, fun W => FlM W tc l cc zs, fun W => FlM W tb m cb ys, fun W => FlM W ta n ca xs]) := HF.out.alloc _
              obtain ⟨V5, hV5⟩ : ∃ V, Hid (u4.alloc (MBox P0 P1 P2 P3 P4) = V) := ⟨_, rfl⟩
              obtain ⟨yo, hyo⟩ : ∃ t, Hid (u4.heap.size = t) := ⟨_, rfl⟩
              rw [hV5.out, hyo.out] at HF
              have hV5' := hV5.out
              unfold MBox at hV5'
              have hyo' := hyo.out
              obtain ⟨c00, c01, c02⟩ := mcells_of (HF.out.at 4 rfl : V5.heap[ia]? = some (MBox rx cx ta n ca))
              go_wp2_with fail
              refine (HCZ.out _ (HF.out.get (g := fun W => FlM W ta n ca xs) 3 rfl)).mono ?_
              rintro e u6 ⟨rfl, hb⟩
              have HF : Hid (FrQ w u6 [(yo, MBox P0 P1 P2 P3 P4), (xo, MBox O0 O1 O2 O3 O4), (ic, MBox rz cz tc l cc), (ib, MBox ry cy tb m cb), (ia, MBox rx cx ta n ca)] [fun W => ResM OT rx.toNat rx.toNat (ordV xs ps rx.toNat) W O0 O1 O2 O3 O4, fun W => FlM W tc l cc zs, fun W => FlM W tb m cb ys, fun W => FlM W ta n ca xs]) := HF.out.call hb
              clear hb
              obtain ⟨g, hg⟩ : ∃ t, Hid (u6.heap.size = t) := ⟨_, rfl⟩
              have hg' := hg.out
              go_wp2_with fail
              go_loopw [32] (fun iv wr => ∃ k : Nat, k ≤ q ∧ iv = .int .i64 k ∧ Hid (wr.rowIs g 3 q (fun j => .int .i64 (bkF ps k j))) ∧ Hid (Below g u6 wr)) (fun iv _ => q - (intOf iv).toNat)
              case atStart =>
                refine ⟨0, Nat.zero_le _, rfl, ?_, ?_⟩
                · rw [← hg.out]; exact World.rowIs_made u6 (.int .i64 0) q _
                · rw [← hg.out]; exact (Below.refl _ _).alloc (Nat.le_refl _) _
              case round =>
                obtain ⟨k, hk, rfl, HR, HBW⟩ := hrel
                by_cases hlt : k < q
                · obtain ⟨b, off, rfl, hb1, hc1⟩ := HPL.out.2.2 (by omega)
                  have g1 := (HF.out.bel.trans (HBW.out.mono (by rw [← hg.out]; exact HF.out.bel.size))).cell (p := ⟨b, off + k, none⟩) hb1
                  rw [hc1 k hlt] at g1
                  have hp0 := ord_at HZO.out hlt
                  obtain ⟨j, hj⟩ := Int.eq_ofNat_of_zero_le hp0.1
                  have hjq : j < q := by have := hp0.2; omega
                  have HJ : Hid (ps.getD k 0 = (j : Int)) := hj
                  rw [HJ.out] at g1
                  have c1 := HR.out.cell hjq
                  have f1 := HR.out.frozen j
                  have hjI : (j : Int) < (q : Int) := by omega
                  have hj0 : (0 : Int) ≤ (j : Int) := by omega
                  have hkI : (k : Int) < (q : Int) := by omega
                  have hk0 : (0 : Int) ≤ (k : Int) := by omega
                  have hk12 := HZQ.out
                  have hwk : IntKind.i64.wrap ((k : Int) + 1) = (k : Int) + 1 := IntWalk.i64_in _ (by omega)
                  clear hc1 hb1 hp0 hj hmk
                  go_wp2_with fail
                  refine ⟨⟨k + 1, by omega, by go_num, ?_, HBW.out.setCell (p := ⟨g, j, none⟩) (Nat.le_refl _) _⟩, ?_⟩
                  · refine (HR.out.set j _).congr (fun i _ => ?_)
                    show (if i = j then Value.int .i64 (k : Int) else Value.int .i64 (bkF ps k i)) = Value.int .i64 (if ps.getD k 0 = (i : Int) then (k : Int) else bkF ps k i)
                    rw [HJ.out]
                    by_cases hij : i = j
                    · rw [if_pos hij, if_pos (by rw [hij])]
                    · rw [if_neg hij, if_neg (fun q => hij (by omega))]
                  · simp [intOf]; omega
                · obtain rfl : k = q := by omega
                  clear hmk
                  have HF : Hid (FrQ w wr [(yo, MBox P0 P1 P2 P3 P4), (xo, MBox O0 O1 O2 O3 O4), (ic, MBox rz cz tc l cc), (ib, MBox ry cy tb m cb), (ia, MBox rx cx ta n ca)] [fun W => ResM OT rx.toNat rx.toNat (ordV xs ps rx.toNat) W O0 O1 O2 O3 O4, fun W => FlM W tc l cc zs, fun W => FlM W tb m cb ys, fun W => FlM W ta n ca xs]) := HF.out.call (by rw [hg.out]; exact HBW.out)
                  have HII := hid (row_ints HR.out HZQ.out)
                  obtain ⟨c00, c01, c02⟩ := mcells_of (HF.out.at 1 rfl : wr.heap[xo]? = some (MBox O0 O1 O2 O3 O4))
                  go_wp2_with fail
                  refine (Order_back HZQ.out (ord_zero_res HZR.out HOZ.out (by have h := (HF.out.get (g := fun W => ResM OT rx.toNat rx.toNat (ordV xs ps rx.toNat) W O0 O1 O2 O3 O4) 0 rfl); rw [← hOT.out] at h; exact h)) HZO.out HII.out).mono ?_
                  rintro e u7 ⟨⟨G0, G1, G2, G3, G4, rfl, hres⟩, hb⟩
                  have HF : Hid (FrQ w u7 [(yo, MBox P0 P1 P2 P3 P4), (xo, MBox O0 O1 O2 O3 O4), (ic, MBox rz cz tc l cc), (ib, MBox ry cy tb m cb), (ia, MBox rx cx ta n ca)] [fun W => ResM OT rx.toNat rx.toNat (ordV xs ps rx.toNat) W O0 O1 O2 O3 O4, fun W => FlM W tc l cc zs, fun W => FlM W tb m cb ys, fun W => FlM W ta n ca xs]) := HF.out.call hb
                  have HF : Hid (FrQ w u7 [(yo, MBox P0 P1 P2 P3 P4), (xo, MBox O0 O1 O2 O3 O4), (ic, MBox rz cz tc l cc), (ib, MBox ry cy tb m cb), (ia, MBox rx cx ta n ca)] [fun W => ResM 0 k k (fun u v => canonOf (xs.getD (u * k + v) 0)) W G0 G1 G2 G3 G4, fun W => ResM OT rx.toNat rx.toNat (ordV xs ps rx.toNat) W O0 O1 O2 O3 O4, fun W => FlM W tc l cc zs, fun W => FlM W tb m cb ys, fun W => FlM W ta n ca xs]) := HF.out.add (kept_res _ _ _ _ _ _ _ _ _) hres
                  clear hb
                  clear hres
                  have HF : Hid (FrQ w (u7.alloc (MBox G0 G1 G2 G3 G4)) [(u7.heap.size, MBox G0 G1 G2 G3 G4), (yo, MBox P0 P1 P2 P3 P4), (xo, MBox O0 O1 O2 O3 O4), (ic, MBox rz cz tc l cc), (ib, MBox ry cy tb m cb), (ia, MBox rx cx ta n ca)] [fun W => ResM 0 k k (fun u v => canonOf (xs.getD (u * k + v) 0)) W G0 G1 G2 G3 G4, fun W => ResM OT rx.toNat rx.toNat (ordV xs ps rx.toNat) W O0 O1 O2 O3 O4, fun W => FlM W tc l cc zs, fun W => FlM W tb m cb ys, fun W => FlM W ta n ca xs]) := HF.out.alloc _
                  obtain ⟨V8, hV8⟩ : ∃ V, Hid (u7.alloc (MBox G0 G1 G2 G3 G4) = V) := ⟨_, rfl⟩
                  obtain ⟨xz, hxz⟩ : ∃ t, Hid (u7.heap.size = t) := ⟨_, rfl⟩
                  rw [hV8.out, hxz.out] at HF
                  have hV8' := hV8.out
                  unfold MBox at hV8'
                  have hxz' := hxz.out
                  obtain ⟨c00, c01, c02⟩ := mcells_of (HF.out.at 5 rfl : V8.heap[ia]? = some (MBox rx cx ta n ca))
                  obtain ⟨c10, c11, c12⟩ := mcells_of (HF.out.at 0 rfl : V8.heap[xz]? = some (MBox G0 G1 G2 G3 G4))
                  go_wp2_with fail
                  refine (alike_in HZR.out HZC.out (HF.out.get (g := fun W => ResM 0 k k (fun u v => canonOf (xs.getD (u * k + v) 0)) W G0 G1 G2 G3 G4) 0 rfl) (HF.out.get (g := fun W => FlM W ta n ca xs) 4 rfl) HZX.out (fun i j _ _ => rfl)).mono ?_
                  rintro e u9 ⟨rfl, hb⟩
                  have HF : Hid (FrQ w u9 [(xz, MBox G0 G1 G2 G3 G4), (yo, MBox P0 P1 P2 P3 P4), (xo, MBox O0 O1 O2 O3 O4), (ic, MBox rz cz tc l cc), (ib, MBox ry cy tb m cb), (ia, MBox rx cx ta n ca)] [fun W => ResM 0 k k (fun u v => canonOf (xs.getD (u * k + v) 0)) W G0 G1 G2 G3 G4, fun W => ResM OT rx.toNat rx.toNat (ordV xs ps rx.toNat) W O0 O1 O2 O3 O4, fun W => FlM W tc l cc zs, fun W => FlM W tb m cb ys, fun W => FlM W ta n ca xs]) := HF.out.call hb
                  clear hb
                  have HF : Hid (FrQ w u9 [(ic, MBox rz cz tc l cc), (ib, MBox ry cy tb m cb), (ia, MBox rx cx ta n ca)] [fun W => FlM W tc l cc zs, fun W => FlM W tb m cb ys, fun W => FlM W ta n ca xs]) := HF.out.sub (.cons _ (.cons _ (.cons _ (.cons_cons _ (.cons_cons _ (.cons_cons _ .slnil)))))) (.cons _ (.cons _ (.cons_cons _ (.cons_cons _ (.cons_cons _ .slnil)))))
                  go_wp2_with fail
                  go_meet
                  exact HF
            · have hne : (OT == 0) = false := by simpa using hT0
              have HF : Hid (FrQ w w3 [(ic, MBox rz cz tc l cc), (ib, MBox ry cy tb m cb), (ia, MBox rx cx ta n ca)] [fun W => FlM W tc l cc zs, fun W => FlM W tb m cb ys, fun W => FlM W ta n ca xs]) := HF.out.sub (.cons _ (.cons_cons _ (.cons_cons _ (.cons_cons _ .slnil)))) (.cons _ (.cons_cons _ (.cons_cons _ (.cons_cons _ .slnil))))
              go_wp2_with fail
              go_meet
              exact HF
        case rest =>
        as_aux_lemma =>
        have HF := hcut
        clear hcut
        obtain ⟨c00, c01, c02⟩ := mcells_of (HF.out.at 1 rfl : wc.heap[ib]? = some (MBox ry cy tb m cb))
        obtain ⟨c10, c11, c12⟩ := mcells_of (HF.out.at 0 rfl : wc.heap[ic]? = some (MBox rz cz tc l cc))
        go_wp2_with fail
        refine (HPD.out _ _ _ _ _ (HF.out.get (g := fun W => FlM W tb m cb ys) 1 rfl) (HF.out.get (g := fun W => FlM W tc l cc zs) 0 rfl)).mono ?_
        rintro e u4 ⟨⟨B0, B1, B2, B3, B4, rfl, hres⟩, hb⟩
        have HF : Hid (FrQ w u4 [(ic, MBox rz cz tc l cc), (ib, MBox ry cy tb m cb), (ia, MBox rx cx ta n ca)] [fun W => FlM W tc l cc zs, fun W => FlM W tb m cb ys, fun W => FlM W ta n ca xs]) := HF.out.call hb
        have HF : Hid (FrQ w u4 [(ic, MBox rz cz tc l cc), (ib, MBox ry cy tb m cb), (ia, MBox rx cx ta n ca)] [fun W => ResM BT ry.toNat (cy.toNat + cz.toNat) (bsdV ys zs cy.toNat cz.toNat) W B0 B1 B2 B3 B4, fun W => FlM W tc l cc zs, fun W => FlM W tb m cb ys, fun W => FlM W ta n ca xs]) := HF.out.add (kept_res _ _ _ _ _ _ _ _ _) hres
        clear hb
        clear hres
        have HF : Hid (FrQ w (u4.alloc (MBox B0 B1 B2 B3 B4)) [(u4.heap.size, MBox B0 B1 B2 B3 B4), (ic, MBox rz cz tc l cc), (ib, MBox ry cy tb m cb), (ia, MBox rx cx ta n ca)] [fun W => ResM BT ry.toNat (cy.toNat + cz.toNat) (bsdV ys zs cy.toNat cz.toNat) W B0 B1 B2 B3 B4, fun W => FlM W tc l cc zs, fun W => FlM W tb m cb ys, fun W => FlM W ta n ca xs]) := HF.out.alloc _
        obtain ⟨V5, hV5⟩ : ∃ V, Hid (u4.alloc (MBox B0 B1 B2 B3 B4) = V) := ⟨_, rfl⟩
        obtain ⟨xb, hxb⟩ : ∃ t, Hid (u4.heap.size = t) := ⟨_, rfl⟩
        rw [hV5.out, hxb.out] at HF
        have hV5' := hV5.out
        unfold MBox at hV5'
        have hxb' := hxb.out
        obtain ⟨c00, c01, c02⟩ := mcells_of (HF.out.at 3 rfl : V5.heap[ia]? = some (MBox rx cx ta n ca))
        obtain ⟨c10, c11, c12⟩ := mcells_of (HF.out.at 2 rfl : V5.heap[ib]? = some (MBox ry cy tb m cb))
        go_wp2_with fail
        refine (HM1.out _ _ _ _ _ (HF.out.get (g := fun W => FlM W ta n ca xs) 3 rfl) (HF.out.get (g := fun W => FlM W tb m cb ys) 2 rfl)).mono ?_
        rintro e u6 ⟨⟨C0, C1, C2, C3, C4, rfl, hres⟩, hb⟩
        have HF : Hid (FrQ w u6 [(xb, MBox B0 B1 B2 B3 B4), (ic, MBox rz cz tc l cc), (ib, MBox ry cy tb m cb), (ia, MBox rx cx ta n ca)] [fun W => ResM BT ry.toNat (cy.toNat + cz.toNat) (bsdV ys zs cy.toNat cz.toNat) W B0 B1 B2 B3 B4, fun W => FlM W tc l cc zs, fun W => FlM W tb m cb ys, fun W => FlM W ta n ca xs]) := HF.out.call hb
        have HF : Hid (FrQ w u6 [(xb, MBox B0 B1 B2 B3 B4), (ic, MBox rz cz tc l cc), (ib, MBox ry cy tb m cb), (ia, MBox rx cx ta n ca)] [fun W => ResM M1 rx.toNat cy.toNat (prdV xs ys cx.toNat cy.toNat) W C0 C1 C2 C3 C4, fun W => ResM BT ry.toNat (cy.toNat + cz.toNat) (bsdV ys zs cy.toNat cz.toNat) W B0 B1 B2 B3 B4, fun W => FlM W tc l cc zs, fun W => FlM W tb m cb ys, fun W => FlM W ta n ca xs]) := HF.out.add (kept_res _ _ _ _ _ _ _ _ _) hres
        clear hb
        clear hres
        have HF : Hid (FrQ w (u6.alloc (MBox C0 C1 C2 C3 C4)) [(u6.heap.size, MBox C0 C1 C2 C3 C4), (xb, MBox B0 B1 B2 B3 B4), (ic, MBox rz cz tc l cc), (ib, MBox ry cy tb m cb), (ia, MBox rx cx ta n ca)] [fun W => ResM M1 rx.toNat cy.toNat (prdV xs ys cx.toNat cy.toNat) W C0 C1 C2 C3 C4, fun W => ResM BT ry.toNat (cy.toNat + cz.toNat) (bsdV ys zs cy.toNat cz.toNat) W B0 B1 B2 B3 B4, fun W => FlM W tc l cc zs, fun W => FlM W tb m cb ys, fun W => FlM W ta n ca xs]) := HF.out.alloc _
        obtain ⟨V7, hV7⟩ : ∃ V, Hid (u6.alloc (MBox C0 C1 C2 C3 C4) = V) := ⟨_, rfl⟩
        obtain ⟨x1, hx1⟩ : ∃ t, Hid (u6.heap.size = t) := ⟨_, rfl⟩
        rw [hV7.out, hx1.out] at HF
        have hV7' := hV7.out
        unfold MBox at hV7'
        have hx1' := hx1.out
        obtain ⟨c00, c01, c02⟩ := mcells_of (HF.out.at 4 rfl : V7.heap[ia]? = some (MBox rx cx ta n ca))
        obtain ⟨c10, c11, c12⟩ := mcells_of (HF.out.at 2 rfl : V7.heap[ic]? = some (MBox rz cz tc l cc))
        go_wp2_with fail
        refine (HM2.out _ _ _ _ _ (HF.out.get (g := fun W => FlM W ta n ca xs) 4 rfl) (HF.out.get (g := fun W => FlM W tc l cc zs) 2 rfl)).mono ?_
        rintro e u8 ⟨⟨D0, D1, D2, D3, D4, rfl, hres⟩, hb⟩
        have HF : Hid (FrQ w u8 [(x1, MBox C0 C1 C2 C3 C4), (xb, MBox B0 B1 B2 B3 B4), (ic, MBox rz cz tc l cc), (ib, MBox ry cy tb m cb), (ia, MBox rx cx ta n ca)] [fun W => ResM M1 rx.toNat cy.toNat (prdV xs ys cx.toNat cy.toNat) W C0 C1 C2 C3 C4, fun W => ResM BT ry.toNat (cy.toNat + cz.toNat) (bsdV ys zs cy.toNat cz.toNat) W B0 B1 B2 B3 B4, fun W => FlM W tc l cc zs, fun W => FlM W tb m cb ys, fun W => FlM W ta n ca xs]) := HF.out.call hb
        have HF : Hid (FrQ w u8 [(x1, MBox C0 C1 C2 C3 C4), (xb, MBox B0 B1 B2 B3 B4), (ic, MBox rz cz tc l cc), (ib, MBox ry cy tb m cb), (ia, MBox rx cx ta n ca)] [fun W => ResM M2 rx.toNat cz.toNat (prdV xs zs cx.toNat cz.toNat) W D0 D1 D2 D3 D4, fun W => ResM M1 rx.toNat cy.toNat (prdV xs ys cx.toNat cy.toNat) W C0 C1 C2 C3 C4, fun W => ResM BT ry.toNat (cy.toNat + cz.toNat) (bsdV ys zs cy.toNat cz.toNat) W B0 B1 B2 B3 B4, fun W => FlM W tc l cc zs, fun W => FlM W tb m cb ys, fun W => FlM W ta n ca xs]) := HF.out.add (kept_res _ _ _ _ _ _ _ _ _) hres
        clear hb
        clear hres
        have HF : Hid (FrQ w (u8.alloc (MBox D0 D1 D2 D3 D4)) [(u8.heap.size, MBox D0 D1 D2 D3 D4), (x1, MBox C0 C1 C2 C3 C4), (xb, MBox B0 B1 B2 B3 B4), (ic, MBox rz cz tc l cc), (ib, MBox ry cy tb m cb), (ia, MBox rx cx ta n ca)] [fun W => ResM M2 rx.toNat cz.toNat (prdV xs zs cx.toNat cz.toNat) W D0 D1 D2 D3 D4, fun W => ResM M1 rx.toNat cy.toNat (prdV xs ys cx.toNat cy.toNat) W C0 C1 C2 C3 C4, fun W => ResM BT ry.toNat (cy.toNat + cz.toNat) (bsdV ys zs cy.toNat cz.toNat) W B0 B1 B2 B3 B4, fun W => FlM W tc l cc zs, fun W => FlM W tb m cb ys, fun W => FlM W ta n ca xs]) := HF.out.alloc _
        obtain ⟨V9, hV9⟩ : ∃ V, Hid (u8.alloc (MBox D0 D1 D2 D3 D4) = V) := ⟨_, rfl⟩
        obtain ⟨x2, hx2⟩ : ∃ t, Hid (u8.heap.size = t) := ⟨_, rfl⟩
        rw [hV9.out, hx2.out] at HF
        have hV9' := hV9.out
        unfold MBox at hV9'
        have hx2' := hx2.out
        obtain ⟨BQ, hBQ⟩ : ∃ b, Hid (decide (BT = 0 ∧ M1 = 0 ∧ M2 = 0) = b) := ⟨_, rfl⟩
        go_upto_region 31 with fail
        go_cut [235] from 51 (fun s235 W => s235 = .bool BQ ∧ Hid (FrQ w W [(x2, MBox D0 D1 D2 D3 D4), (x1, MBox C0 C1 C2 C3 C4), (xb, MBox B0 B1 B2 B3 B4), (ic, MBox rz cz tc l cc), (ib, MBox ry cy tb m cb), (ia, MBox rx cx ta n ca)] [fun W => ResM M2 rx.toNat cz.toNat (prdV xs zs cx.toNat cz.toNat) W D0 D1 D2 D3 D4, fun W => ResM M1 rx.toNat cy.toNat (prdV xs ys cx.toNat cy.toNat) W C0 C1 C2 C3 C4, fun W => ResM BT ry.toNat (cy.toNat + cz.toNat) (bsdV ys zs cy.toNat cz.toNat) W B0 B1 B2 B3 B4, fun W => FlM W tc l cc zs, fun W => FlM W tb m cb ys, fun W => FlM W ta n ca xs]))
        case first =>
          as_aux_lemma =>
            by_cases h1 : BT = 0
            · by_cases h2 : M1 = 0
              · by_cases h3 : M2 = 0
                · have e1 : (BT == 0) = true := by simpa using h1
                  have e2 : (M1 == 0) = true := by simpa using h2
                  have e3 : (M2 == 0) = true := by simpa using h3
                  go_wp2_with fail
                  go_meet
                  exact ⟨by rw [← hBQ.out]; simp [h1, h2, h3], HF⟩
                · have e1 : (BT == 0) = true := by simpa using h1
                  have e2 : (M1 == 0) = true := by simpa using h2
                  have e3 : (M2 == 0) = false := by simpa using h3
                  go_wp2_with fail
                  go_meet
                  exact ⟨by rw [← hBQ.out]; simp [h1, h2, h3], HF⟩
              · have e1 : (BT == 0) = true := by simpa using h1
                have e2 : (M1 == 0) = false := by simpa using h2
                go_wp2_with fail
                go_meet
                exact ⟨by rw [← hBQ.out]; simp [h1, h2], HF⟩
            · have e1 : (BT == 0) = false := by simpa using h1
              go_wp2_with fail
              go_meet
              exact ⟨by rw [← hBQ.out]; simp [h1], HF⟩
        case rest =>
        as_aux_lemma =>
        obtain ⟨rfl, HF⟩ := hcut
        go_upto_if 235 with fail
        go_cut [36, 38, 40] from 51 (fun s36 s38 s40 W => Hid (FrQ w W [(x2, MBox D0 D1 D2 D3 D4), (ic, MBox rz cz tc l cc), (ib, MBox ry cy tb m cb), (ia, MBox rx cx ta n ca)] [fun W => FlM W tc l cc zs, fun W => FlM W tb m cb ys, fun W => FlM W ta n ca xs]))
        case first =>
          as_aux_lemma =>
            by_cases hT0 : BT = 0 ∧ M1 = 0 ∧ M2 = 0
            · have hye : BQ = true := hBQ.out.symm.trans (by simpa using hT0)
              subst hye
              have HZ0 := hid (hBT.out.trans hT0.1)
              have HZ1 := hid (hM1.out.trans hT0.2.1)
              have HZ2 := hid (hM2.out.trans hT0.2.2)
              obtain ⟨r, c, c1, c2, g1, g2, g3, g4, g5, g6, g7, g8, g9, ga, gb⟩ := side_ready HZ0.out HZ1.out HZ2.out
              have G1 := hid g1
              have G2 := hid g2
              have G3 := hid g3
              have G4 := hid g4
              have G5 := hid g5
              have G6 := hid g6
              have G7 := hid g7
              have G8 := hid g8
              have G9 := hid g9
              have Ga := hid ga
              have Gb := hid gb
              clear g1 g2 g3 g4 g5 g6 g7 g8 g9 ga gb hT0
              obtain ⟨c00, c01, c02⟩ := mcells_of (HF.out.at 5 rfl : wc.heap[ia]? = some (MBox rx cx ta n ca))
              obtain ⟨c10, c11, c12⟩ := mcells_of (HF.out.at 2 rfl : wc.heap[xb]? = some (MBox B0 B1 B2 B3 B4))
              go_wp2_with fail
              refine (MulSide_tot (m := m) (l := l) G1.out G2.out G3.out G4.out G6.out G7.out G9.out Ga.out Gb.out HZ0.out (HF.out.get (g := fun W => FlM W ta n ca xs) 5 rfl) (by have h := (HF.out.get (g := fun W => ResM BT ry.toNat (cy.toNat + cz.toNat) (bsdV ys zs cy.toNat cz.toNat) W B0 B1 B2 B3 B4) 2 rfl); rw [← hBT.out] at h; exact h)).mono ?_
              rintro e u10 ⟨⟨E0, E1, E2, E3, E4, rfl, hres⟩, hb⟩
              have HF : Hid (FrQ w u10 [(x2, MBox D0 D1 D2 D3 D4), (x1, MBox C0 C1 C2 C3 C4), (xb, MBox B0 B1 B2 B3 B4), (ic, MBox rz cz tc l cc), (ib, MBox ry cy tb m cb), (ia, MBox rx cx ta n ca)] [fun W => ResM M2 rx.toNat cz.toNat (prdV xs zs cx.toNat cz.toNat) W D0 D1 D2 D3 D4, fun W => ResM M1 rx.toNat cy.toNat (prdV xs ys cx.toNat cy.toNat) W C0 C1 C2 C3 C4, fun W => ResM BT ry.toNat (cy.toNat + cz.toNat) (bsdV ys zs cy.toNat cz.toNat) W B0 B1 B2 B3 B4, fun W => FlM W tc l cc zs, fun W => FlM W tb m cb ys, fun W => FlM W ta n ca xs]) := HF.out.call hb
              have HF : Hid (FrQ w u10 [(x2, MBox D0 D1 D2 D3 D4), (x1, MBox C0 C1 C2 C3 C4), (xb, MBox B0 B1 B2 B3 B4), (ic, MBox rz cz tc l cc), (ib, MBox ry cy tb m cb), (ia, MBox rx cx ta n ca)] [fun W => ResM 0 r (c1 + c2) (sideV c1 (prdV xs ys c c1) (prdV xs zs c c2)) W E0 E1 E2 E3 E4, fun W => ResM M2 rx.toNat cz.toNat (prdV xs zs cx.toNat cz.toNat) W D0 D1 D2 D3 D4, fun W => ResM M1 rx.toNat cy.toNat (prdV xs ys cx.toNat cy.toNat) W C0 C1 C2 C3 C4, fun W => ResM BT ry.toNat (cy.toNat + cz.toNat) (bsdV ys zs cy.toNat cz.toNat) W B0 B1 B2 B3 B4, fun W => FlM W tc l cc zs, fun W => FlM W tb m cb ys, fun W => FlM W ta n ca xs]) := HF.out.add (kept_res _ _ _ _ _ _ _ _ _) hres
              clear hb
              clear hres
              have HF : Hid (FrQ w (u10.alloc (MBox E0 E1 E2 E3 E4)) [(u10.heap.size, MBox E0 E1 E2 E3 E4), (x2, MBox D0 D1 D2 D3 D4), (x1, MBox C0 C1 C2 C3 C4), (xb, MBox B0 B1 B2 B3 B4), (ic, MBox rz cz tc l cc), (ib, MBox ry cy tb m cb), (ia, MBox rx cx ta n ca)] [fun W => ResM 0 r (c1 + c2) (sideV c1 (prdV xs ys c c1) (prdV xs zs c c2)) W E0 E1 E2 E3 E4, fun W => ResM M2 rx.toNat cz.toNat (prdV xs zs cx.toNat cz.toNat) W D0 D1 D2 D3 D4, fun W => ResM M1 rx.toNat cy.toNat (prdV xs ys cx.toNat cy.toNat) W C0 C1 C2 C3 C4, fun W => ResM BT ry.toNat (cy.toNat + cz.toNat) (bsdV ys zs cy.toNat cz.toNat) W B0 B1 B2 B3 B4, fun W => FlM W tc l cc zs, fun W => FlM W tb m cb ys, fun W => FlM W ta n ca xs]) := HF.out.alloc _
              obtain ⟨V11, hV11⟩ : ∃ V, Hid (u10.alloc (MBox E0 E1 E2 E3 E4) = V) := ⟨_, rfl⟩
              obtain ⟨x3, hx3⟩ : ∃ t, Hid (u10.heap.size = t) := ⟨_, rfl⟩
              rw [hV11.out, hx3.out] at HF
              have hV11' := hV11.out
              unfold MBox at hV11'
              have hx3' := hx3.out
              obtain ⟨c00, c01, c02⟩ := mcells_of (HF.out.at 2 rfl : V11.heap[x1]? = some (MBox C0 C1 C2 C3 C4))
              obtain ⟨c10, c11, c12⟩ := mcells_of (HF.out.at 1 rfl : V11.heap[x2]? = some (MBox D0 D1 D2 D3 D4))
              go_wp2_with fail
              refine (Beside_res G8.out G9.out (mul_zero_res G1.out G2.out G4.out HZ1.out (by have h := (HF.out.get (g := fun W => ResM M1 rx.toNat cy.toNat (prdV xs ys cx.toNat cy.toNat) W C0 C1 C2 C3 C4) 2 rfl); rw [← hM1.out] at h; exact h)) (mul_zero_res G1.out G2.out G6.out HZ2.out (by have h := (HF.out.get (g := fun W => ResM M2 rx.toNat cz.toNat (prdV xs zs cx.toNat cz.toNat) W D0 D1 D2 D3 D4) 1 rfl); rw [← hM2.out] at h; exact h))).mono ?_
              rintro e u12 ⟨⟨F0, F1, F2, F3, F4, rfl, hres⟩, hb⟩
              have HF : Hid (FrQ w u12 [(x3, MBox E0 E1 E2 E3 E4), (x2, MBox D0 D1 D2 D3 D4), (x1, MBox C0 C1 C2 C3 C4), (xb, MBox B0 B1 B2 B3 B4), (ic, MBox rz cz tc l cc), (ib, MBox ry cy tb m cb), (ia, MBox rx cx ta n ca)] [fun W => ResM 0 r (c1 + c2) (sideV c1 (prdV xs ys c c1) (prdV xs zs c c2)) W E0 E1 E2 E3 E4, fun W => ResM M2 rx.toNat cz.toNat (prdV xs zs cx.toNat cz.toNat) W D0 D1 D2 D3 D4, fun W => ResM M1 rx.toNat cy.toNat (prdV xs ys cx.toNat cy.toNat) W C0 C1 C2 C3 C4, fun W => ResM BT ry.toNat (cy.toNat + cz.toNat) (bsdV ys zs cy.toNat cz.toNat) W B0 B1 B2 B3 B4, fun W => FlM W tc l cc zs, fun W => FlM W tb m cb ys, fun W => FlM W ta n ca xs]) := HF.out.call hb
              have HF : Hid (FrQ w u12 [(x3, MBox E0 E1 E2 E3 E4), (x2, MBox D0 D1 D2 D3 D4), (x1, MBox C0 C1 C2 C3 C4), (xb, MBox B0 B1 B2 B3 B4), (ic, MBox rz cz tc l cc), (ib, MBox ry cy tb m cb), (ia, MBox rx cx ta n ca)] [fun W => ResM 0 r (c1 + c2) (sideV c1 (prdV xs ys c c1) (prdV xs zs c c2)) W F0 F1 F2 F3 F4, fun W => ResM 0 r (c1 + c2) (sideV c1 (prdV xs ys c c1) (prdV xs zs c c2)) W E0 E1 E2 E3 E4, fun W => ResM M2 rx.toNat cz.toNat (prdV xs zs cx.toNat cz.toNat) W D0 D1 D2 D3 D4, fun W => ResM M1 rx.toNat cy.toNat (prdV xs ys cx.toNat cy.toNat) W C0 C1 C2 C3 C4, fun W => ResM BT ry.toNat (cy.toNat + cz.toNat) (bsdV ys zs cy.toNat cz.toNat) W B0 B1 B2 B3 B4, fun W => FlM W tc l cc zs, fun W => FlM W tb m cb ys, fun W => FlM W ta n ca xs]) := HF.out.add (kept_res _ _ _ _ _ _ _ _ _) hres
              clear hb
              clear hres
              have HF : Hid (FrQ w (u12.alloc (MBox F0 F1 F2 F3 F4)) [(u12.heap.size, MBox F0 F1 F2 F3 F4), (x3, MBox E0 E1 E2 E3 E4), (x2, MBox D0 D1 D2 D3 D4), (x1, MBox C0 C1 C2 C3 C4), (xb, MBox B0 B1 B2 B3 B4), (ic, MBox rz cz tc l cc), (ib, MBox ry cy tb m cb), (ia, MBox rx cx ta n ca)] [fun W => ResM 0 r (c1 + c2) (sideV c1 (prdV xs ys c c1) (prdV xs zs c c2)) W F0 F1 F2 F3 F4, fun W => ResM 0 r (c1 + c2) (sideV c1 (prdV xs ys c c1) (prdV xs zs c c2)) W E0 E1 E2 E3 E4, fun W => ResM M2 rx.toNat cz.toNat (prdV xs zs cx.toNat cz.toNat) W D0 D1 D2 D3 D4, fun W => ResM M1 rx.toNat cy.toNat (prdV xs ys cx.toNat cy.toNat) W C0 C1 C2 C3 C4, fun W => ResM BT ry.toNat (cy.toNat + cz.toNat) (bsdV ys zs cy.toNat cz.toNat) W B0 B1 B2 B3 B4, fun W => FlM W tc l cc zs, fun W => FlM W tb m cb ys, fun W => FlM W ta n ca xs]) := HF.out.alloc _
              obtain ⟨V13, hV13⟩ : ∃ V, Hid (u12.alloc (MBox F0 F1 F2 F3 F4) = V) := ⟨_, rfl⟩
              obtain ⟨x4, hx4⟩ : ∃ t, Hid (u12.heap.size = t) := ⟨_, rfl⟩
              rw [hV13.out, hx4.out] at HF
              have hV13' := hV13.out
              unfold MBox at hV13'
              have hx4' := hx4.out
              obtain ⟨c00, c01, c02⟩ := mcells_of (HF.out.at 1 rfl : V13.heap[x3]? = some (MBox E0 E1 E2 E3 E4))
              obtain ⟨c10, c11, c12⟩ := mcells_of (HF.out.at 0 rfl : V13.heap[x4]? = some (MBox F0 F1 F2 F3 F4))
              go_wp2_with fail
              refine (alike_res _ _ _ _ _ _ _ _ _ _ _ _ _ _ _ (HF.out.get (g := fun W => ResM 0 r (c1 + c2) (sideV c1 (prdV xs ys c c1) (prdV xs zs c c2)) W E0 E1 E2 E3 E4) 1 rfl) (HF.out.get (g := fun W => ResM 0 r (c1 + c2) (sideV c1 (prdV xs ys c c1) (prdV xs zs c c2)) W F0 F1 F2 F3 F4) 0 rfl) (fun _ _ _ _ => rfl)).mono ?_
              rintro e u14 ⟨rfl, hb⟩
              have HF : Hid (FrQ w u14 [(x4, MBox F0 F1 F2 F3 F4), (x3, MBox E0 E1 E2 E3 E4), (x2, MBox D0 D1 D2 D3 D4), (x1, MBox C0 C1 C2 C3 C4), (xb, MBox B0 B1 B2 B3 B4), (ic, MBox rz cz tc l cc), (ib, MBox ry cy tb m cb), (ia, MBox rx cx ta n ca)] [fun W => ResM 0 r (c1 + c2) (sideV c1 (prdV xs ys c c1) (prdV xs zs c c2)) W F0 F1 F2 F3 F4, fun W => ResM 0 r (c1 + c2) (sideV c1 (prdV xs ys c c1) (prdV xs zs c c2)) W E0 E1 E2 E3 E4, fun W => ResM M2 rx.toNat cz.toNat (prdV xs zs cx.toNat cz.toNat) W D0 D1 D2 D3 D4, fun W => ResM M1 rx.toNat cy.toNat (prdV xs ys cx.toNat cy.toNat) W C0 C1 C2 C3 C4, fun W => ResM BT ry.toNat (cy.toNat + cz.toNat) (bsdV ys zs cy.toNat cz.toNat) W B0 B1 B2 B3 B4, fun W => FlM W tc l cc zs, fun W => FlM W tb m cb ys, fun W => FlM W ta n ca xs]) := HF.out.call hb
              clear hb
              have HF : Hid (FrQ w u14 [(x2, MBox D0 D1 D2 D3 D4), (ic, MBox rz cz tc l cc), (ib, MBox ry cy tb m cb), (ia, MBox rx cx ta n ca)] [fun W => FlM W tc l cc zs, fun W => FlM W tb m cb ys, fun W => FlM W ta n ca xs]) := HF.out.sub (.cons _ (.cons _ (.cons_cons _ (.cons _ (.cons _ (.cons_cons _ (.cons_cons _ (.cons_cons _ .slnil)))))))) (.cons _ (.cons _ (.cons _ (.cons _ (.cons _ (.cons_cons _ (.cons_cons _ (.cons_cons _ .slnil))))))))
              go_wp2_with fail
              go_meet
              exact HF
            · have hne : BQ = false := hBQ.out.symm.trans (by simpa using hT0)
              subst hne
              have HF : Hid (FrQ w wc [(x2, MBox D0 D1 D2 D3 D4), (ic, MBox rz cz tc l cc), (ib, MBox ry cy tb m cb), (ia, MBox rx cx ta n ca)] [fun W => FlM W tc l cc zs, fun W => FlM W tb m cb ys, fun W => FlM W ta n ca xs]) := HF.out.sub (.cons_cons _ (.cons _ (.cons _ (.cons_cons _ (.cons_cons _ (.cons_cons _ .slnil)))))) (.cons _ (.cons _ (.cons _ (.cons_cons _ (.cons_cons _ (.cons_cons _ .slnil))))))
              go_wp2_with fail
              go_meet
              exact HF
        case rest =>
        as_aux_lemma =>
        have HF := hcut
        clear hcut
        obtain ⟨c00, c01, c02⟩ := mcells_of (HF.out.at 3 rfl : wc.heap[ia]? = some (MBox rx cx ta n ca))
        obtain ⟨c10, c11, c12⟩ := mcells_of (HF.out.at 2 rfl : wc.heap[ib]? = some (MBox ry cy tb m cb))
        go_wp2_with fail
        refine (HPS.out _ _ _ _ _ (HF.out.get (g := fun W => FlM W ta n ca xs) 2 rfl) (HF.out.get (g := fun W => FlM W tb m cb ys) 1 rfl)).mono ?_
        rintro e u10 ⟨⟨H0, H1, H2, H3, H4, rfl, hres⟩, hb⟩
        have HF : Hid (FrQ w u10 [(x2, MBox D0 D1 D2 D3 D4), (ic, MBox rz cz tc l cc), (ib, MBox ry cy tb m cb), (ia, MBox rx cx ta n ca)] [fun W => FlM W tc l cc zs, fun W => FlM W tb m cb ys, fun W => FlM W ta n ca xs]) := HF.out.call hb
        have HF : Hid (FrQ w u10 [(x2, MBox D0 D1 D2 D3 D4), (ic, MBox rz cz tc l cc), (ib, MBox ry cy tb m cb), (ia, MBox rx cx ta n ca)] [fun W => ResM ST (rx.toNat + ry.toNat) cx.toNat (stkV xs ys rx.toNat cx.toNat) W H0 H1 H2 H3 H4, fun W => FlM W tc l cc zs, fun W => FlM W tb m cb ys, fun W => FlM W ta n ca xs]) := HF.out.add (kept_res _ _ _ _ _ _ _ _ _) hres
        clear hb
        clear hres
        have HF : Hid (FrQ w (u10.alloc (MBox H0 H1 H2 H3 H4)) [(u10.heap.size, MBox H0 H1 H2 H3 H4), (x2, MBox D0 D1 D2 D3 D4), (ic, MBox rz cz tc l cc), (ib, MBox ry cy tb m cb), (ia, MBox rx cx ta n ca)] [fun W => ResM ST (rx.toNat + ry.toNat) cx.toNat (stkV xs ys rx.toNat cx.toNat) W H0 H1 H2 H3 H4, fun W => FlM W tc l cc zs, fun W => FlM W tb m cb ys, fun W => FlM W ta n ca xs]) := HF.out.alloc _
        obtain ⟨V11, hV11⟩ : ∃ V, Hid (u10.alloc (MBox H0 H1 H2 H3 H4) = V) := ⟨_, rfl⟩
        obtain ⟨xs0, hxs0⟩ : ∃ t, Hid (u10.heap.size = t) := ⟨_, rfl⟩
        rw [hV11.out, hxs0.out] at HF
        have hV11' := hV11.out
        unfold MBox at hV11'
        have hxs0' := hxs0.out
        obtain ⟨c00, c01, c02⟩ := mcells_of (HF.out.at 4 rfl : V11.heap[ia]? = some (MBox rx cx ta n ca))
        obtain ⟨c10, c11, c12⟩ := mcells_of (HF.out.at 2 rfl : V11.heap[ic]? = some (MBox rz cz tc l cc))
        go_wp2_with fail
        refine (HM2.out _ _ _ _ _ (HF.out.get (g := fun W => FlM W ta n ca xs) 3 rfl) (HF.out.get (g := fun W => FlM W tc l cc zs) 1 rfl)).mono ?_
        rintro e u12 ⟨⟨I0, I1, I2, I3, I4, rfl, hres⟩, hb⟩
        have HF : Hid (FrQ w u12 [(xs0, MBox H0 H1 H2 H3 H4), (x2, MBox D0 D1 D2 D3 D4), (ic, MBox rz cz tc l cc), (ib, MBox ry cy tb m cb), (ia, MBox rx cx ta n ca)] [fun W => ResM ST (rx.toNat + ry.toNat) cx.toNat (stkV xs ys rx.toNat cx.toNat) W H0 H1 H2 H3 H4, fun W => FlM W tc l cc zs, fun W => FlM W tb m cb ys, fun W => FlM W ta n ca xs]) := HF.out.call hb
        have HF : Hid (FrQ w u12 [(xs0, MBox H0 H1 H2 H3 H4), (x2, MBox D0 D1 D2 D3 D4), (ic, MBox rz cz tc l cc), (ib, MBox ry cy tb m cb), (ia, MBox rx cx ta n ca)] [fun W => ResM M2 rx.toNat cz.toNat (prdV xs zs cx.toNat cz.toNat) W I0 I1 I2 I3 I4, fun W => ResM ST (rx.toNat + ry.toNat) cx.toNat (stkV xs ys rx.toNat cx.toNat) W H0 H1 H2 H3 H4, fun W => FlM W tc l cc zs, fun W => FlM W tb m cb ys, fun W => FlM W ta n ca xs]) := HF.out.add (kept_res _ _ _ _ _ _ _ _ _) hres
        clear hb
        clear hres
        obtain ⟨z0, z1, z2⟩ := mcells_of (HF.out.at 1 rfl : u12.heap[x2]? = some (MBox D0 D1 D2 D3 D4))
        have fz := frzM (HF.out.at 1 rfl : u12.heap[x2]? = some (MBox D0 D1 D2 D3 D4))
        have HF : Hid (FrQ w (StoM u12 x2 I0 I1 I2 I3 I4) [(xs0, MBox H0 H1 H2 H3 H4), (x2, MBox I0 I1 I2 I3 I4), (ic, MBox rz cz tc l cc), (ib, MBox ry cy tb m cb), (ia, MBox rx cx ta n ca)] [fun W => ResM M2 rx.toNat cz.toNat (prdV xs zs cx.toNat cz.toNat) W I0 I1 I2 I3 I4, fun W => ResM ST (rx.toNat + ry.toNat) cx.toNat (stkV xs ys rx.toNat cx.toNat) W H0 H1 H2 H3 H4, fun W => FlM W tc l cc zs, fun W => FlM W tb m cb ys, fun W => FlM W ta n ca xs]) := HF.out.sto 1 rfl
        obtain ⟨U13, hU13⟩ : ∃ V, Hid ((StoM u12 x2 I0 I1 I2 I3 I4) = V) := ⟨_, rfl⟩
        rw [hU13.out] at HF
        have hU13' := hU13.out
        unfold StoM at hU13'
        obtain ⟨c00, c01, c02⟩ := mcells_of (HF.out.at 3 rfl : U13.heap[ib]? = some (MBox ry cy tb m cb))
        obtain ⟨c10, c11, c12⟩ := mcells_of (HF.out.at 2 rfl : U13.heap[ic]? = some (MBox rz cz tc l cc))
        go_wp2_with fail
        refine (HM3.out _ _ _ _ _ (HF.out.get (g := fun W => FlM W tb m cb ys) 3 rfl) (HF.out.get (g := fun W => FlM W tc l cc zs) 2 rfl)).mono ?_
        rintro e u14 ⟨⟨J0, J1, J2, J3, J4, rfl, hres⟩, hb⟩
        have HF : Hid (FrQ w u14 [(xs0, MBox H0 H1 H2 H3 H4), (x2, MBox I0 I1 I2 I3 I4), (ic, MBox rz cz tc l cc), (ib, MBox ry cy tb m cb), (ia, MBox rx cx ta n ca)] [fun W => ResM M2 rx.toNat cz.toNat (prdV xs zs cx.toNat cz.toNat) W I0 I1 I2 I3 I4, fun W => ResM ST (rx.toNat + ry.toNat) cx.toNat (stkV xs ys rx.toNat cx.toNat) W H0 H1 H2 H3 H4, fun W => FlM W tc l cc zs, fun W => FlM W tb m cb ys, fun W => FlM W ta n ca xs]) := HF.out.call hb
        have HF : Hid (FrQ w u14 [(xs0, MBox H0 H1 H2 H3 H4), (x2, MBox I0 I1 I2 I3 I4), (ic, MBox rz cz tc l cc), (ib, MBox ry cy tb m cb), (ia, MBox rx cx ta n ca)] [fun W => ResM M3 ry.toNat cz.toNat (prdV ys zs cy.toNat cz.toNat) W J0 J1 J2 J3 J4, fun W => ResM M2 rx.toNat cz.toNat (prdV xs zs cx.toNat cz.toNat) W I0 I1 I2 I3 I4, fun W => ResM ST (rx.toNat + ry.toNat) cx.toNat (stkV xs ys rx.toNat cx.toNat) W H0 H1 H2 H3 H4, fun W => FlM W tc l cc zs, fun W => FlM W tb m cb ys, fun W => FlM W ta n ca xs]) := HF.out.add (kept_res _ _ _ _ _ _ _ _ _) hres
        clear hb
        clear hres
        have HF : Hid (FrQ w (u14.alloc (MBox J0 J1 J2 J3 J4)) [(u14.heap.size, MBox J0 J1 J2 J3 J4), (xs0, MBox H0 H1 H2 H3 H4), (x2, MBox I0 I1 I2 I3 I4), (ic, MBox rz cz tc l cc), (ib, MBox ry cy tb m cb), (ia, MBox rx cx ta n ca)] [fun W => ResM M3 ry.toNat cz.toNat (prdV ys zs cy.toNat cz.toNat) W J0 J1 J2 J3 J4, fun W => ResM M2 rx.toNat cz.toNat (prdV xs zs cx.toNat cz.toNat) W I0 I1 I2 I3 I4, fun W => ResM ST (rx.toNat + ry.toNat) cx.toNat (stkV xs ys rx.toNat cx.toNat) W H0 H1 H2 H3 H4, fun W => FlM W tc l cc zs, fun W => FlM W tb m cb ys, fun W => FlM W ta n ca xs]) := HF.out.alloc _
        obtain ⟨V15, hV15⟩ : ∃ V, Hid (u14.alloc (MBox J0 J1 J2 J3 J4) = V) := ⟨_, rfl⟩
        obtain ⟨x3, hx3⟩ : ∃ t, Hid (u14.heap.size = t) := ⟨_, rfl⟩
        rw [hV15.out, hx3.out] at HF
        have hV15' := hV15.out
        unfold MBox at hV15'
        have hx3' := hx3.out
        by_cases h1 : ST = 0
        · by_cases h2 : M2 = 0
          · by_cases h3 : M3 = 0
            · have e1 : (ST == 0) = true := by simpa using h1
              have d1 : (ST != 0) = false := by simpa using h1
              have e2 : (M2 == 0) = true := by simpa using h2
              have d2 : (M2 != 0) = false := by simpa using h2
              have e3 : (M3 == 0) = true := by simpa using h3
              have d3 : (M3 != 0) = false := by simpa using h3
              have HZ0 := hid (hST.out.trans h1)
              have HZ1 := hid (hM2.out.trans h2)
              have HZ2 := hid (hM3.out.trans h3)
              obtain ⟨r1, r2, c, c2, g1, g2, g3, g4, g5, g6, g7, g8, g9, ga, gb⟩ := over_ready HZ0.out HZ1.out HZ2.out
              have G1 := hid g1
              have G2 := hid g2
              have G3 := hid g3
              have G4 := hid g4
              have G5 := hid g5
              have G6 := hid g6
              have G7 := hid g7
              have G8 := hid g8
              have G9 := hid g9
              have Ga := hid ga
              have Gb := hid gb
              clear g1 g2 g3 g4 g5 g6 g7 g8 g9 ga gb h1 h2 h3
              obtain ⟨c00, c01, c02⟩ := mcells_of (HF.out.at 3 rfl : V15.heap[ic]? = some (MBox rz cz tc l cc))
              obtain ⟨c10, c11, c12⟩ := mcells_of (HF.out.at 1 rfl : V15.heap[xs0]? = some (MBox H0 H1 H2 H3 H4))
              go_wp2_with fail
              refine (MulOver_tot (n := n) (m := m) G1.out G2.out G3.out G5.out G6.out G7.out G9.out Ga.out Gb.out HZ0.out (HF.out.get (g := fun W => FlM W tc l cc zs) 3 rfl) (by have h := (HF.out.get (g := fun W => ResM ST (rx.toNat + ry.toNat) cx.toNat (stkV xs ys rx.toNat cx.toNat) W H0 H1 H2 H3 H4) 2 rfl); rw [← hST.out] at h; exact h)).mono ?_
              rintro e u16 ⟨⟨K0, K1, K2, K3, K4, rfl, hres⟩, hb⟩
              have HF : Hid (FrQ w u16 [(x3, MBox J0 J1 J2 J3 J4), (xs0, MBox H0 H1 H2 H3 H4), (x2, MBox I0 I1 I2 I3 I4), (ic, MBox rz cz tc l cc), (ib, MBox ry cy tb m cb), (ia, MBox rx cx ta n ca)] [fun W => ResM M3 ry.toNat cz.toNat (prdV ys zs cy.toNat cz.toNat) W J0 J1 J2 J3 J4, fun W => ResM M2 rx.toNat cz.toNat (prdV xs zs cx.toNat cz.toNat) W I0 I1 I2 I3 I4, fun W => ResM ST (rx.toNat + ry.toNat) cx.toNat (stkV xs ys rx.toNat cx.toNat) W H0 H1 H2 H3 H4, fun W => FlM W tc l cc zs, fun W => FlM W tb m cb ys, fun W => FlM W ta n ca xs]) := HF.out.call hb
              have HF : Hid (FrQ w u16 [(x3, MBox J0 J1 J2 J3 J4), (xs0, MBox H0 H1 H2 H3 H4), (x2, MBox I0 I1 I2 I3 I4), (ic, MBox rz cz tc l cc), (ib, MBox ry cy tb m cb), (ia, MBox rx cx ta n ca)] [fun W => ResM 0 (r1 + r2) c2 (overV r1 (prdV xs zs c c2) (prdV ys zs c c2)) W K0 K1 K2 K3 K4, fun W => ResM M3 ry.toNat cz.toNat (prdV ys zs cy.toNat cz.toNat) W J0 J1 J2 J3 J4, fun W => ResM M2 rx.toNat cz.toNat (prdV xs zs cx.toNat cz.toNat) W I0 I1 I2 I3 I4, fun W => ResM ST (rx.toNat + ry.toNat) cx.toNat (stkV xs ys rx.toNat cx.toNat) W H0 H1 H2 H3 H4, fun W => FlM W tc l cc zs, fun W => FlM W tb m cb ys, fun W => FlM W ta n ca xs]) := HF.out.add (kept_res _ _ _ _ _ _ _ _ _) hres
              clear hb
              clear hres
              have HF : Hid (FrQ w (u16.alloc (MBox K0 K1 K2 K3 K4)) [(u16.heap.size, MBox K0 K1 K2 K3 K4), (x3, MBox J0 J1 J2 J3 J4), (xs0, MBox H0 H1 H2 H3 H4), (x2, MBox I0 I1 I2 I3 I4), (ic, MBox rz cz tc l cc), (ib, MBox ry cy tb m cb), (ia, MBox rx cx ta n ca)] [fun W => ResM 0 (r1 + r2) c2 (overV r1 (prdV xs zs c c2) (prdV ys zs c c2)) W K0 K1 K2 K3 K4, fun W => ResM M3 ry.toNat cz.toNat (prdV ys zs cy.toNat cz.toNat) W J0 J1 J2 J3 J4, fun W => ResM M2 rx.toNat cz.toNat (prdV xs zs cx.toNat cz.toNat) W I0 I1 I2 I3 I4, fun W => ResM ST (rx.toNat + ry.toNat) cx.toNat (stkV xs ys rx.toNat cx.toNat) W H0 H1 H2 H3 H4, fun W => FlM W tc l cc zs, fun W => FlM W tb m cb ys, fun W => FlM W ta n ca xs]) := HF.out.alloc _
              obtain ⟨V17, hV17⟩ : ∃ V, Hid (u16.alloc (MBox K0 K1 K2 K3 K4) = V) := ⟨_, rfl⟩
              obtain ⟨x5, hx5⟩ : ∃ t, Hid (u16.heap.size = t) := ⟨_, rfl⟩
              rw [hV17.out, hx5.out] at HF
              have hV17' := hV17.out
              unfold MBox at hV17'
              have hx5' := hx5.out
              obtain ⟨c00, c01, c02⟩ := mcells_of (HF.out.at 3 rfl : V17.heap[x2]? = some (MBox I0 I1 I2 I3 I4))
              obtain ⟨c10, c11, c12⟩ := mcells_of (HF.out.at 1 rfl : V17.heap[x3]? = some (MBox J0 J1 J2 J3 J4))
              go_wp2_with fail
              refine (Stack_res G8.out G9.out (mul_zero_res G1.out G2.out G6.out HZ1.out (by have h := (HF.out.get (g := fun W => ResM M2 rx.toNat cz.toNat (prdV xs zs cx.toNat cz.toNat) W I0 I1 I2 I3 I4) 2 rfl); rw [← hM2.out] at h; exact h)) (mul_zero_res G3.out G4.out G6.out HZ2.out (by have h := (HF.out.get (g := fun W => ResM M3 ry.toNat cz.toNat (prdV ys zs cy.toNat cz.toNat) W J0 J1 J2 J3 J4) 1 rfl); rw [← hM3.out] at h; exact h))).mono ?_
              rintro e u18 ⟨⟨L0, L1, L2, L3, L4, rfl, hres⟩, hb⟩
              have HF : Hid (FrQ w u18 [(x5, MBox K0 K1 K2 K3 K4), (x3, MBox J0 J1 J2 J3 J4), (xs0, MBox H0 H1 H2 H3 H4), (x2, MBox I0 I1 I2 I3 I4), (ic, MBox rz cz tc l cc), (ib, MBox ry cy tb m cb), (ia, MBox rx cx ta n ca)] [fun W => ResM 0 (r1 + r2) c2 (overV r1 (prdV xs zs c c2) (prdV ys zs c c2)) W K0 K1 K2 K3 K4, fun W => ResM M3 ry.toNat cz.toNat (prdV ys zs cy.toNat cz.toNat) W J0 J1 J2 J3 J4, fun W => ResM M2 rx.toNat cz.toNat (prdV xs zs cx.toNat cz.toNat) W I0 I1 I2 I3 I4, fun W => ResM ST (rx.toNat + ry.toNat) cx.toNat (stkV xs ys rx.toNat cx.toNat) W H0 H1 H2 H3 H4, fun W => FlM W tc l cc zs, fun W => FlM W tb m cb ys, fun W => FlM W ta n ca xs]) := HF.out.call hb
              have HF : Hid (FrQ w u18 [(x5, MBox K0 K1 K2 K3 K4), (x3, MBox J0 J1 J2 J3 J4), (xs0, MBox H0 H1 H2 H3 H4), (x2, MBox I0 I1 I2 I3 I4), (ic, MBox rz cz tc l cc), (ib, MBox ry cy tb m cb), (ia, MBox rx cx ta n ca)] [fun W => ResM 0 (r1 + r2) c2 (overV r1 (prdV xs zs c c2) (prdV ys zs c c2)) W L0 L1 L2 L3 L4, fun W => ResM 0 (r1 + r2) c2 (overV r1 (prdV xs zs c c2) (prdV ys zs c c2)) W K0 K1 K2 K3 K4, fun W => ResM M3 ry.toNat cz.toNat (prdV ys zs cy.toNat cz.toNat) W J0 J1 J2 J3 J4, fun W => ResM M2 rx.toNat cz.toNat (prdV xs zs cx.toNat cz.toNat) W I0 I1 I2 I3 I4, fun W => ResM ST (rx.toNat + ry.toNat) cx.toNat (stkV xs ys rx.toNat cx.toNat) W H0 H1 H2 H3 H4, fun W => FlM W tc l cc zs, fun W => FlM W tb m cb ys, fun W => FlM W ta n ca xs]) := HF.out.add (kept_res _ _ _ _ _ _ _ _ _) hres
              clear hb
              clear hres
              have HF : Hid (FrQ w (u18.alloc (MBox L0 L1 L2 L3 L4)) [(u18.heap.size, MBox L0 L1 L2 L3 L4), (x5, MBox K0 K1 K2 K3 K4), (x3, MBox J0 J1 J2 J3 J4), (xs0, MBox H0 H1 H2 H3 H4), (x2, MBox I0 I1 I2 I3 I4), (ic, MBox rz cz tc l cc), (ib, MBox ry cy tb m cb), (ia, MBox rx cx ta n ca)] [fun W => ResM 0 (r1 + r2) c2 (overV r1 (prdV xs zs c c2) (prdV ys zs c c2)) W L0 L1 L2 L3 L4, fun W => ResM 0 (r1 + r2) c2 (overV r1 (prdV xs zs c c2) (prdV ys zs c c2)) W K0 K1 K2 K3 K4, fun W => ResM M3 ry.toNat cz.toNat (prdV ys zs cy.toNat cz.toNat) W J0 J1 J2 J3 J4, fun W => ResM M2 rx.toNat cz.toNat (prdV xs zs cx.toNat cz.toNat) W I0 I1 I2 I3 I4, fun W => ResM ST (rx.toNat + ry.toNat) cx.toNat (stkV xs ys rx.toNat cx.toNat) W H0 H1 H2 H3 H4, fun W => FlM W tc l cc zs, fun W => FlM W tb m cb ys, fun W => FlM W ta n ca xs]) := HF.out.alloc _
              obtain ⟨V19, hV19⟩ : ∃ V, Hid (u18.alloc (MBox L0 L1 L2 L3 L4) = V) := ⟨_, rfl⟩
              obtain ⟨x6, hx6⟩ : ∃ t, Hid (u18.heap.size = t) := ⟨_, rfl⟩
              rw [hV19.out, hx6.out] at HF
              have hV19' := hV19.out
              unfold MBox at hV19'
              have hx6' := hx6.out
              obtain ⟨c00, c01, c02⟩ := mcells_of (HF.out.at 1 rfl : V19.heap[x5]? = some (MBox K0 K1 K2 K3 K4))
              obtain ⟨c10, c11, c12⟩ := mcells_of (HF.out.at 0 rfl : V19.heap[x6]? = some (MBox L0 L1 L2 L3 L4))
              go_wp2_with fail
              refine (alike_res _ _ _ _ _ _ _ _ _ _ _ _ _ _ _ (HF.out.get (g := fun W => ResM 0 (r1 + r2) c2 (overV r1 (prdV xs zs c c2) (prdV ys zs c c2)) W K0 K1 K2 K3 K4) 1 rfl) (HF.out.get (g := fun W => ResM 0 (r1 + r2) c2 (overV r1 (prdV xs zs c c2) (prdV ys zs c c2)) W L0 L1 L2 L3 L4) 0 rfl) (fun _ _ _ _ => rfl)).mono ?_
              rintro e u20 ⟨rfl, hb⟩
              have HF : Hid (FrQ w u20 [(x6, MBox L0 L1 L2 L3 L4), (x5, MBox K0 K1 K2 K3 K4), (x3, MBox J0 J1 J2 J3 J4), (xs0, MBox H0 H1 H2 H3 H4), (x2, MBox I0 I1 I2 I3 I4), (ic, MBox rz cz tc l cc), (ib, MBox ry cy tb m cb), (ia, MBox rx cx ta n ca)] [fun W => ResM 0 (r1 + r2) c2 (overV r1 (prdV xs zs c c2) (prdV ys zs c c2)) W L0 L1 L2 L3 L4, fun W => ResM 0 (r1 + r2) c2 (overV r1 (prdV xs zs c c2) (prdV ys zs c c2)) W K0 K1 K2 K3 K4, fun W => ResM M3 ry.toNat cz.toNat (prdV ys zs cy.toNat cz.toNat) W J0 J1 J2 J3 J4, fun W => ResM M2 rx.toNat cz.toNat (prdV xs zs cx.toNat cz.toNat) W I0 I1 I2 I3 I4, fun W => ResM ST (rx.toNat + ry.toNat) cx.toNat (stkV xs ys rx.toNat cx.toNat) W H0 H1 H2 H3 H4, fun W => FlM W tc l cc zs, fun W => FlM W tb m cb ys, fun W => FlM W ta n ca xs]) := HF.out.call hb
              clear hb
              go_wp2_with fail
              go_ret
              exact ⟨rfl, HF.out.bel⟩
            · have e1 : (ST == 0) = true := by simpa using h1
              have d1 : (ST != 0) = false := by simpa using h1
              have e2 : (M2 == 0) = true := by simpa using h2
              have d2 : (M2 != 0) = false := by simpa using h2
              have e3 : (M3 == 0) = false := by simpa using h3
              have d3 : (M3 != 0) = true := by simpa using h3
              go_wp2_with fail
              go_ret
              exact ⟨rfl, HF.out.bel⟩
          · have e1 : (ST == 0) = true := by simpa using h1
            have d1 : (ST != 0) = false := by simpa using h1
            have e2 : (M2 == 0) = false := by simpa using h2
            have d2 : (M2 != 0) = true := by simpa using h2
            go_wp2_with fail
            go_ret
            exact ⟨rfl, HF.out.bel⟩
        · have e1 : (ST == 0) = false := by simpa using h1
          have d1 : (ST != 0) = true := by simpa using h1
          go_wp2_with fail
          go_ret
          exact ⟨rfl, HF.out.bel⟩
end Go.Proofs.Ytehgiegmdpaomaa
