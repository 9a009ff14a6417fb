
/- The law MatrixParts. (Written by mkndo.py.) -/
import Derived.Test.YtjaljdodlfmebaaP48
import Derived.Test.YtjaljdodlfmebaaP40
import Derived.Lib.Slices
namespace Go.Proofs.Ytjaljdodlfmebaa
open Go.RowKit Go.IntWalk

/-- An append as one step of a straight region. -/
theorem wpList_apq {ops : Array Oper} {rest : List Oper} {o : Oper} {a : Act} {w w' : World} {Q : Exit → Act → World → Prop} {r : Value} (T : TypeId)
    (hg : o.guard = none) (s x : Operand) (hop : o.op = Op.call { callee := Callee.builtin Builtin.append, args := #[s, x], argTypes := #[T, T] })
    (u v : Value) (hs : a.eval s = u) (hx : a.eval x = v) (hrun : (Builtin.append_ #[T, T] o.type #[u, v]).run Try.prog w = .ok r w') (hK : wpList Try.prog ops Q rest (a.put o.dst r) w') :
    wpList Try.prog ops Q (o :: rest) a w := by
  refine wpList_plain hg fun K hK2 => ?_
  unfold Oper.wp execOp
  simp only [hop, resolve, invoke, builtin, Sem.run_bind, Sem.run_pure, Result.andThen_ok, List.map_toArray, List.map_cons, List.map_nil, hs, hx, hrun]
  exact hK2 _ _ hK
theorem info_iq0 : (Try.prog.info? 3).map (fun i => (i.zero, i.size, i.bytes)) = some (some (.int .i64 0), 1, 8) := by kernel_rfl
theorem info_iq : ∃ i, Try.prog.info? 3 = some i ∧ i.zero = some (.int .i64 0) ∧ i.size = 1 ∧ i.bytes = 8 := by
  have h := info_iq0
  cases hi : Try.prog.info? 3 with
  | none => rw [hi] at h; cases h
  | some i =>
    rw [hi] at h
    simp only [Option.map_some, Option.some.injEq, Prod.mk.injEq] at h
    exact ⟨i, rfl, h.1, h.2.1, h.2.2⟩
/-- append([]int{}, l...): a copy. -/
theorem append_intq (ty : TypeId) (pa : Option Addr) (m pc : Nat) (xs : List Int) (w : World) (h : I64At w pa m xs) (hm : m ≤ 17592186043904) :
    ∃ a' cap' w', (Builtin.append_ #[25, 25] ty #[.slice (some ⟨w.heap.size, 0, none⟩) 0 0, .slice pa m pc]).run Try.prog (w.alloc (.cells #[] 3)) = .ok (.slice a' m cap') w' ∧ I64At w' a' m xs ∧ Below w.heap.size w w' := by
  obtain ⟨i, hi, hz, hsz, hby⟩ := info_iq
  have hal : Below w.heap.size w (w.alloc (.cells #[] 3)) := (Below.refl _ _).alloc (Nat.le_refl _) _
  by_cases h0 : m = 0
  · subst h0
    refine ⟨some ⟨w.heap.size, 0, none⟩, 0, w.alloc (.cells #[] 3), ?_, ⟨h.1, h.2.1, fun h => absurd rfl h⟩, hal⟩
    cases pa with
    | none => simp [Builtin.append_, run_underlying Try.underlying25, sizeOf, typeInfo, hi, Builtin.lenOf, Builtin.firstCells, storeCells]
    | some a => simp [Builtin.append_, run_underlying Try.underlying25, sizeOf, typeInfo, hi, Builtin.lenOf, Builtin.firstCells, loadCells, loadCellsFrom, storeCells]
  · obtain ⟨b, off, rfl, hbl, hc⟩ := h.2.2 h0
    have hown : (w.alloc (.cells #[] 3)).ownsRow w.heap.size 3 1 (.slice (some ⟨w.heap.size, 0, none⟩) 0 0) 0 [] := ⟨rfl, Or.inr ⟨w.heap.size, 0, #[], rfl, Nat.le_refl _, nblkM _ _, Nat.le_refl _, Nat.zero_le _, rfl, rfl⟩⟩
    have hl := h.1
    have hcell : ∀ j u, (xs.map (fun x => Value.int .i64 x))[j]? = some u → (w.alloc (.cells #[] 3)).cell? ((⟨b, off, none⟩ : Addr).add j) = some u := by
      intro j u hj
      rw [List.getElem?_map] at hj
      obtain ⟨x, hx, rfl⟩ := Option.map_eq_some_iff.1 hj
      obtain ⟨hjl, rfl⟩ := List.getElem?_eq_some_iff.1 hx
      rw [Go.WideShapes.add_plain, hal.cell (p := ⟨b, off + j, none⟩) hbl, hc j (by omega), List.getD_eq_getElem?_getD, hx]
      rfl
    obtain ⟨v', w', hr, hown', hgr, _⟩ := run_append_own (P := Try.prog) (w.alloc (.cells #[] 3)) w.heap.size 25 ty 3 i (.int .i64 0) 1 8 Try.underlying25 hi hz hsz hby rfl (by decide) (.slice (some ⟨w.heap.size, 0, none⟩) 0 0) 0 [] hown ⟨b, off, none⟩ m pc (xs.map (fun x => Value.int .i64 x)) (by simp [hl]) hcell (by intro u hu; obtain ⟨x, _, rfl⟩ := List.mem_map.1 hu; rfl) (by unfold maxLen; omega) (by omega) (by simp)
    rw [Nat.zero_add, List.nil_append] at hown'
    rcases Joins.ownsRow_forms hown' with ⟨_, h1⟩ | ⟨g, cap, rfl⟩
    · exact absurd h1 h0
    · refine ⟨some ⟨g, 0, none⟩, cap, w', hr, ⟨h.1, h.2.1, fun _ => ⟨g, 0, rfl, (hown'.lt g rfl).2, fun j hj => ?_⟩⟩, hal.trans ((Below.refl _ _).grown hgr (by simp) (fun x hx => (World.ownsRow.lt hown x hx).1))⟩
      have hcs := hown'.cells (g := g) rfl j (.int .i64 (xs.getD j 0)) (by rw [List.getElem?_map, List.getElem?_eq_getElem (by omega), List.getD_eq_getElem?_getD, List.getElem?_eq_getElem (by omega)]; rfl)
      rw [Go.WideShapes.add_plain] at hcs
      exact hcs
set_option maxRecDepth 20000 in
set_option maxHeartbeats 16000000 in
theorem mpart_walk (rx cx : Int) (sa : Option Addr) (n ka : Nat) (xs : List Nat) (ry cy : Int) (sb : Option Addr) (m kb : Nat) (ys : List Nat) (i0 j0 a0 b0 : Int) (pa : Option Addr) (q pc : Nat) (ps : List Int) (w : World) (hu : U64At w sa n xs) (hn : n ≤ 17592186043904) (hv : U64At w sb m ys) (hm : m ≤ 17592186043904) (ha : a0 ≤ 9223372036854775807) (hb : b0 ≤ 9223372036854775807) (hl : I64At w pa q ps) (hq : q ≤ 17592186043904) :
    Calls Try.prog 3 #[.agg #[.int .i64 rx, .int .i64 cx, .slice sa n ka], .agg #[.int .i64 ry, .int .i64 cy, .slice sb m kb], .int .i64 i0, .int .i64 j0, .int .i64 a0, .int .i64 b0, .slice pa q pc] w fun e w' => e = .returned (.bool true) ∧ Below w.heap.size w w' := by
  have HOX := hid (fun W (hW : Below w.heap.size w W) => of_any rx cx sa n ka xs W (hu.below hW) hn)
  have HOY := hid (fun W (hW : Below w.heap.size w W) => of_any ry cy sb m kb ys W (hv.below hW) hm)
  have HAP := hid (fun W (hW : Below w.heap.size w W) => append_intq 25 pa q pc ps W (hl.belo hW) hq)
  have HNM := hid (And.intro hn hm)
  have HAB := hid (And.intro ha hb)
  have HPL := hid hl
  have HF : Hid (FrQ w ((w.alloc (BBox rx cx sa n ka)).alloc (BBox ry cy sb m kb)) [(w.heap.size + 1, BBox ry cy sb m kb), (w.heap.size, BBox rx cx sa n ka)] []) := by
    have := ((FrQ.start w).alloc (BBox rx cx sa n ka)).alloc (BBox ry cy sb m kb)
    rw [show (w.alloc (BBox rx cx sa n ka)).heap.size = w.heap.size + 1 from by simp] at this
    exact this
  obtain ⟨V, hV⟩ : ∃ V, Hid ((w.alloc (BBox rx cx sa n ka)).alloc (BBox ry cy sb m kb) = V) := ⟨_, rfl⟩
  obtain ⟨p0, hp0⟩ : ∃ t, Hid (w.heap.size = t) := ⟨_, rfl⟩
  obtain ⟨p1, hp1⟩ : ∃ t, Hid (p0 + 1 = t) := ⟨_, rfl⟩
  rw [hV.out, hp0.out, hp1.out] at HF
  have hV' := hV.out
  unfold BBox at hV'
  have hp0' := hp0.out
  have hp1' := hp1.out
  clear hu hv hn hm ha hb hl hq
  go_enter Try.func3, Try.ntmps3
  have HKT : Hid (∀ W, Hid (FrQ w W [(p1, BBox ry cy sb m kb), (p0, BBox rx cx sa n ka)] []) → (W.cell? ⟨p0, 0, none⟩ = some (.int .i64 rx) ∧ W.cell? ⟨p0, 1, none⟩ = some (.int .i64 cx) ∧ W.cell? ⟨p0, 2, none⟩ = some (.slice sa n ka) ∧ W.cell? ⟨p1, 0, none⟩ = some (.int .i64 ry) ∧ W.cell? ⟨p1, 1, none⟩ = some (.int .i64 cy) ∧ W.cell? ⟨p1, 2, none⟩ = some (.slice sb m kb)) ∧ Hid (FrQ w W [(p1, BBox ry cy sb m kb), (p0, BBox rx cx sa n ka)] [])) := fun W hW => by
    obtain ⟨a00, a01, a02⟩ := bcells_of (hW.out.at 1 rfl : W.heap[p0]? = some (BBox rx cx sa n ka))
    obtain ⟨a10, a11, a12⟩ := bcells_of (hW.out.at 0 rfl : W.heap[p1]? = some (BBox ry cy sb m kb))
    exact ⟨⟨a00, a01, a02, a10, a11, a12⟩, hW⟩
  have HQ0 : Hid (FrQ w V.drew [(p1, BBox ry cy sb m kb), (p0, BBox rx cx sa n ka)] []) := HF.out.drew
  have HQS0 : Hid (FrQ w V.drew [(p1, BBox ry cy sb m kb), (p0, BBox rx cx sa n ka)] []) := HQ0.out.sub (.cons_cons _ (.cons_cons _ .slnil)) .slnil
  go_wp2_with fail
  refine region_merge2 (fun a0 a' w' => ∃ (ta : Option Addr) (ca : Nat) (tb : Option Addr) (cb ia ib : Nat), a' = Act.put (Act.put (Act.put (Act.put (Act.put (Act.put (a0) (some 23) (.agg #[.int .i64 rx, .int .i64 cx, .slice sa n ka])) (some 25) (.agg #[.int .i64 ry, .int .i64 cy, .slice sb m kb])) (some 24) (.agg #[.int .i64 rx, .int .i64 cx, .slice ta n ca])) (some 26) (.agg #[.int .i64 ry, .int .i64 cy, .slice tb m cb])) (some 15) (.pointer (some ⟨ia, 0, none⟩))) (some 16) (.pointer (some ⟨ib, 0, none⟩)) ∧ FrQ w w' [(ib, MBox ry cy tb m cb), (ia, MBox rx cx ta n ca), (p1, BBox ry cy sb m kb), (p0, BBox rx cx sa n ka)] [fun W => FlM W tb m cb ys, fun W => FlM W ta n ca xs]) (fun HR => ?_) ?_
  · simp only [Act.put, List.setIfInBounds_toArray, List.set_cons_zero, List.set_cons_succ] at HR
    refine wp_region_held_drew (S := fun W => (W.cell? ⟨p0, 0, none⟩ = some (.int .i64 rx) ∧ W.cell? ⟨p0, 1, none⟩ = some (.int .i64 cx) ∧ W.cell? ⟨p0, 2, none⟩ = some (.slice sa n ka) ∧ W.cell? ⟨p1, 0, none⟩ = some (.int .i64 ry) ∧ W.cell? ⟨p1, 1, none⟩ = some (.int .i64 cy) ∧ W.cell? ⟨p1, 2, none⟩ = some (.slice sb m kb)) ∧ Hid (FrQ w W [(p1, BBox ry cy sb m kb), (p0, BBox rx cx sa n ka)] [])) (by kernel_rfl) (HKT.out _ HQS0) (fun hHeld => ?_)
    refine take_at 0 23 (.agg #[.int .i64 rx, .int .i64 cx, .slice sa n ka]) rfl rfl (by kernel_rfl) (by kernel_rfl) (by kernel_rfl) (fun _ _ _ h => h) (Or.inl ⟨by rfl, fun w hSw => by (try dsimp only at hSw); go_simp⟩) (by assumption) ?_
    simp only [Act.put, List.setIfInBounds_toArray, List.set_cons_zero, List.set_cons_succ]
    refine take_at 2 25 (.agg #[.int .i64 ry, .int .i64 cy, .slice sb m kb]) rfl rfl (by kernel_rfl) (by kernel_rfl) (by kernel_rfl) (fun _ _ _ h => h) (Or.inl ⟨by rfl, fun w hSw => by (try dsimp only at hSw); go_simp⟩) (by assumption) ?_
    simp only [Act.put, List.setIfInBounds_toArray, List.set_cons_zero, List.set_cons_succ]
    refine wpAnyH_ready (rs := [1, 4, 5]) (by kernel_rfl) (by simp) ?_
    refine AllReadyH.cons (o := _) rfl (fun K hK => ?_) (AllReadyH.cons (o := _) rfl (fun K hK => ?_) (AllReadyH.cons (o := _) rfl (fun K hK => ?_) AllReadyH.nil))
    · go_simp
      refine (HOX.out _ HQ0.out.bel).mono ?_
      rintro e t1 ⟨⟨ta, ca, rfl, hf⟩, hbq⟩
      have HQ1 := hid (HQ0.out.call hbq)
      have HQ1 := hid (HQ1.out.add (g := fun W => FlM W ta n ca xs) (kept_fl _ _ _ _) hf)
      clear hbq
      unfold MV
      go_wp2_with fail
      have HQS := hid (HQ1.out.sub (.cons_cons _ (.cons_cons _ .slnil)) (.cons _ .slnil))
      refine hK.out _ _ (HKT.out _ HQS) (fun hHeld1 => ?_)
      clear hK K HQS
      try simp only [Act.put, List.setIfInBounds_toArray, List.set_cons_zero, List.set_cons_succ]
      refine wpAnyH_ready (rs := [3, 4, 5]) (by kernel_rfl) (by simp) ?_
      refine AllReadyH.cons (o := _) rfl (fun K hK => ?_) (AllReadyH.cons (o := _) rfl (fun K hK => ?_) (AllReadyH.cons (o := _) rfl (fun K hK => ?_) AllReadyH.nil))
      · go_simp
        refine (HOY.out _ HQ1.out.bel).mono ?_
        rintro e t2 ⟨⟨tb, cb, rfl, hf⟩, hbq⟩
        have HQ2 := hid (HQ1.out.call hbq)
        have HQ2 := hid (HQ2.out.add (g := fun W => FlM W tb m cb ys) (kept_fl _ _ _ _) hf)
        clear hbq
        unfold MV
        go_wp2_with fail
        have HQS := hid (HQ2.out.sub (.cons_cons _ (.cons_cons _ .slnil)) (.cons _ (.cons _ .slnil)))
        refine hK.out _ _ (HKT.out _ HQS) (fun hHeld2 => ?_)
        clear hK K HQS
        try simp only [Act.put, List.setIfInBounds_toArray, List.set_cons_zero, List.set_cons_succ]
        refine wpAnyH_ready (rs := [4, 5]) (by kernel_rfl) (by simp) ?_
        refine AllReadyH.cons (o := _) rfl (fun K hK => ?_) (AllReadyH.cons (o := _) rfl (fun K hK => ?_) AllReadyH.nil)
        · have HQ3 := hid (HQ2.out.alloc (MBox 0 0 none 0 0))
          go_simp
          go_wp2_with fail
          have HQS := hid (HQ3.out.sub (.cons _ (.cons_cons _ (.cons_cons _ .slnil))) (.cons _ (.cons _ .slnil)))
          refine hK.out _ _ (HKT.out _ HQS) (fun hHeld3 => ?_)
          clear hK K HQS
          try simp only [Act.put, List.setIfInBounds_toArray, List.set_cons_zero, List.set_cons_succ]
          obtain ⟨t3, ht3⟩ : ∃ X, Hid (t2.alloc (MBox 0 0 none 0 0) = X) := ⟨_, rfl⟩
          obtain ⟨ia, hia⟩ : ∃ X, Hid (t2.heap.size = X) := ⟨_, rfl⟩
          rw [ht3.out, hia.out] at HQ3
          have hy1 : t2.alloc (.cells #[.int .i64 0, .int .i64 0, .slice none 0 0] 28) = t3 := ht3.out
          have hy2 := hia.out
          rw [hy1]
          rw [hy2]
          clear hy1 hy2
          refine wpAnyH_ready (rs := [5]) (by kernel_rfl) (by simp) ?_
          refine AllReadyH.cons (o := _) rfl (fun K hK => ?_) AllReadyH.nil
          have HQ4 := hid (HQ3.out.alloc (MBox 0 0 none 0 0))
          go_simp
          go_wp2_with fail
          have HQS := hid (HQ4.out.sub (.cons _ (.cons _ (.cons_cons _ (.cons_cons _ .slnil)))) (.cons _ (.cons _ .slnil)))
          refine hK.out _ _ (HKT.out _ HQS) (fun hHeld4 => ?_)
          clear hK K HQS
          try simp only [Act.put, List.setIfInBounds_toArray, List.set_cons_zero, List.set_cons_succ]
          obtain ⟨t4, ht4⟩ : ∃ X, Hid (t3.alloc (MBox 0 0 none 0 0) = X) := ⟨_, rfl⟩
          obtain ⟨ib, hib⟩ : ∃ X, Hid (t3.heap.size = X) := ⟨_, rfl⟩
          rw [ht4.out, hib.out] at HQ4
          have hy1 : t3.alloc (.cells #[.int .i64 0, .int .i64 0, .slice none 0 0] 28) = t4 := ht4.out
          have hy2 := hib.out
          rw [hy1]
          rw [hy2]
          clear hy1 hy2
          refine wpAnyH_ready (rs := [6]) (by kernel_rfl) (by simp) ?_
          refine AllReadyH.cons (o := _) rfl (fun K hK => ?_) AllReadyH.nil
          obtain ⟨z0, z1, z2⟩ := mcells_of (HQ4.out.at 1 rfl : t4.heap[ia]? = some (MBox 0 0 none 0 0))
          have fz := frzM (HQ4.out.at 1 rfl : t4.heap[ia]? = some (MBox 0 0 none 0 0))
          have HQ5 : Hid (FrQ w (StoM t4 ia rx cx ta n ca) [(ib, MBox 0 0 none 0 0), (ia, MBox rx cx ta n ca), (p1, BBox ry cy sb m kb), (p0, BBox rx cx sa n ka)] [fun W => FlM W tb m cb ys, fun W => FlM W ta n ca xs]) := HQ4.out.sto 1 rfl
          obtain ⟨U5, hU5⟩ : ∃ X, Hid ((StoM t4 ia rx cx ta n ca) = X) := ⟨_, rfl⟩
          rw [hU5.out] at HQ5
          have hU5' := hU5.out
          unfold StoM at hU5'
          go_simp
          go_wp2_with fail
          have HQS := hid (HQ5.out.sub (.cons _ (.cons _ (.cons_cons _ (.cons_cons _ .slnil)))) (.cons _ (.cons _ .slnil)))
          refine hK.out _ _ (HKT.out _ HQS) (fun hHeld5 => ?_)
          clear hK K HQS
          try simp only [Act.put, List.setIfInBounds_toArray, List.set_cons_zero, List.set_cons_succ]
          clear z0 z1 z2 fz
          refine wpAnyH_ready (rs := [7]) (by kernel_rfl) (by simp) ?_
          refine AllReadyH.cons (o := _) rfl (fun K hK => ?_) AllReadyH.nil
          obtain ⟨z0, z1, z2⟩ := mcells_of (HQ5.out.at 0 rfl : U5.heap[ib]? = some (MBox 0 0 none 0 0))
          have fz := frzM (HQ5.out.at 0 rfl : U5.heap[ib]? = some (MBox 0 0 none 0 0))
          have HQ6 : Hid (FrQ w (StoM U5 ib ry cy tb m cb) [(ib, MBox ry cy tb m cb), (ia, MBox rx cx ta n ca), (p1, BBox ry cy sb m kb), (p0, BBox rx cx sa n ka)] [fun W => FlM W tb m cb ys, fun W => FlM W ta n ca xs]) := HQ5.out.sto 0 rfl
          obtain ⟨U6, hU6⟩ : ∃ X, Hid ((StoM U5 ib ry cy tb m cb) = X) := ⟨_, rfl⟩
          rw [hU6.out] at HQ6
          have hU6' := hU6.out
          unfold StoM at hU6'
          go_simp
          go_wp2_with fail
          have HQS := hid (HQ6.out.sub (.cons _ (.cons _ (.cons_cons _ (.cons_cons _ .slnil)))) (.cons _ (.cons _ .slnil)))
          refine hK.out _ _ (HKT.out _ HQS) (fun hHeld6 => ?_)
          clear hK K HQS
          try simp only [Act.put, List.setIfInBounds_toArray, List.set_cons_zero, List.set_cons_succ]
          clear z0 z1 z2 fz
          refine wpAnyH_done (by kernel_rfl) ?_ _
          exact HR.out _ _ ⟨ta, ca, tb, cb, ia, ib, rfl, HQ6.out⟩
        · have HQ3 := hid (HQ2.out.alloc (MBox 0 0 none 0 0))
          go_simp
          go_wp2_with fail
          have HQS := hid (HQ3.out.sub (.cons _ (.cons_cons _ (.cons_cons _ .slnil))) (.cons _ (.cons _ .slnil)))
          refine hK.out _ _ (HKT.out _ HQS) (fun hHeld3 => ?_)
          clear hK K HQS
          try simp only [Act.put, List.setIfInBounds_toArray, List.set_cons_zero, List.set_cons_succ]
          obtain ⟨t3, ht3⟩ : ∃ X, Hid (t2.alloc (MBox 0 0 none 0 0) = X) := ⟨_, rfl⟩
          obtain ⟨ib, hib⟩ : ∃ X, Hid (t2.heap.size = X) := ⟨_, rfl⟩
          rw [ht3.out, hib.out] at HQ3
          have hy1 : t2.alloc (.cells #[.int .i64 0, .int .i64 0, .slice none 0 0] 28) = t3 := ht3.out
          have hy2 := hib.out
          rw [hy1]
          rw [hy2]
          clear hy1 hy2
          refine wpAnyH_ready (rs := [4]) (by kernel_rfl) (by simp) ?_
          refine AllReadyH.cons (o := _) rfl (fun K hK => ?_) AllReadyH.nil
          have HQ4 := hid (HQ3.out.alloc (MBox 0 0 none 0 0))
          go_simp
          go_wp2_with fail
          have HQS := hid (HQ4.out.sub (.cons _ (.cons _ (.cons_cons _ (.cons_cons _ .slnil)))) (.cons _ (.cons _ .slnil)))
          refine hK.out _ _ (HKT.out _ HQS) (fun hHeld4 => ?_)
          clear hK K HQS
          try simp only [Act.put, List.setIfInBounds_toArray, List.set_cons_zero, List.set_cons_succ]
          obtain ⟨t4, ht4⟩ : ∃ X, Hid (t3.alloc (MBox 0 0 none 0 0) = X) := ⟨_, rfl⟩
          obtain ⟨ia, hia⟩ : ∃ X, Hid (t3.heap.size = X) := ⟨_, rfl⟩
          rw [ht4.out, hia.out] at HQ4
          have hy1 : t3.alloc (.cells #[.int .i64 0, .int .i64 0, .slice none 0 0] 28) = t4 := ht4.out
          have hy2 := hia.out
          rw [hy1]
          rw [hy2]
          clear hy1 hy2
          refine wpAnyH_ready (rs := [6]) (by kernel_rfl) (by simp) ?_
          refine AllReadyH.cons (o := _) rfl (fun K hK => ?_) AllReadyH.nil
          obtain ⟨z0, z1, z2⟩ := mcells_of (HQ4.out.at 0 rfl : t4.heap[ia]? = some (MBox 0 0 none 0 0))
          have fz := frzM (HQ4.out.at 0 rfl : t4.heap[ia]? = some (MBox 0 0 none 0 0))
          have HQ5 : Hid (FrQ w (StoM t4 ia rx cx ta n ca) [(ia, MBox rx cx ta n ca), (ib, MBox 0 0 none 0 0), (p1, BBox ry cy sb m kb), (p0, BBox rx cx sa n ka)] [fun W => FlM W tb m cb ys, fun W => FlM W ta n ca xs]) := HQ4.out.sto 0 rfl
          obtain ⟨U5, hU5⟩ : ∃ X, Hid ((StoM t4 ia rx cx ta n ca) = X) := ⟨_, rfl⟩
          rw [hU5.out] at HQ5
          have hU5' := hU5.out
          unfold StoM at hU5'
          go_simp
          go_wp2_with fail
          have HQS := hid (HQ5.out.sub (.cons _ (.cons _ (.cons_cons _ (.cons_cons _ .slnil)))) (.cons _ (.cons _ .slnil)))
          refine hK.out _ _ (HKT.out _ HQS) (fun hHeld5 => ?_)
          clear hK K HQS
          try simp only [Act.put, List.setIfInBounds_toArray, List.set_cons_zero, List.set_cons_succ]
          clear z0 z1 z2 fz
          refine wpAnyH_ready (rs := [7]) (by kernel_rfl) (by simp) ?_
          refine AllReadyH.cons (o := _) rfl (fun K hK => ?_) AllReadyH.nil
          obtain ⟨z0, z1, z2⟩ := mcells_of (HQ5.out.at 1 rfl : U5.heap[ib]? = some (MBox 0 0 none 0 0))
          have fz := frzM (HQ5.out.at 1 rfl : U5.heap[ib]? = some (MBox 0 0 none 0 0))
          have HQ6 : Hid (FrQ w (StoM U5 ib ry cy tb m cb) [(ia, MBox rx cx ta n ca), (ib, MBox ry cy tb m cb), (p1, BBox ry cy sb m kb), (p0, BBox rx cx sa n ka)] [fun W => FlM W tb m cb ys, fun W => FlM W ta n ca xs]) := HQ5.out.sto 1 rfl
          obtain ⟨U6, hU6⟩ : ∃ X, Hid ((StoM U5 ib ry cy tb m cb) = X) := ⟨_, rfl⟩
          rw [hU6.out] at HQ6
          have hU6' := hU6.out
          unfold StoM at hU6'
          go_simp
          go_wp2_with fail
          have HQS := hid (HQ6.out.sub (.cons _ (.cons _ (.cons_cons _ (.cons_cons _ .slnil)))) (.cons _ (.cons _ .slnil)))
          refine hK.out _ _ (HKT.out _ HQS) (fun hHeld6 => ?_)
          clear hK K HQS
          try simp only [Act.put, List.setIfInBounds_toArray, List.set_cons_zero, List.set_cons_succ]
          clear z0 z1 z2 fz
          refine wpAnyH_done (by kernel_rfl) ?_ _
          have HQ6 : Hid (FrQ w U6 [(ib, MBox ry cy tb m cb), (ia, MBox rx cx ta n ca), (p1, BBox ry cy sb m kb), (p0, BBox rx cx sa n ka)] [fun W => FlM W tb m cb ys, fun W => FlM W ta n ca xs]) := HQ6.out.swap
          exact HR.out _ _ ⟨ta, ca, tb, cb, ia, ib, rfl, HQ6.out⟩
      · have HQ2 := hid (HQ1.out.alloc (MBox 0 0 none 0 0))
        go_simp
        go_wp2_with fail
        have HQS := hid (HQ2.out.sub (.cons _ (.cons_cons _ (.cons_cons _ .slnil))) (.cons _ .slnil))
        refine hK.out _ _ (HKT.out _ HQS) (fun hHeld2 => ?_)
        clear hK K HQS
        try simp only [Act.put, List.setIfInBounds_toArray, List.set_cons_zero, List.set_cons_succ]
        obtain ⟨t2, ht2⟩ : ∃ X, Hid (t1.alloc (MBox 0 0 none 0 0) = X) := ⟨_, rfl⟩
        obtain ⟨ia, hia⟩ : ∃ X, Hid (t1.heap.size = X) := ⟨_, rfl⟩
        rw [ht2.out, hia.out] at HQ2
        have hy1 : t1.alloc (.cells #[.int .i64 0, .int .i64 0, .slice none 0 0] 28) = t2 := ht2.out
        have hy2 := hia.out
        rw [hy1]
        rw [hy2]
        clear hy1 hy2
        refine wpAnyH_ready (rs := [3, 5]) (by kernel_rfl) (by simp) ?_
        refine AllReadyH.cons (o := _) rfl (fun K hK => ?_) (AllReadyH.cons (o := _) rfl (fun K hK => ?_) AllReadyH.nil)
        · go_simp
          refine (HOY.out _ HQ2.out.bel).mono ?_
          rintro e t3 ⟨⟨tb, cb, rfl, hf⟩, hbq⟩
          have HQ3 := hid (HQ2.out.call hbq)
          have HQ3 := hid (HQ3.out.add (g := fun W => FlM W tb m cb ys) (kept_fl _ _ _ _) hf)
          clear hbq
          unfold MV
          go_wp2_with fail
          have HQS := hid (HQ3.out.sub (.cons _ (.cons_cons _ (.cons_cons _ .slnil))) (.cons _ (.cons _ .slnil)))
          refine hK.out _ _ (HKT.out _ HQS) (fun hHeld3 => ?_)
          clear hK K HQS
          try simp only [Act.put, List.setIfInBounds_toArray, List.set_cons_zero, List.set_cons_succ]
          refine wpAnyH_ready (rs := [5]) (by kernel_rfl) (by simp) ?_
          refine AllReadyH.cons (o := _) rfl (fun K hK => ?_) AllReadyH.nil
          have HQ4 := hid (HQ3.out.alloc (MBox 0 0 none 0 0))
          go_simp
          go_wp2_with fail
          have HQS := hid (HQ4.out.sub (.cons _ (.cons _ (.cons_cons _ (.cons_cons _ .slnil)))) (.cons _ (.cons _ .slnil)))
          refine hK.out _ _ (HKT.out _ HQS) (fun hHeld4 => ?_)
          clear hK K HQS
          try simp only [Act.put, List.setIfInBounds_toArray, List.set_cons_zero, List.set_cons_succ]
          obtain ⟨t4, ht4⟩ : ∃ X, Hid (t3.alloc (MBox 0 0 none 0 0) = X) := ⟨_, rfl⟩
          obtain ⟨ib, hib⟩ : ∃ X, Hid (t3.heap.size = X) := ⟨_, rfl⟩
          rw [ht4.out, hib.out] at HQ4
          have hy1 : t3.alloc (.cells #[.int .i64 0, .int .i64 0, .slice none 0 0] 28) = t4 := ht4.out
          have hy2 := hib.out
          rw [hy1]
          rw [hy2]
          clear hy1 hy2
          refine wpAnyH_ready (rs := [6]) (by kernel_rfl) (by simp) ?_
          refine AllReadyH.cons (o := _) rfl (fun K hK => ?_) AllReadyH.nil
          obtain ⟨z0, z1, z2⟩ := mcells_of (HQ4.out.at 1 rfl : t4.heap[ia]? = some (MBox 0 0 none 0 0))
          have fz := frzM (HQ4.out.at 1 rfl : t4.heap[ia]? = some (MBox 0 0 none 0 0))
          have HQ5 : Hid (FrQ w (StoM t4 ia rx cx ta n ca) [(ib, MBox 0 0 none 0 0), (ia, MBox rx cx ta n ca), (p1, BBox ry cy sb m kb), (p0, BBox rx cx sa n ka)] [fun W => FlM W tb m cb ys, fun W => FlM W ta n ca xs]) := HQ4.out.sto 1 rfl
          obtain ⟨U5, hU5⟩ : ∃ X, Hid ((StoM t4 ia rx cx ta n ca) = X) := ⟨_, rfl⟩
          rw [hU5.out] at HQ5
          have hU5' := hU5.out
          unfold StoM at hU5'
          go_simp
          go_wp2_with fail
          have HQS := hid (HQ5.out.sub (.cons _ (.cons _ (.cons_cons _ (.cons_cons _ .slnil)))) (.cons _ (.cons _ .slnil)))
          refine hK.out _ _ (HKT.out _ HQS) (fun hHeld5 => ?_)
          clear hK K HQS
          try simp only [Act.put, List.setIfInBounds_toArray, List.set_cons_zero, List.set_cons_succ]
          clear z0 z1 z2 fz
          refine wpAnyH_ready (rs := [7]) (by kernel_rfl) (by simp) ?_
          refine AllReadyH.cons (o := _) rfl (fun K hK => ?_) AllReadyH.nil
          obtain ⟨z0, z1, z2⟩ := mcells_of (HQ5.out.at 0 rfl : U5.heap[ib]? = some (MBox 0 0 none 0 0))
          have fz := frzM (HQ5.out.at 0 rfl : U5.heap[ib]? = some (MBox 0 0 none 0 0))
          have HQ6 : Hid (FrQ w (StoM U5 ib ry cy tb m cb) [(ib, MBox ry cy tb m cb), (ia, MBox rx cx ta n ca), (p1, BBox ry cy sb m kb), (p0, BBox rx cx sa n ka)] [fun W => FlM W tb m cb ys, fun W => FlM W ta n ca xs]) := HQ5.out.sto 0 rfl
          obtain ⟨U6, hU6⟩ : ∃ X, Hid ((StoM U5 ib ry cy tb m cb) = X) := ⟨_, rfl⟩
          rw [hU6.out] at HQ6
          have hU6' := hU6.out
          unfold StoM at hU6'
          go_simp
          go_wp2_with fail
          have HQS := hid (HQ6.out.sub (.cons _ (.cons _ (.cons_cons _ (.cons_cons _ .slnil)))) (.cons _ (.cons _ .slnil)))
          refine hK.out _ _ (HKT.out _ HQS) (fun hHeld6 => ?_)
          clear hK K HQS
          try simp only [Act.put, List.setIfInBounds_toArray, List.set_cons_zero, List.set_cons_succ]
          clear z0 z1 z2 fz
          refine wpAnyH_done (by kernel_rfl) ?_ _
          exact HR.out _ _ ⟨ta, ca, tb, cb, ia, ib, rfl, HQ6.out⟩
        · have HQ3 := hid (HQ2.out.alloc (MBox 0 0 none 0 0))
          go_simp
          go_wp2_with fail
          have HQS := hid (HQ3.out.sub (.cons _ (.cons _ (.cons_cons _ (.cons_cons _ .slnil)))) (.cons _ .slnil))
          refine hK.out _ _ (HKT.out _ HQS) (fun hHeld3 => ?_)
          clear hK K HQS
          try simp only [Act.put, List.setIfInBounds_toArray, List.set_cons_zero, List.set_cons_succ]
          obtain ⟨t3, ht3⟩ : ∃ X, Hid (t2.alloc (MBox 0 0 none 0 0) = X) := ⟨_, rfl⟩
          obtain ⟨ib, hib⟩ : ∃ X, Hid (t2.heap.size = X) := ⟨_, rfl⟩
          rw [ht3.out, hib.out] at HQ3
          have hy1 : t2.alloc (.cells #[.int .i64 0, .int .i64 0, .slice none 0 0] 28) = t3 := ht3.out
          have hy2 := hib.out
          rw [hy1]
          rw [hy2]
          clear hy1 hy2
          refine wpAnyH_ready (rs := [3]) (by kernel_rfl) (by simp) ?_
          refine AllReadyH.cons (o := _) rfl (fun K hK => ?_) AllReadyH.nil
          go_simp
          refine (HOY.out _ HQ3.out.bel).mono ?_
          rintro e t4 ⟨⟨tb, cb, rfl, hf⟩, hbq⟩
          have HQ4 := hid (HQ3.out.call hbq)
          have HQ4 := hid (HQ4.out.add (g := fun W => FlM W tb m cb ys) (kept_fl _ _ _ _) hf)
          clear hbq
          unfold MV
          go_wp2_with fail
          have HQS := hid (HQ4.out.sub (.cons _ (.cons _ (.cons_cons _ (.cons_cons _ .slnil)))) (.cons _ (.cons _ .slnil)))
          refine hK.out _ _ (HKT.out _ HQS) (fun hHeld4 => ?_)
          clear hK K HQS
          try simp only [Act.put, List.setIfInBounds_toArray, List.set_cons_zero, List.set_cons_succ]
          refine wpAnyH_ready (rs := [6]) (by kernel_rfl) (by simp) ?_
          refine AllReadyH.cons (o := _) rfl (fun K hK => ?_) AllReadyH.nil
          obtain ⟨z0, z1, z2⟩ := mcells_of (HQ4.out.at 1 rfl : t4.heap[ia]? = some (MBox 0 0 none 0 0))
          have fz := frzM (HQ4.out.at 1 rfl : t4.heap[ia]? = some (MBox 0 0 none 0 0))
          have HQ5 : Hid (FrQ w (StoM t4 ia rx cx ta n ca) [(ib, MBox 0 0 none 0 0), (ia, MBox rx cx ta n ca), (p1, BBox ry cy sb m kb), (p0, BBox rx cx sa n ka)] [fun W => FlM W tb m cb ys, fun W => FlM W ta n ca xs]) := HQ4.out.sto 1 rfl
          obtain ⟨U5, hU5⟩ : ∃ X, Hid ((StoM t4 ia rx cx ta n ca) = X) := ⟨_, rfl⟩
          rw [hU5.out] at HQ5
          have hU5' := hU5.out
          unfold StoM at hU5'
          go_simp
          go_wp2_with fail
          have HQS := hid (HQ5.out.sub (.cons _ (.cons _ (.cons_cons _ (.cons_cons _ .slnil)))) (.cons _ (.cons _ .slnil)))
          refine hK.out _ _ (HKT.out _ HQS) (fun hHeld5 => ?_)
          clear hK K HQS
          try simp only [Act.put, List.setIfInBounds_toArray, List.set_cons_zero, List.set_cons_succ]
          clear z0 z1 z2 fz
          refine wpAnyH_ready (rs := [7]) (by kernel_rfl) (by simp) ?_
          refine AllReadyH.cons (o := _) rfl (fun K hK => ?_) AllReadyH.nil
          obtain ⟨z0, z1, z2⟩ := mcells_of (HQ5.out.at 0 rfl : U5.heap[ib]? = some (MBox 0 0 none 0 0))
          have fz := frzM (HQ5.out.at 0 rfl : U5.heap[ib]? = some (MBox 0 0 none 0 0))
          have HQ6 : Hid (FrQ w (StoM U5 ib ry cy tb m cb) [(ib, MBox ry cy tb m cb), (ia, MBox rx cx ta n ca), (p1, BBox ry cy sb m kb), (p0, BBox rx cx sa n ka)] [fun W => FlM W tb m cb ys, fun W => FlM W ta n ca xs]) := HQ5.out.sto 0 rfl
          obtain ⟨U6, hU6⟩ : ∃ X, Hid ((StoM U5 ib ry cy tb m cb) = X) := ⟨_, rfl⟩
          rw [hU6.out] at HQ6
          have hU6' := hU6.out
          unfold StoM at hU6'
          go_simp
          go_wp2_with fail
          have HQS := hid (HQ6.out.sub (.cons _ (.cons _ (.cons_cons _ (.cons_cons _ .slnil)))) (.cons _ (.cons _ .slnil)))
          refine hK.out _ _ (HKT.out _ HQS) (fun hHeld6 => ?_)
          clear hK K HQS
          try simp only [Act.put, List.setIfInBounds_toArray, List.set_cons_zero, List.set_cons_succ]
          clear z0 z1 z2 fz
          refine wpAnyH_done (by kernel_rfl) ?_ _
          exact HR.out _ _ ⟨ta, ca, tb, cb, ia, ib, rfl, HQ6.out⟩
      · have HQ2 := hid (HQ1.out.alloc (MBox 0 0 none 0 0))
        go_simp
        go_wp2_with fail
        have HQS := hid (HQ2.out.sub (.cons _ (.cons_cons _ (.cons_cons _ .slnil))) (.cons _ .slnil))
        refine hK.out _ _ (HKT.out _ HQS) (fun hHeld2 => ?_)
        clear hK K HQS
        try simp only [Act.put, List.setIfInBounds_toArray, List.set_cons_zero, List.set_cons_succ]
        obtain ⟨t2, ht2⟩ : ∃ X, Hid (t1.alloc (MBox 0 0 none 0 0) = X) := ⟨_, rfl⟩
        obtain ⟨ib, hib⟩ : ∃ X, Hid (t1.heap.size = X) := ⟨_, rfl⟩
        rw [ht2.out, hib.out] at HQ2
        have hy1 : t1.alloc (.cells #[.int .i64 0, .int .i64 0, .slice none 0 0] 28) = t2 := ht2.out
        have hy2 := hib.out
        rw [hy1]
        rw [hy2]
        clear hy1 hy2
        refine wpAnyH_ready (rs := [3, 4]) (by kernel_rfl) (by simp) ?_
        refine AllReadyH.cons (o := _) rfl (fun K hK => ?_) (AllReadyH.cons (o := _) rfl (fun K hK => ?_) AllReadyH.nil)
        · go_simp
          refine (HOY.out _ HQ2.out.bel).mono ?_
          rintro e t3 ⟨⟨tb, cb, rfl, hf⟩, hbq⟩
          have HQ3 := hid (HQ2.out.call hbq)
          have HQ3 := hid (HQ3.out.add (g := fun W => FlM W tb m cb ys) (kept_fl _ _ _ _) hf)
          clear hbq
          unfold MV
          go_wp2_with fail
          have HQS := hid (HQ3.out.sub (.cons _ (.cons_cons _ (.cons_cons _ .slnil))) (.cons _ (.cons _ .slnil)))
          refine hK.out _ _ (HKT.out _ HQS) (fun hHeld3 => ?_)
          clear hK K HQS
          try simp only [Act.put, List.setIfInBounds_toArray, List.set_cons_zero, List.set_cons_succ]
          refine wpAnyH_ready (rs := [4]) (by kernel_rfl) (by simp) ?_
          refine AllReadyH.cons (o := _) rfl (fun K hK => ?_) AllReadyH.nil
          have HQ4 := hid (HQ3.out.alloc (MBox 0 0 none 0 0))
          go_simp
          go_wp2_with fail
          have HQS := hid (HQ4.out.sub (.cons _ (.cons _ (.cons_cons _ (.cons_cons _ .slnil)))) (.cons _ (.cons _ .slnil)))
          refine hK.out _ _ (HKT.out _ HQS) (fun hHeld4 => ?_)
          clear hK K HQS
          try simp only [Act.put, List.setIfInBounds_toArray, List.set_cons_zero, List.set_cons_succ]
          obtain ⟨t4, ht4⟩ : ∃ X, Hid (t3.alloc (MBox 0 0 none 0 0) = X) := ⟨_, rfl⟩
          obtain ⟨ia, hia⟩ : ∃ X, Hid (t3.heap.size = X) := ⟨_, rfl⟩
          rw [ht4.out, hia.out] at HQ4
          have hy1 : t3.alloc (.cells #[.int .i64 0, .int .i64 0, .slice none 0 0] 28) = t4 := ht4.out
          have hy2 := hia.out
          rw [hy1]
          rw [hy2]
          clear hy1 hy2
          refine wpAnyH_ready (rs := [6]) (by kernel_rfl) (by simp) ?_
          refine AllReadyH.cons (o := _) rfl (fun K hK => ?_) AllReadyH.nil
          obtain ⟨z0, z1, z2⟩ := mcells_of (HQ4.out.at 0 rfl : t4.heap[ia]? = some (MBox 0 0 none 0 0))
          have fz := frzM (HQ4.out.at 0 rfl : t4.heap[ia]? = some (MBox 0 0 none 0 0))
          have HQ5 : Hid (FrQ w (StoM t4 ia rx cx ta n ca) [(ia, MBox rx cx ta n ca), (ib, MBox 0 0 none 0 0), (p1, BBox ry cy sb m kb), (p0, BBox rx cx sa n ka)] [fun W => FlM W tb m cb ys, fun W => FlM W ta n ca xs]) := HQ4.out.sto 0 rfl
          obtain ⟨U5, hU5⟩ : ∃ X, Hid ((StoM t4 ia rx cx ta n ca) = X) := ⟨_, rfl⟩
          rw [hU5.out] at HQ5
          have hU5' := hU5.out
          unfold StoM at hU5'
          go_simp
          go_wp2_with fail
          have HQS := hid (HQ5.out.sub (.cons _ (.cons _ (.cons_cons _ (.cons_cons _ .slnil)))) (.cons _ (.cons _ .slnil)))
          refine hK.out _ _ (HKT.out _ HQS) (fun hHeld5 => ?_)
          clear hK K HQS
          try simp only [Act.put, List.setIfInBounds_toArray, List.set_cons_zero, List.set_cons_succ]
          clear z0 z1 z2 fz
          refine wpAnyH_ready (rs := [7]) (by kernel_rfl) (by simp) ?_
          refine AllReadyH.cons (o := _) rfl (fun K hK => ?_) AllReadyH.nil
          obtain ⟨z0, z1, z2⟩ := mcells_of (HQ5.out.at 1 rfl : U5.heap[ib]? = some (MBox 0 0 none 0 0))
          have fz := frzM (HQ5.out.at 1 rfl : U5.heap[ib]? = some (MBox 0 0 none 0 0))
          have HQ6 : Hid (FrQ w (StoM U5 ib ry cy tb m cb) [(ia, MBox rx cx ta n ca), (ib, MBox ry cy tb m cb), (p1, BBox ry cy sb m kb), (p0, BBox rx cx sa n ka)] [fun W => FlM W tb m cb ys, fun W => FlM W ta n ca xs]) := HQ5.out.sto 1 rfl
          obtain ⟨U6, hU6⟩ : ∃ X, Hid ((StoM U5 ib ry cy tb m cb) = X) := ⟨_, rfl⟩
          rw [hU6.out] at HQ6
          have hU6' := hU6.out
          unfold StoM at hU6'
          go_simp
          go_wp2_with fail
          have HQS := hid (HQ6.out.sub (.cons _ (.cons _ (.cons_cons _ (.cons_cons _ .slnil)))) (.cons _ (.cons _ .slnil)))
          refine hK.out _ _ (HKT.out _ HQS) (fun hHeld6 => ?_)
          clear hK K HQS
          try simp only [Act.put, List.setIfInBounds_toArray, List.set_cons_zero, List.set_cons_succ]
          clear z0 z1 z2 fz
          refine wpAnyH_done (by kernel_rfl) ?_ _
          have HQ6 : Hid (FrQ w U6 [(ib, MBox ry cy tb m cb), (ia, MBox rx cx ta n ca), (p1, BBox ry cy sb m kb), (p0, BBox rx cx sa n ka)] [fun W => FlM W tb m cb ys, fun W => FlM W ta n ca xs]) := HQ6.out.swap
          exact HR.out _ _ ⟨ta, ca, tb, cb, ia, ib, rfl, HQ6.out⟩
        · have HQ3 := hid (HQ2.out.alloc (MBox 0 0 none 0 0))
          go_simp
          go_wp2_with fail
          have HQS := hid (HQ3.out.sub (.cons _ (.cons _ (.cons_cons _ (.cons_cons _ .slnil)))) (.cons _ .slnil))
          refine hK.out _ _ (HKT.out _ HQS) (fun hHeld3 => ?_)
          clear hK K HQS
          try simp only [Act.put, List.setIfInBounds_toArray, List.set_cons_zero, List.set_cons_succ]
          obtain ⟨t3, ht3⟩ : ∃ X, Hid (t2.alloc (MBox 0 0 none 0 0) = X) := ⟨_, rfl⟩
          obtain ⟨ia, hia⟩ : ∃ X, Hid (t2.heap.size = X) := ⟨_, rfl⟩
          rw [ht3.out, hia.out] at HQ3
          have hy1 : t2.alloc (.cells #[.int .i64 0, .int .i64 0, .slice none 0 0] 28) = t3 := ht3.out
          have hy2 := hia.out
          rw [hy1]
          rw [hy2]
          clear hy1 hy2
          refine wpAnyH_ready (rs := [3]) (by kernel_rfl) (by simp) ?_
          refine AllReadyH.cons (o := _) rfl (fun K hK => ?_) AllReadyH.nil
          go_simp
          refine (HOY.out _ HQ3.out.bel).mono ?_
          rintro e t4 ⟨⟨tb, cb, rfl, hf⟩, hbq⟩
          have HQ4 := hid (HQ3.out.call hbq)
          have HQ4 := hid (HQ4.out.add (g := fun W => FlM W tb m cb ys) (kept_fl _ _ _ _) hf)
          clear hbq
          unfold MV
          go_wp2_with fail
          have HQS := hid (HQ4.out.sub (.cons _ (.cons _ (.cons_cons _ (.cons_cons _ .slnil)))) (.cons _ (.cons _ .slnil)))
          refine hK.out _ _ (HKT.out _ HQS) (fun hHeld4 => ?_)
          clear hK K HQS
          try simp only [Act.put, List.setIfInBounds_toArray, List.set_cons_zero, List.set_cons_succ]
          refine wpAnyH_ready (rs := [6]) (by kernel_rfl) (by simp) ?_
          refine AllReadyH.cons (o := _) rfl (fun K hK => ?_) AllReadyH.nil
          obtain ⟨z0, z1, z2⟩ := mcells_of (HQ4.out.at 0 rfl : t4.heap[ia]? = some (MBox 0 0 none 0 0))
          have fz := frzM (HQ4.out.at 0 rfl : t4.heap[ia]? = some (MBox 0 0 none 0 0))
          have HQ5 : Hid (FrQ w (StoM t4 ia rx cx ta n ca) [(ia, MBox rx cx ta n ca), (ib, MBox 0 0 none 0 0), (p1, BBox ry cy sb m kb), (p0, BBox rx cx sa n ka)] [fun W => FlM W tb m cb ys, fun W => FlM W ta n ca xs]) := HQ4.out.sto 0 rfl
          obtain ⟨U5, hU5⟩ : ∃ X, Hid ((StoM t4 ia rx cx ta n ca) = X) := ⟨_, rfl⟩
          rw [hU5.out] at HQ5
          have hU5' := hU5.out
          unfold StoM at hU5'
          go_simp
          go_wp2_with fail
          have HQS := hid (HQ5.out.sub (.cons _ (.cons _ (.cons_cons _ (.cons_cons _ .slnil)))) (.cons _ (.cons _ .slnil)))
          refine hK.out _ _ (HKT.out _ HQS) (fun hHeld5 => ?_)
          clear hK K HQS
          try simp only [Act.put, List.setIfInBounds_toArray, List.set_cons_zero, List.set_cons_succ]
          clear z0 z1 z2 fz
          refine wpAnyH_ready (rs := [7]) (by kernel_rfl) (by simp) ?_
          refine AllReadyH.cons (o := _) rfl (fun K hK => ?_) AllReadyH.nil
          obtain ⟨z0, z1, z2⟩ := mcells_of (HQ5.out.at 1 rfl : U5.heap[ib]? = some (MBox 0 0 none 0 0))
          have fz := frzM (HQ5.out.at 1 rfl : U5.heap[ib]? = some (MBox 0 0 none 0 0))
          have HQ6 : Hid (FrQ w (StoM U5 ib ry cy tb m cb) [(ia, MBox rx cx ta n ca), (ib, MBox ry cy tb m cb), (p1, BBox ry cy sb m kb), (p0, BBox rx cx sa n ka)] [fun W => FlM W tb m cb ys, fun W => FlM W ta n ca xs]) := HQ5.out.sto 1 rfl
          obtain ⟨U6, hU6⟩ : ∃ X, Hid ((StoM U5 ib ry cy tb m cb) = X) := ⟨_, rfl⟩
          rw [hU6.out] at HQ6
          have hU6' := hU6.out
          unfold StoM at hU6'
          go_simp
          go_wp2_with fail
          have HQS := hid (HQ6.out.sub (.cons _ (.cons _ (.cons_cons _ (.cons_cons _ .slnil)))) (.cons _ (.cons _ .slnil)))
          refine hK.out _ _ (HKT.out _ HQS) (fun hHeld6 => ?_)
          clear hK K HQS
          try simp only [Act.put, List.setIfInBounds_toArray, List.set_cons_zero, List.set_cons_succ]
          clear z0 z1 z2 fz
          refine wpAnyH_done (by kernel_rfl) ?_ _
          have HQ6 : Hid (FrQ w U6 [(ib, MBox ry cy tb m cb), (ia, MBox rx cx ta n ca), (p1, BBox ry cy sb m kb), (p0, BBox rx cx sa n ka)] [fun W => FlM W tb m cb ys, fun W => FlM W ta n ca xs]) := HQ6.out.swap
          exact HR.out _ _ ⟨ta, ca, tb, cb, ia, ib, rfl, HQ6.out⟩
    · have HQ1 := hid (HQ0.out.alloc (MBox 0 0 none 0 0))
      go_simp
      go_wp2_with fail
      have HQS := hid (HQ1.out.sub (.cons _ (.cons_cons _ (.cons_cons _ .slnil))) .slnil)
      refine hK.out _ _ (HKT.out _ HQS) (fun hHeld1 => ?_)
      clear hK K HQS
      try simp only [Act.put, List.setIfInBounds_toArray, List.set_cons_zero, List.set_cons_succ]
      obtain ⟨t1, ht1⟩ : ∃ X, Hid (V.drew.alloc (MBox 0 0 none 0 0) = X) := ⟨_, rfl⟩
      obtain ⟨ia, hia⟩ : ∃ X, Hid (V.drew.heap.size = X) := ⟨_, rfl⟩
      rw [ht1.out, hia.out] at HQ1
      have hy1 : (V.alloc (.cells #[.int .i64 0, .int .i64 0, .slice none 0 0] 28)).drew = t1 := ht1.out
      have hy2 : V.heap.size = ia := hia.out
      rw [hy1]
      rw [hy2]
      clear hy1 hy2
      refine wpAnyH_ready (rs := [1, 5]) (by kernel_rfl) (by simp) ?_
      refine AllReadyH.cons (o := _) rfl (fun K hK => ?_) (AllReadyH.cons (o := _) rfl (fun K hK => ?_) AllReadyH.nil)
      · go_simp
        refine (HOX.out _ HQ1.out.bel).mono ?_
        rintro e t2 ⟨⟨ta, ca, rfl, hf⟩, hbq⟩
        have HQ2 := hid (HQ1.out.call hbq)
        have HQ2 := hid (HQ2.out.add (g := fun W => FlM W ta n ca xs) (kept_fl _ _ _ _) hf)
        clear hbq
        unfold MV
        go_wp2_with fail
        have HQS := hid (HQ2.out.sub (.cons _ (.cons_cons _ (.cons_cons _ .slnil))) (.cons _ .slnil))
        refine hK.out _ _ (HKT.out _ HQS) (fun hHeld2 => ?_)
        clear hK K HQS
        try simp only [Act.put, List.setIfInBounds_toArray, List.set_cons_zero, List.set_cons_succ]
        refine wpAnyH_ready (rs := [3, 5]) (by kernel_rfl) (by simp) ?_
        refine AllReadyH.cons (o := _) rfl (fun K hK => ?_) (AllReadyH.cons (o := _) rfl (fun K hK => ?_) AllReadyH.nil)
        · go_simp
          refine (HOY.out _ HQ2.out.bel).mono ?_
          rintro e t3 ⟨⟨tb, cb, rfl, hf⟩, hbq⟩
          have HQ3 := hid (HQ2.out.call hbq)
          have HQ3 := hid (HQ3.out.add (g := fun W => FlM W tb m cb ys) (kept_fl _ _ _ _) hf)
          clear hbq
          unfold MV
          go_wp2_with fail
          have HQS := hid (HQ3.out.sub (.cons _ (.cons_cons _ (.cons_cons _ .slnil))) (.cons _ (.cons _ .slnil)))
          refine hK.out _ _ (HKT.out _ HQS) (fun hHeld3 => ?_)
          clear hK K HQS
          try simp only [Act.put, List.setIfInBounds_toArray, List.set_cons_zero, List.set_cons_succ]
          refine wpAnyH_ready (rs := [5]) (by kernel_rfl) (by simp) ?_
          refine AllReadyH.cons (o := _) rfl (fun K hK => ?_) AllReadyH.nil
          have HQ4 := hid (HQ3.out.alloc (MBox 0 0 none 0 0))
          go_simp
          go_wp2_with fail
          have HQS := hid (HQ4.out.sub (.cons _ (.cons _ (.cons_cons _ (.cons_cons _ .slnil)))) (.cons _ (.cons _ .slnil)))
          refine hK.out _ _ (HKT.out _ HQS) (fun hHeld4 => ?_)
          clear hK K HQS
          try simp only [Act.put, List.setIfInBounds_toArray, List.set_cons_zero, List.set_cons_succ]
          obtain ⟨t4, ht4⟩ : ∃ X, Hid (t3.alloc (MBox 0 0 none 0 0) = X) := ⟨_, rfl⟩
          obtain ⟨ib, hib⟩ : ∃ X, Hid (t3.heap.size = X) := ⟨_, rfl⟩
          rw [ht4.out, hib.out] at HQ4
          have hy1 : t3.alloc (.cells #[.int .i64 0, .int .i64 0, .slice none 0 0] 28) = t4 := ht4.out
          have hy2 := hib.out
          rw [hy1]
          rw [hy2]
          clear hy1 hy2
          refine wpAnyH_ready (rs := [6]) (by kernel_rfl) (by simp) ?_
          refine AllReadyH.cons (o := _) rfl (fun K hK => ?_) AllReadyH.nil
          obtain ⟨z0, z1, z2⟩ := mcells_of (HQ4.out.at 1 rfl : t4.heap[ia]? = some (MBox 0 0 none 0 0))
          have fz := frzM (HQ4.out.at 1 rfl : t4.heap[ia]? = some (MBox 0 0 none 0 0))
          have HQ5 : Hid (FrQ w (StoM t4 ia rx cx ta n ca) [(ib, MBox 0 0 none 0 0), (ia, MBox rx cx ta n ca), (p1, BBox ry cy sb m kb), (p0, BBox rx cx sa n ka)] [fun W => FlM W tb m cb ys, fun W => FlM W ta n ca xs]) := HQ4.out.sto 1 rfl
          obtain ⟨U5, hU5⟩ : ∃ X, Hid ((StoM t4 ia rx cx ta n ca) = X) := ⟨_, rfl⟩
          rw [hU5.out] at HQ5
          have hU5' := hU5.out
          unfold StoM at hU5'
          go_simp
          go_wp2_with fail
          have HQS := hid (HQ5.out.sub (.cons _ (.cons _ (.cons_cons _ (.cons_cons _ .slnil)))) (.cons _ (.cons _ .slnil)))
          refine hK.out _ _ (HKT.out _ HQS) (fun hHeld5 => ?_)
          clear hK K HQS
          try simp only [Act.put, List.setIfInBounds_toArray, List.set_cons_zero, List.set_cons_succ]
          clear z0 z1 z2 fz
          refine wpAnyH_ready (rs := [7]) (by kernel_rfl) (by simp) ?_
          refine AllReadyH.cons (o := _) rfl (fun K hK => ?_) AllReadyH.nil
          obtain ⟨z0, z1, z2⟩ := mcells_of (HQ5.out.at 0 rfl : U5.heap[ib]? = some (MBox 0 0 none 0 0))
          have fz := frzM (HQ5.out.at 0 rfl : U5.heap[ib]? = some (MBox 0 0 none 0 0))
          have HQ6 : Hid (FrQ w (StoM U5 ib ry cy tb m cb) [(ib, MBox ry cy tb m cb), (ia, MBox rx cx ta n ca), (p1, BBox ry cy sb m kb), (p0, BBox rx cx sa n ka)] [fun W => FlM W tb m cb ys, fun W => FlM W ta n ca xs]) := HQ5.out.sto 0 rfl
          obtain ⟨U6, hU6⟩ : ∃ X, Hid ((StoM U5 ib ry cy tb m cb) = X) := ⟨_, rfl⟩
          rw [hU6.out] at HQ6
          have hU6' := hU6.out
          unfold StoM at hU6'
          go_simp
          go_wp2_with fail
          have HQS := hid (HQ6.out.sub (.cons _ (.cons _ (.cons_cons _ (.cons_cons _ .slnil)))) (.cons _ (.cons _ .slnil)))
          refine hK.out _ _ (HKT.out _ HQS) (fun hHeld6 => ?_)
          clear hK K HQS
          try simp only [Act.put, List.setIfInBounds_toArray, List.set_cons_zero, List.set_cons_succ]
          clear z0 z1 z2 fz
          refine wpAnyH_done (by kernel_rfl) ?_ _
          exact HR.out _ _ ⟨ta, ca, tb, cb, ia, ib, rfl, HQ6.out⟩
        · have HQ3 := hid (HQ2.out.alloc (MBox 0 0 none 0 0))
          go_simp
          go_wp2_with fail
          have HQS := hid (HQ3.out.sub (.cons _ (.cons _ (.cons_cons _ (.cons_cons _ .slnil)))) (.cons _ .slnil))
          refine hK.out _ _ (HKT.out _ HQS) (fun hHeld3 => ?_)
          clear hK K HQS
          try simp only [Act.put, List.setIfInBounds_toArray, List.set_cons_zero, List.set_cons_succ]
          obtain ⟨t3, ht3⟩ : ∃ X, Hid (t2.alloc (MBox 0 0 none 0 0) = X) := ⟨_, rfl⟩
          obtain ⟨ib, hib⟩ : ∃ X, Hid (t2.heap.size = X) := ⟨_, rfl⟩
          rw [ht3.out, hib.out] at HQ3
          have hy1 : t2.alloc (.cells #[.int .i64 0, .int .i64 0, .slice none 0 0] 28) = t3 := ht3.out
          have hy2 := hib.out
          rw [hy1]
          rw [hy2]
          clear hy1 hy2
          refine wpAnyH_ready (rs := [3]) (by kernel_rfl) (by simp) ?_
          refine AllReadyH.cons (o := _) rfl (fun K hK => ?_) AllReadyH.nil
          go_simp
          refine (HOY.out _ HQ3.out.bel).mono ?_
          rintro e t4 ⟨⟨tb, cb, rfl, hf⟩, hbq⟩
          have HQ4 := hid (HQ3.out.call hbq)
          have HQ4 := hid (HQ4.out.add (g := fun W => FlM W tb m cb ys) (kept_fl _ _ _ _) hf)
          clear hbq
          unfold MV
          go_wp2_with fail
          have HQS := hid (HQ4.out.sub (.cons _ (.cons _ (.cons_cons _ (.cons_cons _ .slnil)))) (.cons _ (.cons _ .slnil)))
          refine hK.out _ _ (HKT.out _ HQS) (fun hHeld4 => ?_)
          clear hK K HQS
          try simp only [Act.put, List.setIfInBounds_toArray, List.set_cons_zero, List.set_cons_succ]
          refine wpAnyH_ready (rs := [6]) (by kernel_rfl) (by simp) ?_
          refine AllReadyH.cons (o := _) rfl (fun K hK => ?_) AllReadyH.nil
          obtain ⟨z0, z1, z2⟩ := mcells_of (HQ4.out.at 1 rfl : t4.heap[ia]? = some (MBox 0 0 none 0 0))
          have fz := frzM (HQ4.out.at 1 rfl : t4.heap[ia]? = some (MBox 0 0 none 0 0))
          have HQ5 : Hid (FrQ w (StoM t4 ia rx cx ta n ca) [(ib, MBox 0 0 none 0 0), (ia, MBox rx cx ta n ca), (p1, BBox ry cy sb m kb), (p0, BBox rx cx sa n ka)] [fun W => FlM W tb m cb ys, fun W => FlM W ta n ca xs]) := HQ4.out.sto 1 rfl
          obtain ⟨U5, hU5⟩ : ∃ X, Hid ((StoM t4 ia rx cx ta n ca) = X) := ⟨_, rfl⟩
          rw [hU5.out] at HQ5
          have hU5' := hU5.out
          unfold StoM at hU5'
          go_simp
          go_wp2_with fail
          have HQS := hid (HQ5.out.sub (.cons _ (.cons _ (.cons_cons _ (.cons_cons _ .slnil)))) (.cons _ (.cons _ .slnil)))
          refine hK.out _ _ (HKT.out _ HQS) (fun hHeld5 => ?_)
          clear hK K HQS
          try simp only [Act.put, List.setIfInBounds_toArray, List.set_cons_zero, List.set_cons_succ]
          clear z0 z1 z2 fz
          refine wpAnyH_ready (rs := [7]) (by kernel_rfl) (by simp) ?_
          refine AllReadyH.cons (o := _) rfl (fun K hK => ?_) AllReadyH.nil
          obtain ⟨z0, z1, z2⟩ := mcells_of (HQ5.out.at 0 rfl : U5.heap[ib]? = some (MBox 0 0 none 0 0))
          have fz := frzM (HQ5.out.at 0 rfl : U5.heap[ib]? = some (MBox 0 0 none 0 0))
          have HQ6 : Hid (FrQ w (StoM U5 ib ry cy tb m cb) [(ib, MBox ry cy tb m cb), (ia, MBox rx cx ta n ca), (p1, BBox ry cy sb m kb), (p0, BBox rx cx sa n ka)] [fun W => FlM W tb m cb ys, fun W => FlM W ta n ca xs]) := HQ5.out.sto 0 rfl
          obtain ⟨U6, hU6⟩ : ∃ X, Hid ((StoM U5 ib ry cy tb m cb) = X) := ⟨_, rfl⟩
          rw [hU6.out] at HQ6
          have hU6' := hU6.out
          unfold StoM at hU6'
          go_simp
          go_wp2_with fail
          have HQS := hid (HQ6.out.sub (.cons _ (.cons _ (.cons_cons _ (.cons_cons _ .slnil)))) (.cons _ (.cons _ .slnil)))
          refine hK.out _ _ (HKT.out _ HQS) (fun hHeld6 => ?_)
          clear hK K HQS
          try simp only [Act.put, List.setIfInBounds_toArray, List.set_cons_zero, List.set_cons_succ]
          clear z0 z1 z2 fz
          refine wpAnyH_done (by kernel_rfl) ?_ _
          exact HR.out _ _ ⟨ta, ca, tb, cb, ia, ib, rfl, HQ6.out⟩
      · have HQ2 := hid (HQ1.out.alloc (MBox 0 0 none 0 0))
        go_simp
        go_wp2_with fail
        have HQS := hid (HQ2.out.sub (.cons _ (.cons _ (.cons_cons _ (.cons_cons _ .slnil)))) .slnil)
        refine hK.out _ _ (HKT.out _ HQS) (fun hHeld2 => ?_)
        clear hK K HQS
        try simp only [Act.put, List.setIfInBounds_toArray, List.set_cons_zero, List.set_cons_succ]
        obtain ⟨t2, ht2⟩ : ∃ X, Hid (t1.alloc (MBox 0 0 none 0 0) = X) := ⟨_, rfl⟩
        obtain ⟨ib, hib⟩ : ∃ X, Hid (t1.heap.size = X) := ⟨_, rfl⟩
        rw [ht2.out, hib.out] at HQ2
        have hy1 : t1.alloc (.cells #[.int .i64 0, .int .i64 0, .slice none 0 0] 28) = t2 := ht2.out
        have hy2 := hib.out
        rw [hy1]
        rw [hy2]
        clear hy1 hy2
        refine wpAnyH_ready (rs := [1]) (by kernel_rfl) (by simp) ?_
        refine AllReadyH.cons (o := _) rfl (fun K hK => ?_) AllReadyH.nil
        go_simp
        refine (HOX.out _ HQ2.out.bel).mono ?_
        rintro e t3 ⟨⟨ta, ca, rfl, hf⟩, hbq⟩
        have HQ3 := hid (HQ2.out.call hbq)
        have HQ3 := hid (HQ3.out.add (g := fun W => FlM W ta n ca xs) (kept_fl _ _ _ _) hf)
        clear hbq
        unfold MV
        go_wp2_with fail
        have HQS := hid (HQ3.out.sub (.cons _ (.cons _ (.cons_cons _ (.cons_cons _ .slnil)))) (.cons _ .slnil))
        refine hK.out _ _ (HKT.out _ HQS) (fun hHeld3 => ?_)
        clear hK K HQS
        try simp only [Act.put, List.setIfInBounds_toArray, List.set_cons_zero, List.set_cons_succ]
        refine wpAnyH_ready (rs := [3]) (by kernel_rfl) (by simp) ?_
        refine AllReadyH.cons (o := _) rfl (fun K hK => ?_) AllReadyH.nil
        go_simp
        refine (HOY.out _ HQ3.out.bel).mono ?_
        rintro e t4 ⟨⟨tb, cb, rfl, hf⟩, hbq⟩
        have HQ4 := hid (HQ3.out.call hbq)
        have HQ4 := hid (HQ4.out.add (g := fun W => FlM W tb m cb ys) (kept_fl _ _ _ _) hf)
        clear hbq
        unfold MV
        go_wp2_with fail
        have HQS := hid (HQ4.out.sub (.cons _ (.cons _ (.cons_cons _ (.cons_cons _ .slnil)))) (.cons _ (.cons _ .slnil)))
        refine hK.out _ _ (HKT.out _ HQS) (fun hHeld4 => ?_)
        clear hK K HQS
        try simp only [Act.put, List.setIfInBounds_toArray, List.set_cons_zero, List.set_cons_succ]
        refine wpAnyH_ready (rs := [6]) (by kernel_rfl) (by simp) ?_
        refine AllReadyH.cons (o := _) rfl (fun K hK => ?_) AllReadyH.nil
        obtain ⟨z0, z1, z2⟩ := mcells_of (HQ4.out.at 1 rfl : t4.heap[ia]? = some (MBox 0 0 none 0 0))
        have fz := frzM (HQ4.out.at 1 rfl : t4.heap[ia]? = some (MBox 0 0 none 0 0))
        have HQ5 : Hid (FrQ w (StoM t4 ia rx cx ta n ca) [(ib, MBox 0 0 none 0 0), (ia, MBox rx cx ta n ca), (p1, BBox ry cy sb m kb), (p0, BBox rx cx sa n ka)] [fun W => FlM W tb m cb ys, fun W => FlM W ta n ca xs]) := HQ4.out.sto 1 rfl
        obtain ⟨U5, hU5⟩ : ∃ X, Hid ((StoM t4 ia rx cx ta n ca) = X) := ⟨_, rfl⟩
        rw [hU5.out] at HQ5
        have hU5' := hU5.out
        unfold StoM at hU5'
        go_simp
        go_wp2_with fail
        have HQS := hid (HQ5.out.sub (.cons _ (.cons _ (.cons_cons _ (.cons_cons _ .slnil)))) (.cons _ (.cons _ .slnil)))
        refine hK.out _ _ (HKT.out _ HQS) (fun hHeld5 => ?_)
        clear hK K HQS
        try simp only [Act.put, List.setIfInBounds_toArray, List.set_cons_zero, List.set_cons_succ]
        clear z0 z1 z2 fz
        refine wpAnyH_ready (rs := [7]) (by kernel_rfl) (by simp) ?_
        refine AllReadyH.cons (o := _) rfl (fun K hK => ?_) AllReadyH.nil
        obtain ⟨z0, z1, z2⟩ := mcells_of (HQ5.out.at 0 rfl : U5.heap[ib]? = some (MBox 0 0 none 0 0))
        have fz := frzM (HQ5.out.at 0 rfl : U5.heap[ib]? = some (MBox 0 0 none 0 0))
        have HQ6 : Hid (FrQ w (StoM U5 ib ry cy tb m cb) [(ib, MBox ry cy tb m cb), (ia, MBox rx cx ta n ca), (p1, BBox ry cy sb m kb), (p0, BBox rx cx sa n ka)] [fun W => FlM W tb m cb ys, fun W => FlM W ta n ca xs]) := HQ5.out.sto 0 rfl
        obtain ⟨U6, hU6⟩ : ∃ X, Hid ((StoM U5 ib ry cy tb m cb) = X) := ⟨_, rfl⟩
        rw [hU6.out] at HQ6
        have hU6' := hU6.out
        unfold StoM at hU6'
        go_simp
        go_wp2_with fail
        have HQS := hid (HQ6.out.sub (.cons _ (.cons _ (.cons_cons _ (.cons_cons _ .slnil)))) (.cons _ (.cons _ .slnil)))
        refine hK.out _ _ (HKT.out _ HQS) (fun hHeld6 => ?_)
        clear hK K HQS
        try simp only [Act.put, List.setIfInBounds_toArray, List.set_cons_zero, List.set_cons_succ]
        clear z0 z1 z2 fz
        refine wpAnyH_done (by kernel_rfl) ?_ _
        exact HR.out _ _ ⟨ta, ca, tb, cb, ia, ib, rfl, HQ6.out⟩
    · have HQ1 := hid (HQ0.out.alloc (MBox 0 0 none 0 0))
      go_simp
      go_wp2_with fail
      have HQS := hid (HQ1.out.sub (.cons _ (.cons_cons _ (.cons_cons _ .slnil))) .slnil)
      refine hK.out _ _ (HKT.out _ HQS) (fun hHeld1 => ?_)
      clear hK K HQS
      try simp only [Act.put, List.setIfInBounds_toArray, List.set_cons_zero, List.set_cons_succ]
      obtain ⟨t1, ht1⟩ : ∃ X, Hid (V.drew.alloc (MBox 0 0 none 0 0) = X) := ⟨_, rfl⟩
      obtain ⟨ib, hib⟩ : ∃ X, Hid (V.drew.heap.size = X) := ⟨_, rfl⟩
      rw [ht1.out, hib.out] at HQ1
      have hy1 : (V.alloc (.cells #[.int .i64 0, .int .i64 0, .slice none 0 0] 28)).drew = t1 := ht1.out
      have hy2 : V.heap.size = ib := hib.out
      rw [hy1]
      rw [hy2]
      clear hy1 hy2
      refine wpAnyH_ready (rs := [1, 4]) (by kernel_rfl) (by simp) ?_
      refine AllReadyH.cons (o := _) rfl (fun K hK => ?_) (AllReadyH.cons (o := _) rfl (fun K hK => ?_) AllReadyH.nil)
      · go_simp
        refine (HOX.out _ HQ1.out.bel).mono ?_
        rintro e t2 ⟨⟨ta, ca, rfl, hf⟩, hbq⟩
        have HQ2 := hid (HQ1.out.call hbq)
        have HQ2 := hid (HQ2.out.add (g := fun W => FlM W ta n ca xs) (kept_fl _ _ _ _) hf)
        clear hbq
        unfold MV
        go_wp2_with fail
        have HQS := hid (HQ2.out.sub (.cons _ (.cons_cons _ (.cons_cons _ .slnil))) (.cons _ .slnil))
        refine hK.out _ _ (HKT.out _ HQS) (fun hHeld2 => ?_)
        clear hK K HQS
        try simp only [Act.put, List.setIfInBounds_toArray, List.set_cons_zero, List.set_cons_succ]
        refine wpAnyH_ready (rs := [3, 4]) (by kernel_rfl) (by simp) ?_
        refine AllReadyH.cons (o := _) rfl (fun K hK => ?_) (AllReadyH.cons (o := _) rfl (fun K hK => ?_) AllReadyH.nil)
        · go_simp
          refine (HOY.out _ HQ2.out.bel).mono ?_
          rintro e t3 ⟨⟨tb, cb, rfl, hf⟩, hbq⟩
          have HQ3 := hid (HQ2.out.call hbq)
          have HQ3 := hid (HQ3.out.add (g := fun W => FlM W tb m cb ys) (kept_fl _ _ _ _) hf)
          clear hbq
          unfold MV
          go_wp2_with fail
          have HQS := hid (HQ3.out.sub (.cons _ (.cons_cons _ (.cons_cons _ .slnil))) (.cons _ (.cons _ .slnil)))
          refine hK.out _ _ (HKT.out _ HQS) (fun hHeld3 => ?_)
          clear hK K HQS
          try simp only [Act.put, List.setIfInBounds_toArray, List.set_cons_zero, List.set_cons_succ]
          refine wpAnyH_ready (rs := [4]) (by kernel_rfl) (by simp) ?_
          refine AllReadyH.cons (o := _) rfl (fun K hK => ?_) AllReadyH.nil
          have HQ4 := hid (HQ3.out.alloc (MBox 0 0 none 0 0))
          go_simp
          go_wp2_with fail
          have HQS := hid (HQ4.out.sub (.cons _ (.cons _ (.cons_cons _ (.cons_cons _ .slnil)))) (.cons _ (.cons _ .slnil)))
          refine hK.out _ _ (HKT.out _ HQS) (fun hHeld4 => ?_)
          clear hK K HQS
          try simp only [Act.put, List.setIfInBounds_toArray, List.set_cons_zero, List.set_cons_succ]
          obtain ⟨t4, ht4⟩ : ∃ X, Hid (t3.alloc (MBox 0 0 none 0 0) = X) := ⟨_, rfl⟩
          obtain ⟨ia, hia⟩ : ∃ X, Hid (t3.heap.size = X) := ⟨_, rfl⟩
          rw [ht4.out, hia.out] at HQ4
          have hy1 : t3.alloc (.cells #[.int .i64 0, .int .i64 0, .slice none 0 0] 28) = t4 := ht4.out
          have hy2 := hia.out
          rw [hy1]
          rw [hy2]
          clear hy1 hy2
          refine wpAnyH_ready (rs := [6]) (by kernel_rfl) (by simp) ?_
          refine AllReadyH.cons (o := _) rfl (fun K hK => ?_) AllReadyH.nil
          obtain ⟨z0, z1, z2⟩ := mcells_of (HQ4.out.at 0 rfl : t4.heap[ia]? = some (MBox 0 0 none 0 0))
          have fz := frzM (HQ4.out.at 0 rfl : t4.heap[ia]? = some (MBox 0 0 none 0 0))
          have HQ5 : Hid (FrQ w (StoM t4 ia rx cx ta n ca) [(ia, MBox rx cx ta n ca), (ib, MBox 0 0 none 0 0), (p1, BBox ry cy sb m kb), (p0, BBox rx cx sa n ka)] [fun W => FlM W tb m cb ys, fun W => FlM W ta n ca xs]) := HQ4.out.sto 0 rfl
          obtain ⟨U5, hU5⟩ : ∃ X, Hid ((StoM t4 ia rx cx ta n ca) = X) := ⟨_, rfl⟩
          rw [hU5.out] at HQ5
          have hU5' := hU5.out
          unfold StoM at hU5'
          go_simp
          go_wp2_with fail
          have HQS := hid (HQ5.out.sub (.cons _ (.cons _ (.cons_cons _ (.cons_cons _ .slnil)))) (.cons _ (.cons _ .slnil)))
          refine hK.out _ _ (HKT.out _ HQS) (fun hHeld5 => ?_)
          clear hK K HQS
          try simp only [Act.put, List.setIfInBounds_toArray, List.set_cons_zero, List.set_cons_succ]
          clear z0 z1 z2 fz
          refine wpAnyH_ready (rs := [7]) (by kernel_rfl) (by simp) ?_
          refine AllReadyH.cons (o := _) rfl (fun K hK => ?_) AllReadyH.nil
          obtain ⟨z0, z1, z2⟩ := mcells_of (HQ5.out.at 1 rfl : U5.heap[ib]? = some (MBox 0 0 none 0 0))
          have fz := frzM (HQ5.out.at 1 rfl : U5.heap[ib]? = some (MBox 0 0 none 0 0))
          have HQ6 : Hid (FrQ w (StoM U5 ib ry cy tb m cb) [(ia, MBox rx cx ta n ca), (ib, MBox ry cy tb m cb), (p1, BBox ry cy sb m kb), (p0, BBox rx cx sa n ka)] [fun W => FlM W tb m cb ys, fun W => FlM W ta n ca xs]) := HQ5.out.sto 1 rfl
          obtain ⟨U6, hU6⟩ : ∃ X, Hid ((StoM U5 ib ry cy tb m cb) = X) := ⟨_, rfl⟩
          rw [hU6.out] at HQ6
          have hU6' := hU6.out
          unfold StoM at hU6'
          go_simp
          go_wp2_with fail
          have HQS := hid (HQ6.out.sub (.cons _ (.cons _ (.cons_cons _ (.cons_cons _ .slnil)))) (.cons _ (.cons _ .slnil)))
          refine hK.out _ _ (HKT.out _ HQS) (fun hHeld6 => ?_)
          clear hK K HQS
          try simp only [Act.put, List.setIfInBounds_toArray, List.set_cons_zero, List.set_cons_succ]
          clear z0 z1 z2 fz
          refine wpAnyH_done (by kernel_rfl) ?_ _
          have HQ6 : Hid (FrQ w U6 [(ib, MBox ry cy tb m cb), (ia, MBox rx cx ta n ca), (p1, BBox ry cy sb m kb), (p0, BBox rx cx sa n ka)] [fun W => FlM W tb m cb ys, fun W => FlM W ta n ca xs]) := HQ6.out.swap
          exact HR.out _ _ ⟨ta, ca, tb, cb, ia, ib, rfl, HQ6.out⟩
        · have HQ3 := hid (HQ2.out.alloc (MBox 0 0 none 0 0))
          go_simp
          go_wp2_with fail
          have HQS := hid (HQ3.out.sub (.cons _ (.cons _ (.cons_cons _ (.cons_cons _ .slnil)))) (.cons _ .slnil))
          refine hK.out _ _ (HKT.out _ HQS) (fun hHeld3 => ?_)
          clear hK K HQS
          try simp only [Act.put, List.setIfInBounds_toArray, List.set_cons_zero, List.set_cons_succ]
          obtain ⟨t3, ht3⟩ : ∃ X, Hid (t2.alloc (MBox 0 0 none 0 0) = X) := ⟨_, rfl⟩
          obtain ⟨ia, hia⟩ : ∃ X, Hid (t2.heap.size = X) := ⟨_, rfl⟩
          rw [ht3.out, hia.out] at HQ3
          have hy1 : t2.alloc (.cells #[.int .i64 0, .int .i64 0, .slice none 0 0] 28) = t3 := ht3.out
          have hy2 := hia.out
          rw [hy1]
          rw [hy2]
          clear hy1 hy2
          refine wpAnyH_ready (rs := [3]) (by kernel_rfl) (by simp) ?_
          refine AllReadyH.cons (o := _) rfl (fun K hK => ?_) AllReadyH.nil
          go_simp
          refine (HOY.out _ HQ3.out.bel).mono ?_
          rintro e t4 ⟨⟨tb, cb, rfl, hf⟩, hbq⟩
          have HQ4 := hid (HQ3.out.call hbq)
          have HQ4 := hid (HQ4.out.add (g := fun W => FlM W tb m cb ys) (kept_fl _ _ _ _) hf)
          clear hbq
          unfold MV
          go_wp2_with fail
          have HQS := hid (HQ4.out.sub (.cons _ (.cons _ (.cons_cons _ (.cons_cons _ .slnil)))) (.cons _ (.cons _ .slnil)))
          refine hK.out _ _ (HKT.out _ HQS) (fun hHeld4 => ?_)
          clear hK K HQS
          try simp only [Act.put, List.setIfInBounds_toArray, List.set_cons_zero, List.set_cons_succ]
          refine wpAnyH_ready (rs := [6]) (by kernel_rfl) (by simp) ?_
          refine AllReadyH.cons (o := _) rfl (fun K hK => ?_) AllReadyH.nil
          obtain ⟨z0, z1, z2⟩ := mcells_of (HQ4.out.at 0 rfl : t4.heap[ia]? = some (MBox 0 0 none 0 0))
          have fz := frzM (HQ4.out.at 0 rfl : t4.heap[ia]? = some (MBox 0 0 none 0 0))
          have HQ5 : Hid (FrQ w (StoM t4 ia rx cx ta n ca) [(ia, MBox rx cx ta n ca), (ib, MBox 0 0 none 0 0), (p1, BBox ry cy sb m kb), (p0, BBox rx cx sa n ka)] [fun W => FlM W tb m cb ys, fun W => FlM W ta n ca xs]) := HQ4.out.sto 0 rfl
          obtain ⟨U5, hU5⟩ : ∃ X, Hid ((StoM t4 ia rx cx ta n ca) = X) := ⟨_, rfl⟩
          rw [hU5.out] at HQ5
          have hU5' := hU5.out
          unfold StoM at hU5'
          go_simp
          go_wp2_with fail
          have HQS := hid (HQ5.out.sub (.cons _ (.cons _ (.cons_cons _ (.cons_cons _ .slnil)))) (.cons _ (.cons _ .slnil)))
          refine hK.out _ _ (HKT.out _ HQS) (fun hHeld5 => ?_)
          clear hK K HQS
          try simp only [Act.put, List.setIfInBounds_toArray, List.set_cons_zero, List.set_cons_succ]
          clear z0 z1 z2 fz
          refine wpAnyH_ready (rs := [7]) (by kernel_rfl) (by simp) ?_
          refine AllReadyH.cons (o := _) rfl (fun K hK => ?_) AllReadyH.nil
          obtain ⟨z0, z1, z2⟩ := mcells_of (HQ5.out.at 1 rfl : U5.heap[ib]? = some (MBox 0 0 none 0 0))
          have fz := frzM (HQ5.out.at 1 rfl : U5.heap[ib]? = some (MBox 0 0 none 0 0))
          have HQ6 : Hid (FrQ w (StoM U5 ib ry cy tb m cb) [(ia, MBox rx cx ta n ca), (ib, MBox ry cy tb m cb), (p1, BBox ry cy sb m kb), (p0, BBox rx cx sa n ka)] [fun W => FlM W tb m cb ys, fun W => FlM W ta n ca xs]) := HQ5.out.sto 1 rfl
          obtain ⟨U6, hU6⟩ : ∃ X, Hid ((StoM U5 ib ry cy tb m cb) = X) := ⟨_, rfl⟩
          rw [hU6.out] at HQ6
          have hU6' := hU6.out
          unfold StoM at hU6'
          go_simp
          go_wp2_with fail
          have HQS := hid (HQ6.out.sub (.cons _ (.cons _ (.cons_cons _ (.cons_cons _ .slnil)))) (.cons _ (.cons _ .slnil)))
          refine hK.out _ _ (HKT.out _ HQS) (fun hHeld6 => ?_)
          clear hK K HQS
          try simp only [Act.put, List.setIfInBounds_toArray, List.set_cons_zero, List.set_cons_succ]
          clear z0 z1 z2 fz
          refine wpAnyH_done (by kernel_rfl) ?_ _
          have HQ6 : Hid (FrQ w U6 [(ib, MBox ry cy tb m cb), (ia, MBox rx cx ta n ca), (p1, BBox ry cy sb m kb), (p0, BBox rx cx sa n ka)] [fun W => FlM W tb m cb ys, fun W => FlM W ta n ca xs]) := HQ6.out.swap
          exact HR.out _ _ ⟨ta, ca, tb, cb, ia, ib, rfl, HQ6.out⟩
      · have HQ2 := hid (HQ1.out.alloc (MBox 0 0 none 0 0))
        go_simp
        go_wp2_with fail
        have HQS := hid (HQ2.out.sub (.cons _ (.cons _ (.cons_cons _ (.cons_cons _ .slnil)))) .slnil)
        refine hK.out _ _ (HKT.out _ HQS) (fun hHeld2 => ?_)
        clear hK K HQS
        try simp only [Act.put, List.setIfInBounds_toArray, List.set_cons_zero, List.set_cons_succ]
        obtain ⟨t2, ht2⟩ : ∃ X, Hid (t1.alloc (MBox 0 0 none 0 0) = X) := ⟨_, rfl⟩
        obtain ⟨ia, hia⟩ : ∃ X, Hid (t1.heap.size = X) := ⟨_, rfl⟩
        rw [ht2.out, hia.out] at HQ2
        have hy1 : t1.alloc (.cells #[.int .i64 0, .int .i64 0, .slice none 0 0] 28) = t2 := ht2.out
        have hy2 := hia.out
        rw [hy1]
        rw [hy2]
        clear hy1 hy2
        refine wpAnyH_ready (rs := [1]) (by kernel_rfl) (by simp) ?_
        refine AllReadyH.cons (o := _) rfl (fun K hK => ?_) AllReadyH.nil
        go_simp
        refine (HOX.out _ HQ2.out.bel).mono ?_
        rintro e t3 ⟨⟨ta, ca, rfl, hf⟩, hbq⟩
        have HQ3 := hid (HQ2.out.call hbq)
        have HQ3 := hid (HQ3.out.add (g := fun W => FlM W ta n ca xs) (kept_fl _ _ _ _) hf)
        clear hbq
        unfold MV
        go_wp2_with fail
        have HQS := hid (HQ3.out.sub (.cons _ (.cons _ (.cons_cons _ (.cons_cons _ .slnil)))) (.cons _ .slnil))
        refine hK.out _ _ (HKT.out _ HQS) (fun hHeld3 => ?_)
        clear hK K HQS
        try simp only [Act.put, List.setIfInBounds_toArray, List.set_cons_zero, List.set_cons_succ]
        refine wpAnyH_ready (rs := [3]) (by kernel_rfl) (by simp) ?_
        refine AllReadyH.cons (o := _) rfl (fun K hK => ?_) AllReadyH.nil
        go_simp
        refine (HOY.out _ HQ3.out.bel).mono ?_
        rintro e t4 ⟨⟨tb, cb, rfl, hf⟩, hbq⟩
        have HQ4 := hid (HQ3.out.call hbq)
        have HQ4 := hid (HQ4.out.add (g := fun W => FlM W tb m cb ys) (kept_fl _ _ _ _) hf)
        clear hbq
        unfold MV
        go_wp2_with fail
        have HQS := hid (HQ4.out.sub (.cons _ (.cons _ (.cons_cons _ (.cons_cons _ .slnil)))) (.cons _ (.cons _ .slnil)))
        refine hK.out _ _ (HKT.out _ HQS) (fun hHeld4 => ?_)
        clear hK K HQS
        try simp only [Act.put, List.setIfInBounds_toArray, List.set_cons_zero, List.set_cons_succ]
        refine wpAnyH_ready (rs := [6]) (by kernel_rfl) (by simp) ?_
        refine AllReadyH.cons (o := _) rfl (fun K hK => ?_) AllReadyH.nil
        obtain ⟨z0, z1, z2⟩ := mcells_of (HQ4.out.at 0 rfl : t4.heap[ia]? = some (MBox 0 0 none 0 0))
        have fz := frzM (HQ4.out.at 0 rfl : t4.heap[ia]? = some (MBox 0 0 none 0 0))
        have HQ5 : Hid (FrQ w (StoM t4 ia rx cx ta n ca) [(ia, MBox rx cx ta n ca), (ib, MBox 0 0 none 0 0), (p1, BBox ry cy sb m kb), (p0, BBox rx cx sa n ka)] [fun W => FlM W tb m cb ys, fun W => FlM W ta n ca xs]) := HQ4.out.sto 0 rfl
        obtain ⟨U5, hU5⟩ : ∃ X, Hid ((StoM t4 ia rx cx ta n ca) = X) := ⟨_, rfl⟩
        rw [hU5.out] at HQ5
        have hU5' := hU5.out
        unfold StoM at hU5'
        go_simp
        go_wp2_with fail
        have HQS := hid (HQ5.out.sub (.cons _ (.cons _ (.cons_cons _ (.cons_cons _ .slnil)))) (.cons _ (.cons _ .slnil)))
        refine hK.out _ _ (HKT.out _ HQS) (fun hHeld5 => ?_)
        clear hK K HQS
        try simp only [Act.put, List.setIfInBounds_toArray, List.set_cons_zero, List.set_cons_succ]
        clear z0 z1 z2 fz
        refine wpAnyH_ready (rs := [7]) (by kernel_rfl) (by simp) ?_
        refine AllReadyH.cons (o := _) rfl (fun K hK => ?_) AllReadyH.nil
        obtain ⟨z0, z1, z2⟩ := mcells_of (HQ5.out.at 1 rfl : U5.heap[ib]? = some (MBox 0 0 none 0 0))
        have fz := frzM (HQ5.out.at 1 rfl : U5.heap[ib]? = some (MBox 0 0 none 0 0))
        have HQ6 : Hid (FrQ w (StoM U5 ib ry cy tb m cb) [(ia, MBox rx cx ta n ca), (ib, MBox ry cy tb m cb), (p1, BBox ry cy sb m kb), (p0, BBox rx cx sa n ka)] [fun W => FlM W tb m cb ys, fun W => FlM W ta n ca xs]) := HQ5.out.sto 1 rfl
        obtain ⟨U6, hU6⟩ : ∃ X, Hid ((StoM U5 ib ry cy tb m cb) = X) := ⟨_, rfl⟩
        rw [hU6.out] at HQ6
        have hU6' := hU6.out
        unfold StoM at hU6'
        go_simp
        go_wp2_with fail
        have HQS := hid (HQ6.out.sub (.cons _ (.cons _ (.cons_cons _ (.cons_cons _ .slnil)))) (.cons _ (.cons _ .slnil)))
        refine hK.out _ _ (HKT.out _ HQS) (fun hHeld6 => ?_)
        clear hK K HQS
        try simp only [Act.put, List.setIfInBounds_toArray, List.set_cons_zero, List.set_cons_succ]
        clear z0 z1 z2 fz
        refine wpAnyH_done (by kernel_rfl) ?_ _
        have HQ6 : Hid (FrQ w U6 [(ib, MBox ry cy tb m cb), (ia, MBox rx cx ta n ca), (p1, BBox ry cy sb m kb), (p0, BBox rx cx sa n ka)] [fun W => FlM W tb m cb ys, fun W => FlM W ta n ca xs]) := HQ6.out.swap
        exact HR.out _ _ ⟨ta, ca, tb, cb, ia, ib, rfl, HQ6.out⟩
  · rintro a' w1 ⟨ta, ca, tb, cb, ia, ib, rfl, hF⟩
    simp only [Act.put, List.setIfInBounds_toArray, List.set_cons_zero, List.set_cons_succ]
    have HF : Hid (FrQ w w1 [(ib, MBox ry cy tb m cb), (ia, MBox rx cx ta n ca), (p1, BBox ry cy sb m kb), (p0, BBox rx cx sa n ka)] [fun W => FlM W tb m cb ys, fun W => FlM W ta n ca xs]) := hF
    clear hF HKT HQ0 HQS0
    have HCA := hid (fun W (h : FlM W ta n ca xs) => rCheck_any rx cx ta n ca xs W h HNM.out.1)
    have HCB := hid (fun W (h : FlM W tb m cb ys) => rCheck_any ry cy tb m cb ys W h HNM.out.2)
    have HFT := hid (fun b W h => First_two b (chkM rx cx n xs) (chkM ry cy m ys) W h)
    rw [first_two2] at HFT
    have HPT := hid (fun W s k (h : FlM W s n k xs) => Trn_tot rx cx s n k xs W h HNM.out.1)
    have HRT := hid (fun W (h : FlM W ta n ca xs) hz => rTrn_tot rx cx ta n ca xs W h hz)
    have HPB := hid (fun W s k (h : FlM W s n k xs) => Block_tot rx cx s n k xs i0 j0 a0 b0 W h HNM.out.1 HAB.out.1 HAB.out.2)
    have HRB := hid (fun W (h : FlM W ta n ca xs) hz => rBlock_tot rx cx ta n ca xs i0 j0 a0 b0 W h hz)
    have HNB : Hid (chkM rx cx n xs ≠ 0 → blkE (chkM rx cx n xs) rx cx i0 j0 a0 b0 = chkM rx cx n xs) := fun h => by unfold blkE; rw [if_pos h]
    have HPO := hid (fun W s k pb pd (h : FlM W s n k xs) (h2 : I64At W pb q ps) => Order_tot rx cx s n k xs pb q pd ps W h h2 HNM.out.1)
    have HRO := hid (fun W (hW : Below w.heap.size w W) (h : FlM W ta n ca xs) hz => rOrder_tot rx cx ta n ca xs pa q pc ps W h (HPL.out.belo hW) hz)
    have HNO : Hid (chkM rx cx n xs ≠ 0 → ordT rx cx n xs q ps = chkM rx cx n xs) := fun h => by unfold ordT; rw [if_neg h]
    have HPD := hid (fun W s k t l (h : FlM W s n k xs) (h2 : FlM W t m l ys) => Beside_tot rx cx s n k xs ry cy t m l ys W h h2 HNM.out.1 HNM.out.2)
    have HRD := hid (fun W (h : FlM W ta n ca xs) (h2 : FlM W tb m cb ys) hz => rBeside_tot rx cx ta n ca xs ry cy tb m cb ys W h h2 hz)
    have HND : Hid (first2 (chkM rx cx n xs) (chkM ry cy m ys) ≠ 0 → bsdT rx cx n xs ry cy m ys = first2 (chkM rx cx n xs) (chkM ry cy m ys)) := fun h => by unfold bsdT; rw [if_neg h]
    have HPS := hid (fun W s k t l (h : FlM W s n k xs) (h2 : FlM W t m l ys) => Stack_tot rx cx s n k xs ry cy t m l ys W h h2 HNM.out.1 HNM.out.2)
    have HRS := hid (fun W (h : FlM W ta n ca xs) (h2 : FlM W tb m cb ys) hz => rStack_tot rx cx ta n ca xs ry cy tb m cb ys W h h2 hz)
    have HNS : Hid (first2 (chkM rx cx n xs) (chkM ry cy m ys) ≠ 0 → stkT rx cx n xs ry cy m ys = first2 (chkM rx cx n xs) (chkM ry cy m ys)) := fun h => by unfold stkT; rw [if_neg h]
    obtain ⟨ST, hST⟩ : ∃ t, Hid (stkT rx cx n xs ry cy m ys = t) := ⟨_, rfl⟩
    rw [hST.out] at HPS HRS HNS
    obtain ⟨BT, hBT⟩ : ∃ t, Hid (bsdT rx cx n xs ry cy m ys = t) := ⟨_, rfl⟩
    rw [hBT.out] at HPD HRD HND
    obtain ⟨OT, hOT⟩ : ∃ t, Hid (ordT rx cx n xs q ps = t) := ⟨_, rfl⟩
    rw [hOT.out] at HPO HRO HNO
    obtain ⟨BE, hBE⟩ : ∃ t, Hid (blkE (chkM rx cx n xs) rx cx i0 j0 a0 b0 = t) := ⟨_, rfl⟩
    rw [hBE.out] at HPB HRB HNB
    obtain ⟨T2, hT2⟩ : ∃ t, Hid (first2 (chkM rx cx n xs) (chkM ry cy m ys) = t) := ⟨_, rfl⟩
    rw [hT2.out] at HFT HRD HND HRS HNS
    obtain ⟨EA, hEA⟩ : ∃ t, Hid (chkM rx cx n xs = t) := ⟨_, rfl⟩
    rw [hEA.out] at HCA HFT HPT HRT HRB HNB HRO HNO
    obtain ⟨EB, hEB⟩ : ∃ t, Hid (chkM ry cy m ys = t) := ⟨_, rfl⟩
    rw [hEB.out] at HCB HFT
    obtain ⟨R, hR⟩ : ∃ t, Hid (rx.toNat = t) := ⟨_, rfl⟩
    rw [hR.out] at HPT HRT HPO HRO HPD HRD HPS HRS
    obtain ⟨C, hC⟩ : ∃ t, Hid (cx.toNat = t) := ⟨_, rfl⟩
    rw [hC.out] at HPT HRT HPB HRB HPD HRD HPS HRS
    obtain ⟨tv, htv⟩ : ∃ t, Hid (trnV xs C = t) := ⟨_, rfl⟩
    rw [htv.out] at HPT HRT
    obtain ⟨bv, hbv⟩ : ∃ t, Hid (blkV xs C i0.toNat j0.toNat = t) := ⟨_, rfl⟩
    rw [hbv.out] at HPB HRB
    obtain ⟨Ra, hRa⟩ : ∃ t, Hid (a0.toNat = t) := ⟨_, rfl⟩
    rw [hRa.out] at HPB HRB
    obtain ⟨Cb, hCb⟩ : ∃ t, Hid (b0.toNat = t) := ⟨_, rfl⟩
    rw [hCb.out] at HPB HRB
    obtain ⟨ov, hov⟩ : ∃ t, Hid (ordV xs ps R = t) := ⟨_, rfl⟩
    rw [hov.out] at HPO HRO
    obtain ⟨dv, hdv⟩ : ∃ t, Hid (bsdV xs ys C cy.toNat = t) := ⟨_, rfl⟩
    rw [hdv.out] at HPD HRD
    obtain ⟨CS, hCS⟩ : ∃ t, Hid (C + cy.toNat = t) := ⟨_, rfl⟩
    rw [hCS.out] at HPD HRD
    obtain ⟨sv, hsv⟩ : ∃ t, Hid (stkV xs ys R C = t) := ⟨_, rfl⟩
    rw [hsv.out] at HPS HRS
    obtain ⟨RS, hRS⟩ : ∃ t, Hid (R + ry.toNat = t) := ⟨_, rfl⟩
    rw [hRS.out] at HPS HRS
    obtain ⟨c00, c01, c02⟩ := mcells_of (HF.out.at 1 rfl : w1.heap[ia]? = some (MBox rx cx ta n ca))
    go_wp2_with fail
    refine (HCA.out _ (HF.out.get (g := fun W => FlM W ta n ca xs) 1 rfl)).mono ?_
    rintro e u2 ⟨rfl, hb⟩
    have HF : Hid (FrQ w u2 [(ib, MBox ry cy tb m cb), (ia, MBox rx cx ta n ca), (p1, BBox ry cy sb m kb), (p0, BBox rx cx sa n ka)] [fun W => FlM W tb m cb ys, fun W => FlM W ta n ca xs]) := HF.out.call hb
    clear hb
    obtain ⟨c00, c01, c02⟩ := mcells_of (HF.out.at 0 rfl : u2.heap[ib]? = some (MBox ry cy tb m cb))
    go_wp2_with fail
    refine (HCB.out _ (HF.out.get (g := fun W => FlM W tb m cb ys) 0 rfl)).mono ?_
    rintro e u3 ⟨rfl, hb⟩
    have HF : Hid (FrQ w u3 [(ib, MBox ry cy tb m cb), (ia, MBox rx cx ta n ca), (p1, BBox ry cy sb m kb), (p0, BBox rx cx sa n ka)] [fun W => FlM W tb m cb ys, fun W => FlM W ta n ca xs]) := HF.out.call hb
    clear hb
    go_wp2_with fail
    refine (HFT.out _ _ (nblkM _ _)).mono ?_
    rintro e ww ⟨rfl, hw⟩
    have HF : Hid (FrQ w (u3.alloc (I2 EA EB)) [(ib, MBox ry cy tb m cb), (ia, MBox rx cx ta n ca), (p1, BBox ry cy sb m kb), (p0, BBox rx cx sa n ka)] [fun W => FlM W tb m cb ys, fun W => FlM W ta n ca xs]) := HF.out.call ((Below.refl _ _).alloc (Nat.le_refl _) _)
    obtain ⟨V4, hV4⟩ : ∃ V, Hid (u3.alloc (I2 EA EB) = V) := ⟨_, rfl⟩
    rw [hw, hV4.out]
    rw [hV4.out] at HF
    clear hw
    obtain ⟨c00, c01, c02⟩ := bcells_of (HF.out.at 3 rfl : V4.heap[p0]? = some (BBox rx cx sa n ka))
    go_wp2_with fail
    refine (HOX.out _ HF.out.bel).mono ?_
    rintro e u5 ⟨⟨t1x, k1x, rfl, hf⟩, hb⟩
    have HF : Hid (FrQ w u5 [(ib, MBox ry cy tb m cb), (ia, MBox rx cx ta n ca), (p1, BBox ry cy sb m kb), (p0, BBox rx cx sa n ka)] [fun W => FlM W tb m cb ys, fun W => FlM W ta n ca xs]) := HF.out.call hb
    have HF : Hid (FrQ w u5 [(ib, MBox ry cy tb m cb), (ia, MBox rx cx ta n ca), (p1, BBox ry cy sb m kb), (p0, BBox rx cx sa n ka)] [fun W => FlM W t1x n k1x xs, fun W => FlM W tb m cb ys, fun W => FlM W ta n ca xs]) := HF.out.add (kept_fl _ _ _ _) hf
    clear hb
    unfold MV
    clear hf
    go_wp2_with fail
    refine (HPT.out _ _ _ (HF.out.get (g := fun W => FlM W t1x n k1x xs) 0 rfl)).mono ?_
    rintro e u6 ⟨⟨X0, X1, X2, X3, X4, rfl, hres⟩, hb⟩
    have HF : Hid (FrQ w u6 [(ib, MBox ry cy tb m cb), (ia, MBox rx cx ta n ca), (p1, BBox ry cy sb m kb), (p0, BBox rx cx sa n ka)] [fun W => FlM W t1x n k1x xs, fun W => FlM W tb m cb ys, fun W => FlM W ta n ca xs]) := HF.out.call hb
    have HF : Hid (FrQ w u6 [(ib, MBox ry cy tb m cb), (ia, MBox rx cx ta n ca), (p1, BBox ry cy sb m kb), (p0, BBox rx cx sa n ka)] [fun W => ResM EA C R tv W X0 X1 X2 X3 X4, fun W => FlM W t1x n k1x xs, fun W => FlM W tb m cb ys, fun W => FlM W ta n ca xs]) := HF.out.add (kept_res _ _ _ _ _ _ _ _ _) hres
    clear hb
    clear hres
    have HF : Hid (FrQ w (u6.alloc (MBox X0 X1 X2 X3 X4)) [(u6.heap.size, MBox X0 X1 X2 X3 X4), (ib, MBox ry cy tb m cb), (ia, MBox rx cx ta n ca), (p1, BBox ry cy sb m kb), (p0, BBox rx cx sa n ka)] [fun W => ResM EA C R tv W X0 X1 X2 X3 X4, fun W => FlM W t1x n k1x xs, fun W => FlM W tb m cb ys, fun W => FlM W ta n ca xs]) := HF.out.alloc _
    obtain ⟨V7, hV7⟩ : ∃ V, Hid (u6.alloc (MBox X0 X1 X2 X3 X4) = V) := ⟨_, rfl⟩
    obtain ⟨ig, hig⟩ : ∃ t, Hid (u6.heap.size = t) := ⟨_, rfl⟩
    rw [hV7.out, hig.out] at HF
    have hV7' := hV7.out
    unfold MBox at hV7'
    have hig' := hig.out
    have HF : Hid (FrQ w V7 [(ig, MBox X0 X1 X2 X3 X4), (ib, MBox ry cy tb m cb), (ia, MBox rx cx ta n ca), (p1, BBox ry cy sb m kb), (p0, BBox rx cx sa n ka)] [fun W => ResM EA C R tv W X0 X1 X2 X3 X4, fun W => FlM W tb m cb ys, fun W => FlM W ta n ca xs]) := HF.out.sub (.cons_cons _ (.cons_cons _ (.cons_cons _ (.cons_cons _ (.cons_cons _ .slnil))))) (.cons_cons _ (.cons _ (.cons_cons _ (.cons_cons _ .slnil))))
    have HF : Hid (FrQ w (V7.alloc (MBox 0 0 none 0 0)) [(V7.heap.size, MBox 0 0 none 0 0), (ig, MBox X0 X1 X2 X3 X4), (ib, MBox ry cy tb m cb), (ia, MBox rx cx ta n ca), (p1, BBox ry cy sb m kb), (p0, BBox rx cx sa n ka)] [fun W => ResM EA C R tv W X0 X1 X2 X3 X4, fun W => FlM W tb m cb ys, fun W => FlM W ta n ca xs]) := HF.out.alloc _
    obtain ⟨V8, hV8⟩ : ∃ V, Hid (V7.alloc (MBox 0 0 none 0 0) = V) := ⟨_, rfl⟩
    obtain ⟨ih, hih⟩ : ∃ t, Hid (V7.heap.size = t) := ⟨_, rfl⟩
    rw [hV8.out, hih.out] at HF
    have hV8' := hV8.out
    unfold MBox at hV8'
    have hih' := hih.out
    go_upto_if 41 with fail
    go_cut [17] from 23 (fun s17 W => s17 = .int .i64 EA ∧ ∃ (Z0 Z1 : Int) (Z2 : Option Addr) (Z3 Z4 : Nat), Hid (FrQ w W [(ih, MBox Z0 Z1 Z2 Z3 Z4), (ig, MBox X0 X1 X2 X3 X4), (ib, MBox ry cy tb m cb), (ia, MBox rx cx ta n ca), (p1, BBox ry cy sb m kb), (p0, BBox rx cx sa n ka)] [fun W => EA = 0 → ResM EA C R tv W Z0 Z1 Z2 Z3 Z4, fun W => ResM EA C R tv W X0 X1 X2 X3 X4, fun W => FlM W tb m cb ys, fun W => FlM W ta n ca xs]))
    case first =>
      by_cases hT0 : EA = 0
      · have HRZ := hid (fun W h => HRT.out W h hT0)
        have hye : (EA == 0) = true := by simpa using hT0
        have HT0 := hid hT0
        clear hT0
        obtain ⟨c00, c01, c02⟩ := mcells_of (HF.out.at 3 rfl : V8.heap[ia]? = some (MBox rx cx ta n ca))
        go_wp2_with fail
        refine (HRZ.out _ (HF.out.get (g := fun W => FlM W ta n ca xs) 2 rfl)).mono ?_
        rintro e u9 ⟨⟨A0, A1, A2, A3, A4, rfl, hres⟩, hb⟩
        have HF : Hid (FrQ w u9 [(ih, MBox 0 0 none 0 0), (ig, MBox X0 X1 X2 X3 X4), (ib, MBox ry cy tb m cb), (ia, MBox rx cx ta n ca), (p1, BBox ry cy sb m kb), (p0, BBox rx cx sa n ka)] [fun W => ResM EA C R tv W X0 X1 X2 X3 X4, fun W => FlM W tb m cb ys, fun W => FlM W ta n ca xs]) := HF.out.call hb
        have HF : Hid (FrQ w u9 [(ih, MBox 0 0 none 0 0), (ig, MBox X0 X1 X2 X3 X4), (ib, MBox ry cy tb m cb), (ia, MBox rx cx ta n ca), (p1, BBox ry cy sb m kb), (p0, BBox rx cx sa n ka)] [fun W => EA = 0 → ResM EA C R tv W A0 A1 A2 A3 A4, fun W => ResM EA C R tv W X0 X1 X2 X3 X4, fun W => FlM W tb m cb ys, fun W => FlM W ta n ca xs]) := HF.out.add (kept_resi _ _ _ _ _ _ _ _ _) (fun _ => by rw [HT0.out]; exact hres)
        clear hb
        clear hres HRZ
        obtain ⟨z0, z1, z2⟩ := mcells_of (HF.out.at 0 rfl : u9.heap[ih]? = some (MBox 0 0 none 0 0))
        have fz := frzM (HF.out.at 0 rfl : u9.heap[ih]? = some (MBox 0 0 none 0 0))
        have HF : Hid (FrQ w (StoM u9 ih A0 A1 A2 A3 A4) [(ih, MBox A0 A1 A2 A3 A4), (ig, MBox X0 X1 X2 X3 X4), (ib, MBox ry cy tb m cb), (ia, MBox rx cx ta n ca), (p1, BBox ry cy sb m kb), (p0, BBox rx cx sa n ka)] [fun W => EA = 0 → ResM EA C R tv W A0 A1 A2 A3 A4, fun W => ResM EA C R tv W X0 X1 X2 X3 X4, fun W => FlM W tb m cb ys, fun W => FlM W ta n ca xs]) := HF.out.sto 0 rfl
        obtain ⟨U10, hU10⟩ : ∃ V, Hid ((StoM u9 ih A0 A1 A2 A3 A4) = V) := ⟨_, rfl⟩
        rw [hU10.out] at HF
        have hU10' := hU10.out
        unfold StoM at hU10'
        go_wp2_with fail
        go_meet
        exact ⟨rfl, _, _, _, _, _, HF⟩
      · have hne : (EA == 0) = false := by simpa using hT0
        have HNZ := hid hT0
        clear hT0
        have HF : Hid (FrQ w V8 [(ih, MBox 0 0 none 0 0), (ig, MBox X0 X1 X2 X3 X4), (ib, MBox ry cy tb m cb), (ia, MBox rx cx ta n ca), (p1, BBox ry cy sb m kb), (p0, BBox rx cx sa n ka)] [fun W => EA = 0 → ResM EA C R tv W 0 0 none 0 0, fun W => ResM EA C R tv W X0 X1 X2 X3 X4, fun W => FlM W tb m cb ys, fun W => FlM W ta n ca xs]) := HF.out.add (kept_resi _ _ _ _ _ _ _ _ _) (fun h => absurd (h) HNZ.out)
        go_wp2_with fail
        go_meet
        exact ⟨rfl, _, _, _, _, _, HF⟩
    case rest =>
      obtain ⟨rfl, Z0, Z1, Z2, Z3, Z4, HF⟩ := hcut
      obtain ⟨c00, c01, c02⟩ := mcells_of (HF.out.at 1 rfl : wc.heap[ig]? = some (MBox X0 X1 X2 X3 X4))
      obtain ⟨c10, c11, c12⟩ := mcells_of (HF.out.at 0 rfl : wc.heap[ih]? = some (MBox Z0 Z1 Z2 Z3 Z4))
      go_wp2_with fail
      refine (told_res EA C R tv _ _ _ _ _ _ _ _ _ _ _ (HF.out.get (g := fun W => ResM EA C R tv W X0 X1 X2 X3 X4) 1 rfl) (HF.out.get (g := fun W => EA = 0 → ResM EA C R tv W Z0 Z1 Z2 Z3 Z4) 0 rfl)).mono ?_
      rintro e u9 ⟨rfl, hb⟩
      have HF : Hid (FrQ w u9 [(ih, MBox Z0 Z1 Z2 Z3 Z4), (ig, MBox X0 X1 X2 X3 X4), (ib, MBox ry cy tb m cb), (ia, MBox rx cx ta n ca), (p1, BBox ry cy sb m kb), (p0, BBox rx cx sa n ka)] [fun W => EA = 0 → ResM EA C R tv W Z0 Z1 Z2 Z3 Z4, fun W => ResM EA C R tv W X0 X1 X2 X3 X4, fun W => FlM W tb m cb ys, fun W => FlM W ta n ca xs]) := HF.out.call hb
      clear hb
      go_wp2_with fail
      refine (awake8_any _).mono ?_
      rintro e u10 ⟨rfl, hb⟩
      have HF : Hid (FrQ w u10 [(ih, MBox Z0 Z1 Z2 Z3 Z4), (ig, MBox X0 X1 X2 X3 X4), (ib, MBox ry cy tb m cb), (ia, MBox rx cx ta n ca), (p1, BBox ry cy sb m kb), (p0, BBox rx cx sa n ka)] [fun W => EA = 0 → ResM EA C R tv W Z0 Z1 Z2 Z3 Z4, fun W => ResM EA C R tv W X0 X1 X2 X3 X4, fun W => FlM W tb m cb ys, fun W => FlM W ta n ca xs]) := HF.out.call hb
      clear hb
      have HF : Hid (FrQ w u10 [(ih, MBox Z0 Z1 Z2 Z3 Z4), (ig, MBox X0 X1 X2 X3 X4), (ib, MBox ry cy tb m cb), (ia, MBox rx cx ta n ca), (p1, BBox ry cy sb m kb), (p0, BBox rx cx sa n ka)] [fun W => FlM W tb m cb ys, fun W => FlM W ta n ca xs]) := HF.out.sub (.cons_cons _ (.cons_cons _ (.cons_cons _ (.cons_cons _ (.cons_cons _ (.cons_cons _ .slnil)))))) (.cons _ (.cons _ (.cons_cons _ (.cons_cons _ .slnil))))
      obtain ⟨c00, c01, c02⟩ := bcells_of (HF.out.at 5 rfl : u10.heap[p0]? = some (BBox rx cx sa n ka))
      go_wp2_with fail
      refine (HOX.out _ HF.out.bel).mono ?_
      rintro e u11 ⟨⟨t2x, k2x, rfl, hf⟩, hb⟩
      have HF : Hid (FrQ w u11 [(ih, MBox Z0 Z1 Z2 Z3 Z4), (ig, MBox X0 X1 X2 X3 X4), (ib, MBox ry cy tb m cb), (ia, MBox rx cx ta n ca), (p1, BBox ry cy sb m kb), (p0, BBox rx cx sa n ka)] [fun W => FlM W tb m cb ys, fun W => FlM W ta n ca xs]) := HF.out.call hb
      have HF : Hid (FrQ w u11 [(ih, MBox Z0 Z1 Z2 Z3 Z4), (ig, MBox X0 X1 X2 X3 X4), (ib, MBox ry cy tb m cb), (ia, MBox rx cx ta n ca), (p1, BBox ry cy sb m kb), (p0, BBox rx cx sa n ka)] [fun W => FlM W t2x n k2x xs, fun W => FlM W tb m cb ys, fun W => FlM W ta n ca xs]) := HF.out.add (kept_fl _ _ _ _) hf
      clear hb
      unfold MV
      clear hf
      go_wp2_with fail
      refine (HPB.out _ _ _ (HF.out.get (g := fun W => FlM W t2x n k2x xs) 0 rfl)).mono ?_
      rintro e u12 ⟨⟨J0, J1, J2, J3, J4, rfl, hres⟩, hb⟩
      have HF : Hid (FrQ w u12 [(ih, MBox Z0 Z1 Z2 Z3 Z4), (ig, MBox X0 X1 X2 X3 X4), (ib, MBox ry cy tb m cb), (ia, MBox rx cx ta n ca), (p1, BBox ry cy sb m kb), (p0, BBox rx cx sa n ka)] [fun W => FlM W t2x n k2x xs, fun W => FlM W tb m cb ys, fun W => FlM W ta n ca xs]) := HF.out.call hb
      have HF : Hid (FrQ w u12 [(ih, MBox Z0 Z1 Z2 Z3 Z4), (ig, MBox X0 X1 X2 X3 X4), (ib, MBox ry cy tb m cb), (ia, MBox rx cx ta n ca), (p1, BBox ry cy sb m kb), (p0, BBox rx cx sa n ka)] [fun W => ResM BE Ra Cb bv W J0 J1 J2 J3 J4, fun W => FlM W t2x n k2x xs, fun W => FlM W tb m cb ys, fun W => FlM W ta n ca xs]) := HF.out.add (kept_res _ _ _ _ _ _ _ _ _) hres
      clear hb
      clear hres
      obtain ⟨z0, z1, z2⟩ := mcells_of (HF.out.at 1 rfl : u12.heap[ig]? = some (MBox X0 X1 X2 X3 X4))
      have fz := frzM (HF.out.at 1 rfl : u12.heap[ig]? = some (MBox X0 X1 X2 X3 X4))
      have HF : Hid (FrQ w (StoM u12 ig J0 J1 J2 J3 J4) [(ih, MBox Z0 Z1 Z2 Z3 Z4), (ig, MBox J0 J1 J2 J3 J4), (ib, MBox ry cy tb m cb), (ia, MBox rx cx ta n ca), (p1, BBox ry cy sb m kb), (p0, BBox rx cx sa n ka)] [fun W => ResM BE Ra Cb bv W J0 J1 J2 J3 J4, fun W => FlM W t2x n k2x xs, fun W => FlM W tb m cb ys, fun W => FlM W ta n ca xs]) := HF.out.sto 1 rfl
      obtain ⟨U13, hU13⟩ : ∃ V, Hid ((StoM u12 ig J0 J1 J2 J3 J4) = V) := ⟨_, rfl⟩
      rw [hU13.out] at HF
      have hU13' := hU13.out
      unfold StoM at hU13'
      have HF : Hid (FrQ w U13 [(ih, MBox Z0 Z1 Z2 Z3 Z4), (ig, MBox J0 J1 J2 J3 J4), (ib, MBox ry cy tb m cb), (ia, MBox rx cx ta n ca), (p1, BBox ry cy sb m kb), (p0, BBox rx cx sa n ka)] [fun W => ResM BE Ra Cb bv W J0 J1 J2 J3 J4, fun W => FlM W tb m cb ys, fun W => FlM W ta n ca xs]) := HF.out.sub (.cons_cons _ (.cons_cons _ (.cons_cons _ (.cons_cons _ (.cons_cons _ (.cons_cons _ .slnil)))))) (.cons_cons _ (.cons _ (.cons_cons _ (.cons_cons _ .slnil))))
      go_upto_if 66 with fail
      go_cut [22] from 23 (fun s22 W => s22 = .int .i64 BE ∧ ∃ (Q0 Q1 : Int) (Q2 : Option Addr) (Q3 Q4 : Nat), Hid (FrQ w W [(ih, MBox Q0 Q1 Q2 Q3 Q4), (ig, MBox J0 J1 J2 J3 J4), (ib, MBox ry cy tb m cb), (ia, MBox rx cx ta n ca), (p1, BBox ry cy sb m kb), (p0, BBox rx cx sa n ka)] [fun W => BE = 0 → ResM BE Ra Cb bv W Q0 Q1 Q2 Q3 Q4, fun W => ResM BE Ra Cb bv W J0 J1 J2 J3 J4, fun W => FlM W tb m cb ys, fun W => FlM W ta n ca xs]))
      case first =>
        by_cases hT0 : EA = 0
        · have HRZ := hid (fun W h => HRB.out W h hT0)
          have hye : (EA == 0) = true := by simpa using hT0
          have HT0 := hid hT0
          clear hT0
          obtain ⟨c00, c01, c02⟩ := mcells_of (HF.out.at 3 rfl : U13.heap[ia]? = some (MBox rx cx ta n ca))
          go_wp2_with fail
          refine (HRZ.out _ (HF.out.get (g := fun W => FlM W ta n ca xs) 2 rfl)).mono ?_
          rintro e u14 ⟨⟨A0, A1, A2, A3, A4, rfl, hres⟩, hb⟩
          have HF : Hid (FrQ w u14 [(ih, MBox Z0 Z1 Z2 Z3 Z4), (ig, MBox J0 J1 J2 J3 J4), (ib, MBox ry cy tb m cb), (ia, MBox rx cx ta n ca), (p1, BBox ry cy sb m kb), (p0, BBox rx cx sa n ka)] [fun W => ResM BE Ra Cb bv W J0 J1 J2 J3 J4, fun W => FlM W tb m cb ys, fun W => FlM W ta n ca xs]) := HF.out.call hb
          have HF : Hid (FrQ w u14 [(ih, MBox Z0 Z1 Z2 Z3 Z4), (ig, MBox J0 J1 J2 J3 J4), (ib, MBox ry cy tb m cb), (ia, MBox rx cx ta n ca), (p1, BBox ry cy sb m kb), (p0, BBox rx cx sa n ka)] [fun W => BE = 0 → ResM BE Ra Cb bv W A0 A1 A2 A3 A4, fun W => ResM BE Ra Cb bv W J0 J1 J2 J3 J4, fun W => FlM W tb m cb ys, fun W => FlM W ta n ca xs]) := HF.out.add (kept_resi _ _ _ _ _ _ _ _ _) (fun _ => hres)
          clear hb
          clear hres HRZ
          obtain ⟨z0, z1, z2⟩ := mcells_of (HF.out.at 0 rfl : u14.heap[ih]? = some (MBox Z0 Z1 Z2 Z3 Z4))
          have fz := frzM (HF.out.at 0 rfl : u14.heap[ih]? = some (MBox Z0 Z1 Z2 Z3 Z4))
          have HF : Hid (FrQ w (StoM u14 ih A0 A1 A2 A3 A4) [(ih, MBox A0 A1 A2 A3 A4), (ig, MBox J0 J1 J2 J3 J4), (ib, MBox ry cy tb m cb), (ia, MBox rx cx ta n ca), (p1, BBox ry cy sb m kb), (p0, BBox rx cx sa n ka)] [fun W => BE = 0 → ResM BE Ra Cb bv W A0 A1 A2 A3 A4, fun W => ResM BE Ra Cb bv W J0 J1 J2 J3 J4, fun W => FlM W tb m cb ys, fun W => FlM W ta n ca xs]) := HF.out.sto 0 rfl
          obtain ⟨U15, hU15⟩ : ∃ V, Hid ((StoM u14 ih A0 A1 A2 A3 A4) = V) := ⟨_, rfl⟩
          rw [hU15.out] at HF
          have hU15' := hU15.out
          unfold StoM at hU15'
          go_wp2_with fail
          go_meet
          exact ⟨rfl, _, _, _, _, _, HF⟩
        · have hne : (EA == 0) = false := by simpa using hT0
          have HMN := hid (HNB.out hT0)
          have HNZ := hid hT0
          clear hT0
          have HF : Hid (FrQ w U13 [(ih, MBox Z0 Z1 Z2 Z3 Z4), (ig, MBox J0 J1 J2 J3 J4), (ib, MBox ry cy tb m cb), (ia, MBox rx cx ta n ca), (p1, BBox ry cy sb m kb), (p0, BBox rx cx sa n ka)] [fun W => BE = 0 → ResM BE Ra Cb bv W Z0 Z1 Z2 Z3 Z4, fun W => ResM BE Ra Cb bv W J0 J1 J2 J3 J4, fun W => FlM W tb m cb ys, fun W => FlM W ta n ca xs]) := HF.out.add (kept_resi _ _ _ _ _ _ _ _ _) (fun h => absurd (HMN.out.symm.trans h) HNZ.out)
          go_wp2_with fail
          go_meet
          exact ⟨by rw [HMN.out], _, _, _, _, _, HF⟩
      case rest =>
        obtain ⟨rfl, Q0, Q1, Q2, Q3, Q4, HF⟩ := hcut
        obtain ⟨c00, c01, c02⟩ := mcells_of (HF.out.at 1 rfl : wc.heap[ig]? = some (MBox J0 J1 J2 J3 J4))
        obtain ⟨c10, c11, c12⟩ := mcells_of (HF.out.at 0 rfl : wc.heap[ih]? = some (MBox Q0 Q1 Q2 Q3 Q4))
        go_wp2_with fail
        refine (told_res BE Ra Cb bv _ _ _ _ _ _ _ _ _ _ _ (HF.out.get (g := fun W => ResM BE Ra Cb bv W J0 J1 J2 J3 J4) 1 rfl) (HF.out.get (g := fun W => BE = 0 → ResM BE Ra Cb bv W Q0 Q1 Q2 Q3 Q4) 0 rfl)).mono ?_
        rintro e u14 ⟨rfl, hb⟩
        have HF : Hid (FrQ w u14 [(ih, MBox Q0 Q1 Q2 Q3 Q4), (ig, MBox J0 J1 J2 J3 J4), (ib, MBox ry cy tb m cb), (ia, MBox rx cx ta n ca), (p1, BBox ry cy sb m kb), (p0, BBox rx cx sa n ka)] [fun W => BE = 0 → ResM BE Ra Cb bv W Q0 Q1 Q2 Q3 Q4, fun W => ResM BE Ra Cb bv W J0 J1 J2 J3 J4, fun W => FlM W tb m cb ys, fun W => FlM W ta n ca xs]) := HF.out.call hb
        clear hb
        have HF : Hid (FrQ w u14 [(ih, MBox Q0 Q1 Q2 Q3 Q4), (ig, MBox J0 J1 J2 J3 J4), (ib, MBox ry cy tb m cb), (ia, MBox rx cx ta n ca), (p1, BBox ry cy sb m kb), (p0, BBox rx cx sa n ka)] [fun W => FlM W tb m cb ys, fun W => FlM W ta n ca xs]) := HF.out.sub (.cons_cons _ (.cons_cons _ (.cons_cons _ (.cons_cons _ (.cons_cons _ (.cons_cons _ .slnil)))))) (.cons _ (.cons _ (.cons_cons _ (.cons_cons _ .slnil))))
        obtain ⟨c00, c01, c02⟩ := bcells_of (HF.out.at 5 rfl : u14.heap[p0]? = some (BBox rx cx sa n ka))
        go_wp2_with fail
        refine (HOX.out _ HF.out.bel).mono ?_
        rintro e u15 ⟨⟨t3x, k3x, rfl, hf⟩, hb⟩
        have HF : Hid (FrQ w u15 [(ih, MBox Q0 Q1 Q2 Q3 Q4), (ig, MBox J0 J1 J2 J3 J4), (ib, MBox ry cy tb m cb), (ia, MBox rx cx ta n ca), (p1, BBox ry cy sb m kb), (p0, BBox rx cx sa n ka)] [fun W => FlM W tb m cb ys, fun W => FlM W ta n ca xs]) := HF.out.call hb
        have HF : Hid (FrQ w u15 [(ih, MBox Q0 Q1 Q2 Q3 Q4), (ig, MBox J0 J1 J2 J3 J4), (ib, MBox ry cy tb m cb), (ia, MBox rx cx ta n ca), (p1, BBox ry cy sb m kb), (p0, BBox rx cx sa n ka)] [fun W => FlM W t3x n k3x xs, fun W => FlM W tb m cb ys, fun W => FlM W ta n ca xs]) := HF.out.add (kept_fl _ _ _ _) hf
        clear hb
        unfold MV
        clear hf
        obtain ⟨qa, qc, wq, hrun, hq, hbq⟩ := HAP.out u15 HF.out.bel
        have HQ := hid hq
        have HF : Hid (FrQ w wq [(ih, MBox Q0 Q1 Q2 Q3 Q4), (ig, MBox J0 J1 J2 J3 J4), (ib, MBox ry cy tb m cb), (ia, MBox rx cx ta n ca), (p1, BBox ry cy sb m kb), (p0, BBox rx cx sa n ka)] [fun W => FlM W t3x n k3x xs, fun W => FlM W tb m cb ys, fun W => FlM W ta n ca xs]) := HF.out.call hbq
        clear hq hbq
        go_wp2_with (first
          | (at_builtin; (refine wpList_apq 25 rfl _ _ rfl (.slice (some ⟨u15.heap.size, 0, none⟩) 0 0) (.slice pa q pc) (by first | rfl | (simp [Act.eval]; done) | (simp [Act.eval, Act.put]; done)) (by first | rfl | (simp [Act.eval]; done) | (simp [Act.eval, Act.put]; done)) hrun ?_))
          | fail)
        clear hrun
        refine (HPO.out _ _ _ _ _ (HF.out.get (g := fun W => FlM W t3x n k3x xs) 0 rfl) HQ.out).mono ?_
        rintro e u16 ⟨⟨O0, O1, O2, O3, O4, rfl, hres⟩, hb⟩
        have HF : Hid (FrQ w u16 [(ih, MBox Q0 Q1 Q2 Q3 Q4), (ig, MBox J0 J1 J2 J3 J4), (ib, MBox ry cy tb m cb), (ia, MBox rx cx ta n ca), (p1, BBox ry cy sb m kb), (p0, BBox rx cx sa n ka)] [fun W => FlM W t3x n k3x xs, fun W => FlM W tb m cb ys, fun W => FlM W ta n ca xs]) := HF.out.call hb
        have HF : Hid (FrQ w u16 [(ih, MBox Q0 Q1 Q2 Q3 Q4), (ig, MBox J0 J1 J2 J3 J4), (ib, MBox ry cy tb m cb), (ia, MBox rx cx ta n ca), (p1, BBox ry cy sb m kb), (p0, BBox rx cx sa n ka)] [fun W => ResM OT R R ov W O0 O1 O2 O3 O4, fun W => FlM W t3x n k3x xs, fun W => FlM W tb m cb ys, fun W => FlM W ta n ca xs]) := HF.out.add (kept_res _ _ _ _ _ _ _ _ _) hres
        clear hb
        clear hres HQ
        obtain ⟨z0, z1, z2⟩ := mcells_of (HF.out.at 1 rfl : u16.heap[ig]? = some (MBox J0 J1 J2 J3 J4))
        have fz := frzM (HF.out.at 1 rfl : u16.heap[ig]? = some (MBox J0 J1 J2 J3 J4))
        have HF : Hid (FrQ w (StoM u16 ig O0 O1 O2 O3 O4) [(ih, MBox Q0 Q1 Q2 Q3 Q4), (ig, MBox O0 O1 O2 O3 O4), (ib, MBox ry cy tb m cb), (ia, MBox rx cx ta n ca), (p1, BBox ry cy sb m kb), (p0, BBox rx cx sa n ka)] [fun W => ResM OT R R ov W O0 O1 O2 O3 O4, fun W => FlM W t3x n k3x xs, fun W => FlM W tb m cb ys, fun W => FlM W ta n ca xs]) := HF.out.sto 1 rfl
        obtain ⟨U17, hU17⟩ : ∃ V, Hid ((StoM u16 ig O0 O1 O2 O3 O4) = V) := ⟨_, rfl⟩
        rw [hU17.out] at HF
        have hU17' := hU17.out
        unfold StoM at hU17'
        have HF : Hid (FrQ w U17 [(ih, MBox Q0 Q1 Q2 Q3 Q4), (ig, MBox O0 O1 O2 O3 O4), (ib, MBox ry cy tb m cb), (ia, MBox rx cx ta n ca), (p1, BBox ry cy sb m kb), (p0, BBox rx cx sa n ka)] [fun W => ResM OT R R ov W O0 O1 O2 O3 O4, fun W => FlM W tb m cb ys, fun W => FlM W ta n ca xs]) := HF.out.sub (.cons_cons _ (.cons_cons _ (.cons_cons _ (.cons_cons _ (.cons_cons _ (.cons_cons _ .slnil)))))) (.cons_cons _ (.cons _ (.cons_cons _ (.cons_cons _ .slnil))))
        go_upto_if 93 with fail
        go_cut [22] from 23 (fun s22 W => s22 = .int .i64 OT ∧ ∃ (E0 E1 : Int) (E2 : Option Addr) (E3 E4 : Nat), Hid (FrQ w W [(ih, MBox E0 E1 E2 E3 E4), (ig, MBox O0 O1 O2 O3 O4), (ib, MBox ry cy tb m cb), (ia, MBox rx cx ta n ca), (p1, BBox ry cy sb m kb), (p0, BBox rx cx sa n ka)] [fun W => OT = 0 → ResM OT R R ov W E0 E1 E2 E3 E4, fun W => ResM OT R R ov W O0 O1 O2 O3 O4, fun W => FlM W tb m cb ys, fun W => FlM W ta n ca xs]))
        case first =>
          by_cases hT0 : EA = 0
          · have HRZ := hid (fun W hW h => HRO.out W hW h hT0)
            have hye : (EA == 0) = true := by simpa using hT0
            have HT0 := hid hT0
            clear hT0
            obtain ⟨c00, c01, c02⟩ := mcells_of (HF.out.at 3 rfl : U17.heap[ia]? = some (MBox rx cx ta n ca))
            go_wp2_with fail
            refine (HRZ.out _ HF.out.bel (HF.out.get (g := fun W => FlM W ta n ca xs) 2 rfl)).mono ?_
            rintro e u18 ⟨⟨A0, A1, A2, A3, A4, rfl, hres⟩, hb⟩
            have HF : Hid (FrQ w u18 [(ih, MBox Q0 Q1 Q2 Q3 Q4), (ig, MBox O0 O1 O2 O3 O4), (ib, MBox ry cy tb m cb), (ia, MBox rx cx ta n ca), (p1, BBox ry cy sb m kb), (p0, BBox rx cx sa n ka)] [fun W => ResM OT R R ov W O0 O1 O2 O3 O4, fun W => FlM W tb m cb ys, fun W => FlM W ta n ca xs]) := HF.out.call hb
            have HF : Hid (FrQ w u18 [(ih, MBox Q0 Q1 Q2 Q3 Q4), (ig, MBox O0 O1 O2 O3 O4), (ib, MBox ry cy tb m cb), (ia, MBox rx cx ta n ca), (p1, BBox ry cy sb m kb), (p0, BBox rx cx sa n ka)] [fun W => OT = 0 → ResM OT R R ov W A0 A1 A2 A3 A4, fun W => ResM OT R R ov W O0 O1 O2 O3 O4, fun W => FlM W tb m cb ys, fun W => FlM W ta n ca xs]) := HF.out.add (kept_resi _ _ _ _ _ _ _ _ _) (fun _ => hres)
            clear hb
            clear hres HRZ
            obtain ⟨z0, z1, z2⟩ := mcells_of (HF.out.at 0 rfl : u18.heap[ih]? = some (MBox Q0 Q1 Q2 Q3 Q4))
            have fz := frzM (HF.out.at 0 rfl : u18.heap[ih]? = some (MBox Q0 Q1 Q2 Q3 Q4))
            have HF : Hid (FrQ w (StoM u18 ih A0 A1 A2 A3 A4) [(ih, MBox A0 A1 A2 A3 A4), (ig, MBox O0 O1 O2 O3 O4), (ib, MBox ry cy tb m cb), (ia, MBox rx cx ta n ca), (p1, BBox ry cy sb m kb), (p0, BBox rx cx sa n ka)] [fun W => OT = 0 → ResM OT R R ov W A0 A1 A2 A3 A4, fun W => ResM OT R R ov W O0 O1 O2 O3 O4, fun W => FlM W tb m cb ys, fun W => FlM W ta n ca xs]) := HF.out.sto 0 rfl
            obtain ⟨U19, hU19⟩ : ∃ V, Hid ((StoM u18 ih A0 A1 A2 A3 A4) = V) := ⟨_, rfl⟩
            rw [hU19.out] at HF
            have hU19' := hU19.out
            unfold StoM at hU19'
            go_wp2_with fail
            go_meet
            exact ⟨rfl, _, _, _, _, _, HF⟩
          · have hne : (EA == 0) = false := by simpa using hT0
            have HMN := hid (HNO.out hT0)
            have HNZ := hid hT0
            clear hT0
            have HF : Hid (FrQ w U17 [(ih, MBox Q0 Q1 Q2 Q3 Q4), (ig, MBox O0 O1 O2 O3 O4), (ib, MBox ry cy tb m cb), (ia, MBox rx cx ta n ca), (p1, BBox ry cy sb m kb), (p0, BBox rx cx sa n ka)] [fun W => OT = 0 → ResM OT R R ov W Q0 Q1 Q2 Q3 Q4, fun W => ResM OT R R ov W O0 O1 O2 O3 O4, fun W => FlM W tb m cb ys, fun W => FlM W ta n ca xs]) := HF.out.add (kept_resi _ _ _ _ _ _ _ _ _) (fun h => absurd (HMN.out.symm.trans h) HNZ.out)
            go_wp2_with fail
            go_meet
            exact ⟨by rw [HMN.out], _, _, _, _, _, HF⟩
        case rest =>
          obtain ⟨rfl, E0, E1, E2, E3, E4, HF⟩ := hcut
          obtain ⟨c00, c01, c02⟩ := mcells_of (HF.out.at 1 rfl : wc.heap[ig]? = some (MBox O0 O1 O2 O3 O4))
          obtain ⟨c10, c11, c12⟩ := mcells_of (HF.out.at 0 rfl : wc.heap[ih]? = some (MBox E0 E1 E2 E3 E4))
          go_wp2_with fail
          refine (told_res OT R R ov _ _ _ _ _ _ _ _ _ _ _ (HF.out.get (g := fun W => ResM OT R R ov W O0 O1 O2 O3 O4) 1 rfl) (HF.out.get (g := fun W => OT = 0 → ResM OT R R ov W E0 E1 E2 E3 E4) 0 rfl)).mono ?_
          rintro e u18 ⟨rfl, hb⟩
          have HF : Hid (FrQ w u18 [(ih, MBox E0 E1 E2 E3 E4), (ig, MBox O0 O1 O2 O3 O4), (ib, MBox ry cy tb m cb), (ia, MBox rx cx ta n ca), (p1, BBox ry cy sb m kb), (p0, BBox rx cx sa n ka)] [fun W => OT = 0 → ResM OT R R ov W E0 E1 E2 E3 E4, fun W => ResM OT R R ov W O0 O1 O2 O3 O4, fun W => FlM W tb m cb ys, fun W => FlM W ta n ca xs]) := HF.out.call hb
          clear hb
          have HF : Hid (FrQ w u18 [(ih, MBox E0 E1 E2 E3 E4), (ig, MBox O0 O1 O2 O3 O4), (ib, MBox ry cy tb m cb), (ia, MBox rx cx ta n ca), (p1, BBox ry cy sb m kb), (p0, BBox rx cx sa n ka)] [fun W => FlM W tb m cb ys, fun W => FlM W ta n ca xs]) := HF.out.sub (.cons_cons _ (.cons_cons _ (.cons_cons _ (.cons_cons _ (.cons_cons _ (.cons_cons _ .slnil)))))) (.cons _ (.cons _ (.cons_cons _ (.cons_cons _ .slnil))))
          have HKT : Hid (∀ W, Hid (FrQ w W [(ih, MBox E0 E1 E2 E3 E4), (ib, MBox ry cy tb m cb), (ia, MBox rx cx ta n ca), (p1, BBox ry cy sb m kb), (p0, BBox rx cx sa n ka)] [fun W => FlM W tb m cb ys, fun W => FlM W ta n ca xs]) → (W.cell? ⟨p0, 0, none⟩ = some (.int .i64 rx) ∧ W.cell? ⟨p0, 1, none⟩ = some (.int .i64 cx) ∧ W.cell? ⟨p0, 2, none⟩ = some (.slice sa n ka) ∧ W.cell? ⟨p1, 0, none⟩ = some (.int .i64 ry) ∧ W.cell? ⟨p1, 1, none⟩ = some (.int .i64 cy) ∧ W.cell? ⟨p1, 2, none⟩ = some (.slice sb m kb)) ∧ Hid (FrQ w W [(ih, MBox E0 E1 E2 E3 E4), (ib, MBox ry cy tb m cb), (ia, MBox rx cx ta n ca), (p1, BBox ry cy sb m kb), (p0, BBox rx cx sa n ka)] [fun W => FlM W tb m cb ys, fun W => FlM W ta n ca xs])) := fun W hW => by
            obtain ⟨a00, a01, a02⟩ := bcells_of (hW.out.at 4 rfl : W.heap[p0]? = some (BBox rx cx sa n ka))
            obtain ⟨a10, a11, a12⟩ := bcells_of (hW.out.at 3 rfl : W.heap[p1]? = some (BBox ry cy sb m kb))
            exact ⟨⟨a00, a01, a02, a10, a11, a12⟩, hW⟩
          have HQ0 : Hid (FrQ w u18.drew [(ih, MBox E0 E1 E2 E3 E4), (ig, MBox O0 O1 O2 O3 O4), (ib, MBox ry cy tb m cb), (ia, MBox rx cx ta n ca), (p1, BBox ry cy sb m kb), (p0, BBox rx cx sa n ka)] [fun W => FlM W tb m cb ys, fun W => FlM W ta n ca xs]) := HF.out.drew
          have HQS0 : Hid (FrQ w u18.drew [(ih, MBox E0 E1 E2 E3 E4), (ib, MBox ry cy tb m cb), (ia, MBox rx cx ta n ca), (p1, BBox ry cy sb m kb), (p0, BBox rx cx sa n ka)] [fun W => FlM W tb m cb ys, fun W => FlM W ta n ca xs]) := HQ0.out.sub (.cons_cons _ (.cons _ (.cons_cons _ (.cons_cons _ (.cons_cons _ (.cons_cons _ .slnil)))))) (.cons_cons _ (.cons_cons _ .slnil))
          go_wp2_with fail
          refine wp_region_held_drew (S := fun W => (W.cell? ⟨p0, 0, none⟩ = some (.int .i64 rx) ∧ W.cell? ⟨p0, 1, none⟩ = some (.int .i64 cx) ∧ W.cell? ⟨p0, 2, none⟩ = some (.slice sa n ka) ∧ W.cell? ⟨p1, 0, none⟩ = some (.int .i64 ry) ∧ W.cell? ⟨p1, 1, none⟩ = some (.int .i64 cy) ∧ W.cell? ⟨p1, 2, none⟩ = some (.slice sb m kb)) ∧ Hid (FrQ w W [(ih, MBox E0 E1 E2 E3 E4), (ib, MBox ry cy tb m cb), (ia, MBox rx cx ta n ca), (p1, BBox ry cy sb m kb), (p0, BBox rx cx sa n ka)] [fun W => FlM W tb m cb ys, fun W => FlM W ta n ca xs])) (by kernel_rfl) (HKT.out _ HQS0) (fun hHeld => ?_)
          refine take_at 0 108 (.agg #[.int .i64 rx, .int .i64 cx, .slice sa n ka]) rfl rfl (by kernel_rfl) (by kernel_rfl) (by kernel_rfl) (fun _ _ _ h => h) (Or.inl ⟨by rfl, fun w hSw => by (try dsimp only at hSw); go_simp⟩) (by assumption) ?_
          simp only [Act.put, List.setIfInBounds_toArray, List.set_cons_zero, List.set_cons_succ]
          refine take_at 2 110 (.agg #[.int .i64 ry, .int .i64 cy, .slice sb m kb]) rfl rfl (by kernel_rfl) (by kernel_rfl) (by kernel_rfl) (fun _ _ _ h => h) (Or.inl ⟨by rfl, fun w hSw => by (try dsimp only at hSw); go_simp⟩) (by assumption) ?_
          simp only [Act.put, List.setIfInBounds_toArray, List.set_cons_zero, List.set_cons_succ]
          refine wpAnyH_ready (rs := [1]) (by kernel_rfl) (by simp) ?_
          refine AllReadyH.cons (o := _) rfl (fun K hK => ?_) AllReadyH.nil
          go_simp
          refine (HOX.out _ HQ0.out.bel).mono ?_
          rintro e t1 ⟨⟨t4x, k4x, rfl, hf⟩, hbq⟩
          have HQ1 := hid (HQ0.out.call hbq)
          have HQ1 := hid (HQ1.out.add (g := fun W => FlM W t4x n k4x xs) (kept_fl _ _ _ _) hf)
          clear hbq
          unfold MV
          go_wp2_with fail
          have HQS := hid (HQ1.out.sub (.cons_cons _ (.cons _ (.cons_cons _ (.cons_cons _ (.cons_cons _ (.cons_cons _ .slnil)))))) (.cons _ (.cons_cons _ (.cons_cons _ .slnil))))
          refine hK.out _ _ (HKT.out _ HQS) (fun hHeld1 => ?_)
          clear hK K HQS
          try simp only [Act.put, List.setIfInBounds_toArray, List.set_cons_zero, List.set_cons_succ]
          refine wpAnyH_ready (rs := [3]) (by kernel_rfl) (by simp) ?_
          refine AllReadyH.cons (o := _) rfl (fun K hK => ?_) AllReadyH.nil
          go_simp
          refine (HOY.out _ HQ1.out.bel).mono ?_
          rintro e t2 ⟨⟨t4y, k4y, rfl, hf⟩, hbq⟩
          have HQ2 := hid (HQ1.out.call hbq)
          have HQ2 := hid (HQ2.out.add (g := fun W => FlM W t4y m k4y ys) (kept_fl _ _ _ _) hf)
          clear hbq
          unfold MV
          go_wp2_with fail
          have HQS := hid (HQ2.out.sub (.cons_cons _ (.cons _ (.cons_cons _ (.cons_cons _ (.cons_cons _ (.cons_cons _ .slnil)))))) (.cons _ (.cons _ (.cons_cons _ (.cons_cons _ .slnil)))))
          refine hK.out _ _ (HKT.out _ HQS) (fun hHeld2 => ?_)
          clear hK K HQS
          try simp only [Act.put, List.setIfInBounds_toArray, List.set_cons_zero, List.set_cons_succ]
          refine wpAnyH_ready (rs := [4]) (by kernel_rfl) (by simp) ?_
          refine AllReadyH.cons (o := _) rfl (fun K hK => ?_) AllReadyH.nil
          go_simp
          refine (HPD.out _ _ _ _ _ (HQ2.out.get (g := fun W => FlM W t4x n k4x xs) 1 rfl) (HQ2.out.get (g := fun W => FlM W t4y m k4y ys) 0 rfl)).mono ?_
          rintro e t3 ⟨⟨D0, D1, D2, D3, D4, rfl, hres⟩, hbq⟩
          have HQ3 := hid (HQ2.out.call hbq)
          have HQ3 := hid (HQ3.out.add (g := fun W => ResM BT R CS dv W D0 D1 D2 D3 D4) (kept_res _ _ _ _ _ _ _ _ _) hres)
          clear hbq
          clear hres
          go_wp2_with fail
          have HQS := hid (HQ3.out.sub (.cons_cons _ (.cons _ (.cons_cons _ (.cons_cons _ (.cons_cons _ (.cons_cons _ .slnil)))))) (.cons _ (.cons _ (.cons _ (.cons_cons _ (.cons_cons _ .slnil))))))
          refine hK.out _ _ (HKT.out _ HQS) (fun hHeld3 => ?_)
          clear hK K HQS
          try simp only [Act.put, List.setIfInBounds_toArray, List.set_cons_zero, List.set_cons_succ]
          refine take_at 5 107 (.tuple #[.agg #[.int .i64 D0, .int .i64 D1, .slice D2 D3 D4], .int .i64 BT]) rfl rfl (by kernel_rfl) (by kernel_rfl) (by kernel_rfl) (fun _ _ _ h => h) (Or.inl ⟨by rfl, fun w hSw => by (try dsimp only at hSw); go_simp⟩) (by assumption) ?_
          simp only [Act.put, List.setIfInBounds_toArray, List.set_cons_zero, List.set_cons_succ]
          refine take_at 6 113 (.agg #[.int .i64 D0, .int .i64 D1, .slice D2 D3 D4]) rfl rfl (by kernel_rfl) (by kernel_rfl) (by kernel_rfl) (fun _ _ _ h => h) (Or.inl ⟨by rfl, fun w hSw => by (try dsimp only at hSw); go_simp⟩) (by assumption) ?_
          simp only [Act.put, List.setIfInBounds_toArray, List.set_cons_zero, List.set_cons_succ]
          refine take_at 7 114 (.int .i64 BT) rfl rfl (by kernel_rfl) (by kernel_rfl) (by kernel_rfl) (fun _ _ _ h => h) (Or.inl ⟨by rfl, fun w hSw => by (try dsimp only at hSw); go_simp⟩) (by assumption) ?_
          simp only [Act.put, List.setIfInBounds_toArray, List.set_cons_zero, List.set_cons_succ]
          refine wpAnyH_ready (rs := [8]) (by kernel_rfl) (by simp) ?_
          refine AllReadyH.cons (o := _) rfl (fun K hK => ?_) AllReadyH.nil
          obtain ⟨z0, z1, z2⟩ := mcells_of (HQ3.out.at 1 rfl : t3.heap[ig]? = some (MBox O0 O1 O2 O3 O4))
          have fz := frzM (HQ3.out.at 1 rfl : t3.heap[ig]? = some (MBox O0 O1 O2 O3 O4))
          have HQ4 : Hid (FrQ w (StoM t3 ig D0 D1 D2 D3 D4) [(ih, MBox E0 E1 E2 E3 E4), (ig, MBox D0 D1 D2 D3 D4), (ib, MBox ry cy tb m cb), (ia, MBox rx cx ta n ca), (p1, BBox ry cy sb m kb), (p0, BBox rx cx sa n ka)] [fun W => ResM BT R CS dv W D0 D1 D2 D3 D4, fun W => FlM W t4y m k4y ys, fun W => FlM W t4x n k4x xs, fun W => FlM W tb m cb ys, fun W => FlM W ta n ca xs]) := HQ3.out.sto 1 rfl
          obtain ⟨U4, hU4⟩ : ∃ X, Hid ((StoM t3 ig D0 D1 D2 D3 D4) = X) := ⟨_, rfl⟩
          rw [hU4.out] at HQ4
          have hU4' := hU4.out
          unfold StoM at hU4'
          go_simp
          go_wp2_with fail
          have HQS := hid (HQ4.out.sub (.cons_cons _ (.cons _ (.cons_cons _ (.cons_cons _ (.cons_cons _ (.cons_cons _ .slnil)))))) (.cons _ (.cons _ (.cons _ (.cons_cons _ (.cons_cons _ .slnil))))))
          refine hK.out _ _ (HKT.out _ HQS) (fun hHeld4 => ?_)
          clear hK K HQS
          try simp only [Act.put, List.setIfInBounds_toArray, List.set_cons_zero, List.set_cons_succ]
          clear z0 z1 z2 fz
          refine take_at 9 20 (.int .i64 BT) rfl rfl (by kernel_rfl) (by kernel_rfl) (by kernel_rfl) (fun _ _ _ h => h) (Or.inl ⟨by rfl, fun w hSw => by (try dsimp only at hSw); go_simp⟩) (by assumption) ?_
          simp only [Act.put, List.setIfInBounds_toArray, List.set_cons_zero, List.set_cons_succ]
          refine wpAnyH_done (by kernel_rfl) ?_ _
          have HF : Hid (FrQ w U4 [(ih, MBox E0 E1 E2 E3 E4), (ig, MBox D0 D1 D2 D3 D4), (ib, MBox ry cy tb m cb), (ia, MBox rx cx ta n ca), (p1, BBox ry cy sb m kb), (p0, BBox rx cx sa n ka)] [fun W => ResM BT R CS dv W D0 D1 D2 D3 D4, fun W => FlM W t4y m k4y ys, fun W => FlM W t4x n k4x xs, fun W => FlM W tb m cb ys, fun W => FlM W ta n ca xs]) := HQ4.out
          clear HKT HQ0 HQS0
          have HF : Hid (FrQ w U4 [(ih, MBox E0 E1 E2 E3 E4), (ig, MBox D0 D1 D2 D3 D4), (ib, MBox ry cy tb m cb), (ia, MBox rx cx ta n ca), (p1, BBox ry cy sb m kb), (p0, BBox rx cx sa n ka)] [fun W => ResM BT R CS dv W D0 D1 D2 D3 D4, fun W => FlM W tb m cb ys, fun W => FlM W ta n ca xs]) := HF.out.sub (.cons_cons _ (.cons_cons _ (.cons_cons _ (.cons_cons _ (.cons_cons _ (.cons_cons _ .slnil)))))) (.cons_cons _ (.cons _ (.cons _ (.cons_cons _ (.cons_cons _ .slnil)))))
          go_upto_if 116 with fail
          go_cut [22] from 23 (fun s22 W => s22 = .int .i64 BT ∧ ∃ (G0 G1 : Int) (G2 : Option Addr) (G3 G4 : Nat), Hid (FrQ w W [(ih, MBox G0 G1 G2 G3 G4), (ig, MBox D0 D1 D2 D3 D4), (ib, MBox ry cy tb m cb), (ia, MBox rx cx ta n ca), (p1, BBox ry cy sb m kb), (p0, BBox rx cx sa n ka)] [fun W => BT = 0 → ResM BT R CS dv W G0 G1 G2 G3 G4, fun W => ResM BT R CS dv W D0 D1 D2 D3 D4, fun W => FlM W tb m cb ys, fun W => FlM W ta n ca xs]))
          case first =>
            by_cases hT0 : T2 = 0
            · have HRZ := hid (fun W h h2 => HRD.out W h h2 hT0)
              have hye : (T2 == 0) = true := by simpa using hT0
              have HT0 := hid hT0
              clear hT0
              obtain ⟨c00, c01, c02⟩ := mcells_of (HF.out.at 3 rfl : U4.heap[ia]? = some (MBox rx cx ta n ca))
              obtain ⟨c10, c11, c12⟩ := mcells_of (HF.out.at 2 rfl : U4.heap[ib]? = some (MBox ry cy tb m cb))
              go_wp2_with fail
              refine (HRZ.out _ (HF.out.get (g := fun W => FlM W ta n ca xs) 2 rfl) (HF.out.get (g := fun W => FlM W tb m cb ys) 1 rfl)).mono ?_
              rintro e u19 ⟨⟨A0, A1, A2, A3, A4, rfl, hres⟩, hb⟩
              have HF : Hid (FrQ w u19 [(ih, MBox E0 E1 E2 E3 E4), (ig, MBox D0 D1 D2 D3 D4), (ib, MBox ry cy tb m cb), (ia, MBox rx cx ta n ca), (p1, BBox ry cy sb m kb), (p0, BBox rx cx sa n ka)] [fun W => ResM BT R CS dv W D0 D1 D2 D3 D4, fun W => FlM W tb m cb ys, fun W => FlM W ta n ca xs]) := HF.out.call hb
              have HF : Hid (FrQ w u19 [(ih, MBox E0 E1 E2 E3 E4), (ig, MBox D0 D1 D2 D3 D4), (ib, MBox ry cy tb m cb), (ia, MBox rx cx ta n ca), (p1, BBox ry cy sb m kb), (p0, BBox rx cx sa n ka)] [fun W => BT = 0 → ResM BT R CS dv W A0 A1 A2 A3 A4, fun W => ResM BT R CS dv W D0 D1 D2 D3 D4, fun W => FlM W tb m cb ys, fun W => FlM W ta n ca xs]) := HF.out.add (kept_resi _ _ _ _ _ _ _ _ _) (fun _ => hres)
              clear hb
              clear hres HRZ
              obtain ⟨z0, z1, z2⟩ := mcells_of (HF.out.at 0 rfl : u19.heap[ih]? = some (MBox E0 E1 E2 E3 E4))
              have fz := frzM (HF.out.at 0 rfl : u19.heap[ih]? = some (MBox E0 E1 E2 E3 E4))
              have HF : Hid (FrQ w (StoM u19 ih A0 A1 A2 A3 A4) [(ih, MBox A0 A1 A2 A3 A4), (ig, MBox D0 D1 D2 D3 D4), (ib, MBox ry cy tb m cb), (ia, MBox rx cx ta n ca), (p1, BBox ry cy sb m kb), (p0, BBox rx cx sa n ka)] [fun W => BT = 0 → ResM BT R CS dv W A0 A1 A2 A3 A4, fun W => ResM BT R CS dv W D0 D1 D2 D3 D4, fun W => FlM W tb m cb ys, fun W => FlM W ta n ca xs]) := HF.out.sto 0 rfl
              obtain ⟨U20, hU20⟩ : ∃ V, Hid ((StoM u19 ih A0 A1 A2 A3 A4) = V) := ⟨_, rfl⟩
              rw [hU20.out] at HF
              have hU20' := hU20.out
              unfold StoM at hU20'
              go_wp2_with fail
              go_meet
              exact ⟨rfl, _, _, _, _, _, HF⟩
            · have hne : (T2 == 0) = false := by simpa using hT0
              have HMN := hid (HND.out hT0)
              have HNZ := hid hT0
              clear hT0
              have HF : Hid (FrQ w U4 [(ih, MBox E0 E1 E2 E3 E4), (ig, MBox D0 D1 D2 D3 D4), (ib, MBox ry cy tb m cb), (ia, MBox rx cx ta n ca), (p1, BBox ry cy sb m kb), (p0, BBox rx cx sa n ka)] [fun W => BT = 0 → ResM BT R CS dv W E0 E1 E2 E3 E4, fun W => ResM BT R CS dv W D0 D1 D2 D3 D4, fun W => FlM W tb m cb ys, fun W => FlM W ta n ca xs]) := HF.out.add (kept_resi _ _ _ _ _ _ _ _ _) (fun h => absurd (HMN.out.symm.trans h) HNZ.out)
              go_wp2_with fail
              go_meet
              exact ⟨by rw [HMN.out], _, _, _, _, _, HF⟩
          case rest =>
            obtain ⟨rfl, G0, G1, G2, G3, G4, HF⟩ := hcut
            obtain ⟨c00, c01, c02⟩ := mcells_of (HF.out.at 1 rfl : wc.heap[ig]? = some (MBox D0 D1 D2 D3 D4))
            obtain ⟨c10, c11, c12⟩ := mcells_of (HF.out.at 0 rfl : wc.heap[ih]? = some (MBox G0 G1 G2 G3 G4))
            go_wp2_with fail
            refine (told_res BT R CS dv _ _ _ _ _ _ _ _ _ _ _ (HF.out.get (g := fun W => ResM BT R CS dv W D0 D1 D2 D3 D4) 1 rfl) (HF.out.get (g := fun W => BT = 0 → ResM BT R CS dv W G0 G1 G2 G3 G4) 0 rfl)).mono ?_
            rintro e u19 ⟨rfl, hb⟩
            have HF : Hid (FrQ w u19 [(ih, MBox G0 G1 G2 G3 G4), (ig, MBox D0 D1 D2 D3 D4), (ib, MBox ry cy tb m cb), (ia, MBox rx cx ta n ca), (p1, BBox ry cy sb m kb), (p0, BBox rx cx sa n ka)] [fun W => BT = 0 → ResM BT R CS dv W G0 G1 G2 G3 G4, fun W => ResM BT R CS dv W D0 D1 D2 D3 D4, fun W => FlM W tb m cb ys, fun W => FlM W ta n ca xs]) := HF.out.call hb
            clear hb
            have HF : Hid (FrQ w u19 [(ih, MBox G0 G1 G2 G3 G4), (ig, MBox D0 D1 D2 D3 D4), (ib, MBox ry cy tb m cb), (ia, MBox rx cx ta n ca), (p1, BBox ry cy sb m kb), (p0, BBox rx cx sa n ka)] [fun W => FlM W tb m cb ys, fun W => FlM W ta n ca xs]) := HF.out.sub (.cons_cons _ (.cons_cons _ (.cons_cons _ (.cons_cons _ (.cons_cons _ (.cons_cons _ .slnil)))))) (.cons _ (.cons _ (.cons_cons _ (.cons_cons _ .slnil))))
            have HKT : Hid (∀ W, Hid (FrQ w W [(ih, MBox G0 G1 G2 G3 G4), (ib, MBox ry cy tb m cb), (ia, MBox rx cx ta n ca), (p1, BBox ry cy sb m kb), (p0, BBox rx cx sa n ka)] [fun W => FlM W tb m cb ys, fun W => FlM W ta n ca xs]) → (W.cell? ⟨p0, 0, none⟩ = some (.int .i64 rx) ∧ W.cell? ⟨p0, 1, none⟩ = some (.int .i64 cx) ∧ W.cell? ⟨p0, 2, none⟩ = some (.slice sa n ka) ∧ W.cell? ⟨p1, 0, none⟩ = some (.int .i64 ry) ∧ W.cell? ⟨p1, 1, none⟩ = some (.int .i64 cy) ∧ W.cell? ⟨p1, 2, none⟩ = some (.slice sb m kb)) ∧ Hid (FrQ w W [(ih, MBox G0 G1 G2 G3 G4), (ib, MBox ry cy tb m cb), (ia, MBox rx cx ta n ca), (p1, BBox ry cy sb m kb), (p0, BBox rx cx sa n ka)] [fun W => FlM W tb m cb ys, fun W => FlM W ta n ca xs])) := fun W hW => by
              obtain ⟨a00, a01, a02⟩ := bcells_of (hW.out.at 4 rfl : W.heap[p0]? = some (BBox rx cx sa n ka))
              obtain ⟨a10, a11, a12⟩ := bcells_of (hW.out.at 3 rfl : W.heap[p1]? = some (BBox ry cy sb m kb))
              exact ⟨⟨a00, a01, a02, a10, a11, a12⟩, hW⟩
            have HQ0 : Hid (FrQ w u19.drew [(ih, MBox G0 G1 G2 G3 G4), (ig, MBox D0 D1 D2 D3 D4), (ib, MBox ry cy tb m cb), (ia, MBox rx cx ta n ca), (p1, BBox ry cy sb m kb), (p0, BBox rx cx sa n ka)] [fun W => FlM W tb m cb ys, fun W => FlM W ta n ca xs]) := HF.out.drew
            have HQS0 : Hid (FrQ w u19.drew [(ih, MBox G0 G1 G2 G3 G4), (ib, MBox ry cy tb m cb), (ia, MBox rx cx ta n ca), (p1, BBox ry cy sb m kb), (p0, BBox rx cx sa n ka)] [fun W => FlM W tb m cb ys, fun W => FlM W ta n ca xs]) := HQ0.out.sub (.cons_cons _ (.cons _ (.cons_cons _ (.cons_cons _ (.cons_cons _ (.cons_cons _ .slnil)))))) (.cons_cons _ (.cons_cons _ .slnil))
            go_wp2_with fail
            refine wp_region_held_drew (S := fun W => (W.cell? ⟨p0, 0, none⟩ = some (.int .i64 rx) ∧ W.cell? ⟨p0, 1, none⟩ = some (.int .i64 cx) ∧ W.cell? ⟨p0, 2, none⟩ = some (.slice sa n ka) ∧ W.cell? ⟨p1, 0, none⟩ = some (.int .i64 ry) ∧ W.cell? ⟨p1, 1, none⟩ = some (.int .i64 cy) ∧ W.cell? ⟨p1, 2, none⟩ = some (.slice sb m kb)) ∧ Hid (FrQ w W [(ih, MBox G0 G1 G2 G3 G4), (ib, MBox ry cy tb m cb), (ia, MBox rx cx ta n ca), (p1, BBox ry cy sb m kb), (p0, BBox rx cx sa n ka)] [fun W => FlM W tb m cb ys, fun W => FlM W ta n ca xs])) (by kernel_rfl) (HKT.out _ HQS0) (fun hHeld => ?_)
            refine take_at 0 131 (.agg #[.int .i64 rx, .int .i64 cx, .slice sa n ka]) rfl rfl (by kernel_rfl) (by kernel_rfl) (by kernel_rfl) (fun _ _ _ h => h) (Or.inl ⟨by rfl, fun w hSw => by (try dsimp only at hSw); go_simp⟩) (by assumption) ?_
            simp only [Act.put, List.setIfInBounds_toArray, List.set_cons_zero, List.set_cons_succ]
            refine take_at 2 133 (.agg #[.int .i64 ry, .int .i64 cy, .slice sb m kb]) rfl rfl (by kernel_rfl) (by kernel_rfl) (by kernel_rfl) (fun _ _ _ h => h) (Or.inl ⟨by rfl, fun w hSw => by (try dsimp only at hSw); go_simp⟩) (by assumption) ?_
            simp only [Act.put, List.setIfInBounds_toArray, List.set_cons_zero, List.set_cons_succ]
            refine wpAnyH_ready (rs := [1]) (by kernel_rfl) (by simp) ?_
            refine AllReadyH.cons (o := _) rfl (fun K hK => ?_) AllReadyH.nil
            go_simp
            refine (HOX.out _ HQ0.out.bel).mono ?_
            rintro e t1 ⟨⟨t5x, k5x, rfl, hf⟩, hbq⟩
            have HQ1 := hid (HQ0.out.call hbq)
            have HQ1 := hid (HQ1.out.add (g := fun W => FlM W t5x n k5x xs) (kept_fl _ _ _ _) hf)
            clear hbq
            unfold MV
            go_wp2_with fail
            have HQS := hid (HQ1.out.sub (.cons_cons _ (.cons _ (.cons_cons _ (.cons_cons _ (.cons_cons _ (.cons_cons _ .slnil)))))) (.cons _ (.cons_cons _ (.cons_cons _ .slnil))))
            refine hK.out _ _ (HKT.out _ HQS) (fun hHeld1 => ?_)
            clear hK K HQS
            try simp only [Act.put, List.setIfInBounds_toArray, List.set_cons_zero, List.set_cons_succ]
            refine wpAnyH_ready (rs := [3]) (by kernel_rfl) (by simp) ?_
            refine AllReadyH.cons (o := _) rfl (fun K hK => ?_) AllReadyH.nil
            go_simp
            refine (HOY.out _ HQ1.out.bel).mono ?_
            rintro e t2 ⟨⟨t5y, k5y, rfl, hf⟩, hbq⟩
            have HQ2 := hid (HQ1.out.call hbq)
            have HQ2 := hid (HQ2.out.add (g := fun W => FlM W t5y m k5y ys) (kept_fl _ _ _ _) hf)
            clear hbq
            unfold MV
            go_wp2_with fail
            have HQS := hid (HQ2.out.sub (.cons_cons _ (.cons _ (.cons_cons _ (.cons_cons _ (.cons_cons _ (.cons_cons _ .slnil)))))) (.cons _ (.cons _ (.cons_cons _ (.cons_cons _ .slnil)))))
            refine hK.out _ _ (HKT.out _ HQS) (fun hHeld2 => ?_)
            clear hK K HQS
            try simp only [Act.put, List.setIfInBounds_toArray, List.set_cons_zero, List.set_cons_succ]
            refine wpAnyH_ready (rs := [4]) (by kernel_rfl) (by simp) ?_
            refine AllReadyH.cons (o := _) rfl (fun K hK => ?_) AllReadyH.nil
            go_simp
            refine (HPS.out _ _ _ _ _ (HQ2.out.get (g := fun W => FlM W t5x n k5x xs) 1 rfl) (HQ2.out.get (g := fun W => FlM W t5y m k5y ys) 0 rfl)).mono ?_
            rintro e t3 ⟨⟨S0, S1, S2, S3, S4, rfl, hres⟩, hbq⟩
            have HQ3 := hid (HQ2.out.call hbq)
            have HQ3 := hid (HQ3.out.add (g := fun W => ResM ST RS C sv W S0 S1 S2 S3 S4) (kept_res _ _ _ _ _ _ _ _ _) hres)
            clear hbq
            clear hres
            go_wp2_with fail
            have HQS := hid (HQ3.out.sub (.cons_cons _ (.cons _ (.cons_cons _ (.cons_cons _ (.cons_cons _ (.cons_cons _ .slnil)))))) (.cons _ (.cons _ (.cons _ (.cons_cons _ (.cons_cons _ .slnil))))))
            refine hK.out _ _ (HKT.out _ HQS) (fun hHeld3 => ?_)
            clear hK K HQS
            try simp only [Act.put, List.setIfInBounds_toArray, List.set_cons_zero, List.set_cons_succ]
            refine take_at 5 130 (.tuple #[.agg #[.int .i64 S0, .int .i64 S1, .slice S2 S3 S4], .int .i64 ST]) rfl rfl (by kernel_rfl) (by kernel_rfl) (by kernel_rfl) (fun _ _ _ h => h) (Or.inl ⟨by rfl, fun w hSw => by (try dsimp only at hSw); go_simp⟩) (by assumption) ?_
            simp only [Act.put, List.setIfInBounds_toArray, List.set_cons_zero, List.set_cons_succ]
            refine take_at 6 136 (.agg #[.int .i64 S0, .int .i64 S1, .slice S2 S3 S4]) rfl rfl (by kernel_rfl) (by kernel_rfl) (by kernel_rfl) (fun _ _ _ h => h) (Or.inl ⟨by rfl, fun w hSw => by (try dsimp only at hSw); go_simp⟩) (by assumption) ?_
            simp only [Act.put, List.setIfInBounds_toArray, List.set_cons_zero, List.set_cons_succ]
            refine take_at 7 137 (.int .i64 ST) rfl rfl (by kernel_rfl) (by kernel_rfl) (by kernel_rfl) (fun _ _ _ h => h) (Or.inl ⟨by rfl, fun w hSw => by (try dsimp only at hSw); go_simp⟩) (by assumption) ?_
            simp only [Act.put, List.setIfInBounds_toArray, List.set_cons_zero, List.set_cons_succ]
            refine wpAnyH_ready (rs := [8]) (by kernel_rfl) (by simp) ?_
            refine AllReadyH.cons (o := _) rfl (fun K hK => ?_) AllReadyH.nil
            obtain ⟨z0, z1, z2⟩ := mcells_of (HQ3.out.at 1 rfl : t3.heap[ig]? = some (MBox D0 D1 D2 D3 D4))
            have fz := frzM (HQ3.out.at 1 rfl : t3.heap[ig]? = some (MBox D0 D1 D2 D3 D4))
            have HQ4 : Hid (FrQ w (StoM t3 ig S0 S1 S2 S3 S4) [(ih, MBox G0 G1 G2 G3 G4), (ig, MBox S0 S1 S2 S3 S4), (ib, MBox ry cy tb m cb), (ia, MBox rx cx ta n ca), (p1, BBox ry cy sb m kb), (p0, BBox rx cx sa n ka)] [fun W => ResM ST RS C sv W S0 S1 S2 S3 S4, fun W => FlM W t5y m k5y ys, fun W => FlM W t5x n k5x xs, fun W => FlM W tb m cb ys, fun W => FlM W ta n ca xs]) := HQ3.out.sto 1 rfl
            obtain ⟨U4, hU4⟩ : ∃ X, Hid ((StoM t3 ig S0 S1 S2 S3 S4) = X) := ⟨_, rfl⟩
            rw [hU4.out] at HQ4
            have hU4' := hU4.out
            unfold StoM at hU4'
            go_simp
            go_wp2_with fail
            have HQS := hid (HQ4.out.sub (.cons_cons _ (.cons _ (.cons_cons _ (.cons_cons _ (.cons_cons _ (.cons_cons _ .slnil)))))) (.cons _ (.cons _ (.cons _ (.cons_cons _ (.cons_cons _ .slnil))))))
            refine hK.out _ _ (HKT.out _ HQS) (fun hHeld4 => ?_)
            clear hK K HQS
            try simp only [Act.put, List.setIfInBounds_toArray, List.set_cons_zero, List.set_cons_succ]
            clear z0 z1 z2 fz
            refine take_at 9 20 (.int .i64 ST) rfl rfl (by kernel_rfl) (by kernel_rfl) (by kernel_rfl) (fun _ _ _ h => h) (Or.inl ⟨by rfl, fun w hSw => by (try dsimp only at hSw); go_simp⟩) (by assumption) ?_
            simp only [Act.put, List.setIfInBounds_toArray, List.set_cons_zero, List.set_cons_succ]
            refine wpAnyH_done (by kernel_rfl) ?_ _
            have HF : Hid (FrQ w U4 [(ih, MBox G0 G1 G2 G3 G4), (ig, MBox S0 S1 S2 S3 S4), (ib, MBox ry cy tb m cb), (ia, MBox rx cx ta n ca), (p1, BBox ry cy sb m kb), (p0, BBox rx cx sa n ka)] [fun W => ResM ST RS C sv W S0 S1 S2 S3 S4, fun W => FlM W t5y m k5y ys, fun W => FlM W t5x n k5x xs, fun W => FlM W tb m cb ys, fun W => FlM W ta n ca xs]) := HQ4.out
            clear HKT HQ0 HQS0
            have HF : Hid (FrQ w U4 [(ih, MBox G0 G1 G2 G3 G4), (ig, MBox S0 S1 S2 S3 S4), (ib, MBox ry cy tb m cb), (ia, MBox rx cx ta n ca), (p1, BBox ry cy sb m kb), (p0, BBox rx cx sa n ka)] [fun W => ResM ST RS C sv W S0 S1 S2 S3 S4, fun W => FlM W tb m cb ys, fun W => FlM W ta n ca xs]) := HF.out.sub (.cons_cons _ (.cons_cons _ (.cons_cons _ (.cons_cons _ (.cons_cons _ (.cons_cons _ .slnil)))))) (.cons_cons _ (.cons _ (.cons _ (.cons_cons _ (.cons_cons _ .slnil)))))
            go_upto_if 139 with fail
            go_cut [22] from 23 (fun s22 W => s22 = .int .i64 ST ∧ ∃ (H0 H1 : Int) (H2 : Option Addr) (H3 H4 : Nat), Hid (FrQ w W [(ih, MBox H0 H1 H2 H3 H4), (ig, MBox S0 S1 S2 S3 S4), (ib, MBox ry cy tb m cb), (ia, MBox rx cx ta n ca), (p1, BBox ry cy sb m kb), (p0, BBox rx cx sa n ka)] [fun W => ST = 0 → ResM ST RS C sv W H0 H1 H2 H3 H4, fun W => ResM ST RS C sv W S0 S1 S2 S3 S4, fun W => FlM W tb m cb ys, fun W => FlM W ta n ca xs]))
            case first =>
              by_cases hT0 : T2 = 0
              · have HRZ := hid (fun W h h2 => HRS.out W h h2 hT0)
                have hye : (T2 == 0) = true := by simpa using hT0
                have HT0 := hid hT0
                clear hT0
                obtain ⟨c00, c01, c02⟩ := mcells_of (HF.out.at 3 rfl : U4.heap[ia]? = some (MBox rx cx ta n ca))
                obtain ⟨c10, c11, c12⟩ := mcells_of (HF.out.at 2 rfl : U4.heap[ib]? = some (MBox ry cy tb m cb))
                go_wp2_with fail
                refine (HRZ.out _ (HF.out.get (g := fun W => FlM W ta n ca xs) 2 rfl) (HF.out.get (g := fun W => FlM W tb m cb ys) 1 rfl)).mono ?_
                rintro e u20 ⟨⟨A0, A1, A2, A3, A4, rfl, hres⟩, hb⟩
                have HF : Hid (FrQ w u20 [(ih, MBox G0 G1 G2 G3 G4), (ig, MBox S0 S1 S2 S3 S4), (ib, MBox ry cy tb m cb), (ia, MBox rx cx ta n ca), (p1, BBox ry cy sb m kb), (p0, BBox rx cx sa n ka)] [fun W => ResM ST RS C sv W S0 S1 S2 S3 S4, fun W => FlM W tb m cb ys, fun W => FlM W ta n ca xs]) := HF.out.call hb
                have HF : Hid (FrQ w u20 [(ih, MBox G0 G1 G2 G3 G4), (ig, MBox S0 S1 S2 S3 S4), (ib, MBox ry cy tb m cb), (ia, MBox rx cx ta n ca), (p1, BBox ry cy sb m kb), (p0, BBox rx cx sa n ka)] [fun W => ST = 0 → ResM ST RS C sv W A0 A1 A2 A3 A4, fun W => ResM ST RS C sv W S0 S1 S2 S3 S4, fun W => FlM W tb m cb ys, fun W => FlM W ta n ca xs]) := HF.out.add (kept_resi _ _ _ _ _ _ _ _ _) (fun _ => hres)
                clear hb
                clear hres HRZ
                obtain ⟨z0, z1, z2⟩ := mcells_of (HF.out.at 0 rfl : u20.heap[ih]? = some (MBox G0 G1 G2 G3 G4))
                have fz := frzM (HF.out.at 0 rfl : u20.heap[ih]? = some (MBox G0 G1 G2 G3 G4))
                have HF : Hid (FrQ w (StoM u20 ih A0 A1 A2 A3 A4) [(ih, MBox A0 A1 A2 A3 A4), (ig, MBox S0 S1 S2 S3 S4), (ib, MBox ry cy tb m cb), (ia, MBox rx cx ta n ca), (p1, BBox ry cy sb m kb), (p0, BBox rx cx sa n ka)] [fun W => ST = 0 → ResM ST RS C sv W A0 A1 A2 A3 A4, fun W => ResM ST RS C sv W S0 S1 S2 S3 S4, fun W => FlM W tb m cb ys, fun W => FlM W ta n ca xs]) := HF.out.sto 0 rfl
                obtain ⟨U21, hU21⟩ : ∃ V, Hid ((StoM u20 ih A0 A1 A2 A3 A4) = V) := ⟨_, rfl⟩
                rw [hU21.out] at HF
                have hU21' := hU21.out
                unfold StoM at hU21'
                go_wp2_with fail
                go_meet
                exact ⟨rfl, _, _, _, _, _, HF⟩
              · have hne : (T2 == 0) = false := by simpa using hT0
                have HMN := hid (HNS.out hT0)
                have HNZ := hid hT0
                clear hT0
                have HF : Hid (FrQ w U4 [(ih, MBox G0 G1 G2 G3 G4), (ig, MBox S0 S1 S2 S3 S4), (ib, MBox ry cy tb m cb), (ia, MBox rx cx ta n ca), (p1, BBox ry cy sb m kb), (p0, BBox rx cx sa n ka)] [fun W => ST = 0 → ResM ST RS C sv W G0 G1 G2 G3 G4, fun W => ResM ST RS C sv W S0 S1 S2 S3 S4, fun W => FlM W tb m cb ys, fun W => FlM W ta n ca xs]) := HF.out.add (kept_resi _ _ _ _ _ _ _ _ _) (fun h => absurd (HMN.out.symm.trans h) HNZ.out)
                go_wp2_with fail
                go_meet
                exact ⟨by rw [HMN.out], _, _, _, _, _, HF⟩
            case rest =>
              obtain ⟨rfl, H0, H1, H2, H3, H4, HF⟩ := hcut
              obtain ⟨c00, c01, c02⟩ := mcells_of (HF.out.at 1 rfl : wc.heap[ig]? = some (MBox S0 S1 S2 S3 S4))
              obtain ⟨c10, c11, c12⟩ := mcells_of (HF.out.at 0 rfl : wc.heap[ih]? = some (MBox H0 H1 H2 H3 H4))
              go_wp2_with fail
              refine (told_res ST RS C sv _ _ _ _ _ _ _ _ _ _ _ (HF.out.get (g := fun W => ResM ST RS C sv W S0 S1 S2 S3 S4) 1 rfl) (HF.out.get (g := fun W => ST = 0 → ResM ST RS C sv W H0 H1 H2 H3 H4) 0 rfl)).mono ?_
              rintro e u20 ⟨rfl, hb⟩
              have HF : Hid (FrQ w u20 [(ih, MBox H0 H1 H2 H3 H4), (ig, MBox S0 S1 S2 S3 S4), (ib, MBox ry cy tb m cb), (ia, MBox rx cx ta n ca), (p1, BBox ry cy sb m kb), (p0, BBox rx cx sa n ka)] [fun W => ST = 0 → ResM ST RS C sv W H0 H1 H2 H3 H4, fun W => ResM ST RS C sv W S0 S1 S2 S3 S4, fun W => FlM W tb m cb ys, fun W => FlM W ta n ca xs]) := HF.out.call hb
              clear hb
              go_wp2_with fail
              go_ret
              exact ⟨rfl, HF.out.bel⟩
end Go.Proofs.Ytjaljdodlfmebaa
