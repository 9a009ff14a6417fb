
/- The law's plus: a matrix with all noughts +0. (Written by mkmzb.py.) -/
import Derived.Test.YtfkpdjieiifldabP45
namespace Go.Proofs.Ytfkpdjieiifldab
open Go.RowKit Go.IntWalk

theorem stepq_append {ops : Array Oper} {o : Oper} {a : Act} {w : World} {K : Act → World → Prop} {Q : Exit → Act → World → Prop} {E : Prop}
    (hw : Region.wanted o (yielded ops a.tmps) = true) (s x : Operand) (hop : o.op = Op.call { callee := Callee.builtin Builtin.append, args := #[s, x], argTypes := #[26, 26] })
    (sv xv : Value) (hs : a.eval s = sv) (hx : a.eval x = xv)
    (hr : ∃ a' k' cap' w', (Builtin.append_ #[26, 26] o.type #[sv, xv]).run Try.prog w = .ok (.slice a' k' cap') w' ∧ K (a.put o.dst (.slice a' k' cap')) w') :
    if Region.wanted o (yielded ops a.tmps) = true then Oper.wp Try.prog o a w K Q else E := by
  rw [if_pos hw]
  obtain ⟨a', k', cap', w', hrun, hK⟩ := hr
  unfold Oper.wp
  simp [execOp, hop, resolve, invoke, builtin, hs, hx, hrun, Result.andThen]
  exact hK
/-- One number appended to numbers of one's own. -/
theorem appq_one (W : World) (base : Nat) (u : Value) (zs : List Nat) (z : Nat) (ho : Owns W base u zs) (hn : zs.length ≤ 100000000) (hb : base ≤ W.heap.size) :
    ∃ g c w5, (Builtin.append_ #[26, 26] 26 #[u, .slice (some ⟨W.heap.size, 0, none⟩) 1 1]).run Try.prog (W.alloc (.cells #[.float .f64 z] 36)) = .ok (.slice (some ⟨g, 0, none⟩) (zs.length + 1) c) w5 ∧ Owns w5 base (.slice (some ⟨g, 0, none⟩) (zs.length + 1) c) (zs ++ [z]) ∧ Below base W w5 := by
  obtain ⟨i0, hi, hz0, hz1, hz2⟩ := info_parts info_f
  have hown := ho
  unfold Owns at hown
  obtain ⟨v', w', hrun, r1, r2, _⟩ := run_append_own (P := Try.prog) (W.alloc (.cells #[.float .f64 z] 36)) base 26 26 36 i0 (.float .f64 0) 1 8 Try.underlying26 hi hz0 hz1 hz2 rfl (by decide) u _ _ (hown.alloc _) ⟨W.heap.size, 0, none⟩ 1 1 [.float .f64 z] rfl (by
    intro j u hj
    match j, hj with
    | 0, hj => simp at hj; subst hj; simp [Addr.add]) (by intro u hu; simp at hu; subst hu; rfl) (by unfold maxLen; omega) (by omega) (by simp; omega)
  have r1' := r1
  rcases r1' with ⟨_, ⟨_, h0⟩ | ⟨g', cap', cur, rfl, _⟩⟩
  · omega
  refine ⟨g', cap', w', hrun, ?_, ((Below.refl _ _).alloc hb _).grown r2 (by simp; omega) (fun k hk => (World.ownsRow.lt hown k hk).1)⟩
  show w'.ownsRow _ _ _ _ _ _
  rw [List.length_append, List.map_append]
  exact r1
theorem owns_fn {W : World} {base : Nat} {s : Option Addr} {k c : Nat} {g : Nat → Nat} (h : Owns W base (.slice s k c) ((List.range k).map g)) (hg : ∀ j, j < k → g j < 18446744073709551616) : FnM W s k c g := by
  unfold Owns at h
  rw [List.length_map, List.length_range] at h
  rcases h with ⟨_, ⟨e, h0⟩ | ⟨g1, cap, cur, e, h1, h2, h3, h4, h5, h6⟩⟩
  · cases e
    exact Or.inl ⟨rfl, rfl, rfl⟩
  · cases e
    refine Or.inr ⟨g1, 0, rfl, (Array.getElem?_eq_some_iff.1 h2).1, h3, h4, fun j hj => ⟨?_, hg j hj⟩⟩
    have e1 : (cur.toList.take (k * 1))[j]? = (((List.range k).map g).map (Value.float .f64))[j]? := by rw [h6]
    rw [List.getElem?_take, if_pos (by omega), List.getElem?_map, List.getElem?_map, List.getElem?_range hj] at e1
    have e2 : cur[j]? = some (.float .f64 (g j)) := by rw [← Array.getElem?_toList, e1]; rfl
    rw [Nat.zero_add]
    simp [World.cell?, h2, e2]
theorem owns_drew {W : World} {base : Nat} {v : Value} {xs : List Nat} (h : Owns W base v xs) : Owns W.drew base v xs := h
theorem owns_set {W : World} {base ob o : Nat} {v u : Value} {xs : List Nat} (h : Owns W base v xs) (hb : ob < base) : Owns (W.setCell ⟨ob, o, none⟩ u) base v xs := ownsRow_setCell_below h hb u
theorem mset2 {W : World} {b : Nat} {r c : Int} {sa sa2 : Option Addr} {n n2 cap cap2 : Nat} (h : W.heap[b]? = some (MBox r c sa n cap)) : (W.setCell ⟨b, 2, none⟩ (.slice sa2 n2 cap2)).heap[b]? = some (MBox r c sa2 n2 cap2) := by
  unfold MBox at h ⊢
  simp [World.setCell, Array.getElem?_modify, h]
theorem addq_run (x y : Nat) (h : FloatKind.f64.format.add x 0 = some y) (W : World) : (binOp .add 36 (.float .f64 x) (.float .f64 0)).run Try.prog W = .ok (.float .f64 y) W := run_float_arith W .add _ .f64 x 0 y h
theorem plusQ_add (x : Nat) (hx : x < 18446744073709551616) (fx : x % 9223372036854775808 < 9218868437227405312) : FloatKind.f64.format.add x 0 = some (plusQ x) := by
  by_cases c : x = 9223372036854775808
  · rw [c]; decide +kernel
  · rw [addq_zero x 0 hx fx (Or.inl rfl) c]
    unfold plusQ
    rw [if_neg c]
/-- The variables of plus as they lie; blocks from B on are the list's. -/
def FrP (w W : World) (B mb rb ob : Nat) (om or oo : Obj) : Prop := Below w.heap.size w W ∧ B ≤ W.heap.size ∧ W.heap[mb]? = some om ∧ W.heap[rb]? = some or ∧ W.heap[ob]? = some oo
theorem FrP.grow {w W W' : World} {B mb rb ob : Nat} {om or oo : Obj} (h : FrP w W B mb rb ob om or oo) (hw : w.heap.size ≤ B) (h1 : mb < B) (h2 : rb < B) (h3 : ob < B) (hb : Below B W W') : FrP w W' B mb rb ob om or oo :=
  ⟨h.1.trans (hb.mono hw), Nat.le_trans h.2.1 hb.size, (hb.block _ h1).trans h.2.2.1, (hb.block _ h2).trans h.2.2.2.1, (hb.block _ h3).trans h.2.2.2.2⟩
set_option maxRecDepth 4000 in
set_option maxHeartbeats 4000000 in
theorem plus_good (r c n : Nat) (sa : Option Addr) (ka : Nat) (f : Nat → Nat) (w : World) (ha : Gd w r c sa n ka f) :
    Calls Try.prog 18 #[.agg #[.int .i64 r, .int .i64 c, .slice sa n ka]] w fun e w' => (∃ s cap, e = .returned (.agg #[.int .i64 r, .int .i64 c, .slice s n cap]) ∧ FnM w' s n cap (fun k => plusQ (f k))) ∧ Below w.heap.size w w' := by
  have hn144 := ha.le
  obtain ⟨t1, t2, t3, t4, t5⟩ := three_b w (MBox r c sa n ka) (MBox 0 0 none 0 0) (MBox r c none 0 0)
  have HFX : Hid (∀ k, k < n → f k < 18446744073709551616 ∧ f k % 9223372036854775808 < 9218868437227405312) := fun k hk => ⟨fn_lt ha.2.2.2.1 k hk, fin_exp (fn_lt ha.2.2.2.1 k hk) ((finF_iff _ _).1 ha.2.2.2.2 k hk)⟩
  have HA := hid ha.2.2.2.1
  obtain ⟨z0, z1, z2⟩ := mcells_of (two_b w (MBox r c sa n ka) (MBox 0 0 none 0 0)).1
  have zs := (two_b w (MBox r c sa n ka) (MBox 0 0 none 0 0)).2.2.2
  obtain ⟨V2, hV2⟩ : ∃ V, Hid ((w.alloc (MBox r c sa n ka)).alloc (MBox 0 0 none 0 0) = V) := ⟨_, rfl⟩
  rw [hV2.out] at z0 z1 z2 zs t1 t2 t3 t4 t5
  obtain ⟨V, hV⟩ : ∃ V, Hid (V2.alloc (MBox r c none 0 0) = V) := ⟨_, rfl⟩
  rw [hV.out] at t1 t2 t3 t4 t5
  have hV2' := hV2.out
  have hV' := hV.out
  unfold MBox at hV2' hV'
  have HV3 := hid hV'
  clear hV'
  obtain ⟨mb, hmb⟩ : ∃ t, Hid (w.heap.size = t) := ⟨_, rfl⟩
  obtain ⟨rb, hrb⟩ : ∃ t, Hid (mb + 1 = t) := ⟨_, rfl⟩
  obtain ⟨ob, hob⟩ : ∃ t, Hid (rb + 1 = t) := ⟨_, rfl⟩
  obtain ⟨B, hB⟩ : ∃ t, Hid (ob + 1 = t) := ⟨_, rfl⟩
  have HLT : Hid (w.heap.size ≤ B ∧ mb < B ∧ rb < B ∧ ob < B ∧ mb ≠ ob ∧ rb ≠ ob ∧ w.heap.size ≤ rb ∧ w.heap.size ≤ ob ∧ B = V.heap.size) := by
    have e1 := hmb.out; have e2 := hrb.out; have e3 := hob.out; have e4 := hB.out
    show _ ∧ _ ∧ _ ∧ _ ∧ _ ∧ _ ∧ _ ∧ _ ∧ _
    omega
  have zs' : V2.heap.size = ob := by
    have e1 := hmb.out; have e2 := hrb.out; have e3 := hob.out
    omega
  rw [hmb.out] at t1 t2 t3 z0 z1
  rw [hrb.out] at t2 t3
  rw [hob.out] at t3
  have HF0 : Hid (FrP w V B mb rb ob (MBox r c sa n ka) (MBox 0 0 none 0 0) (MBox r c none 0 0)) := ⟨t4, by have := HLT.out; omega, t1, t2, t3⟩
  have hmb' := hmb.out
  have hrb' := hrb.out
  have hob' := hob.out
  obtain ⟨x0, x1, x2⟩ := mcells_of t1
  clear t1 t2 t3 t4 t5 ha zs z2
  go_enter Try.func18, Try.ntmps18
  go_wp2_with fail
  rw [HV3.out]
  go_loopw [4] (fun iv wr => ∃ (k : Nat) (s1 : Option Addr) (c1 : Nat), k ≤ n ∧ iv = .int .i64 k ∧ Hid (Owns wr B (.slice s1 k c1) ((List.range k).map (fun j => plusQ (f j)))) ∧ Hid (FrP w wr B mb rb ob (MBox r c sa n ka) (MBox 0 0 none 0 0) (MBox r c s1 k c1))) (fun iv _ => n - (intOf iv).toNat)
  case atStart => exact ⟨0, none, 0, Nat.zero_le _, rfl, World.ownsRow_nil _ _ _ _, HF0⟩
  case round =>
    obtain ⟨k, s1, c1, hk, rfl, HO, HFW⟩ := hrel
    by_cases hlt : k < n
    · rcases HA.out with ⟨_, h2, _⟩ | ⟨b, off, rfl, q1, _, _, q4⟩
      · omega
      obtain ⟨fx1, fx2⟩ := HFX.out k hlt
      have hadd := addq_run (f k) (plusQ (f k)) (plusQ_add _ fx1 fx2)
      obtain ⟨x, hx⟩ : ∃ x, Hid (f k = x) := ⟨_, rfl⟩
      have hck := (q4 k hlt).1
      have HRG : Hid ((List.range (k + 1)).map (fun j => plusQ (f j)) = (List.range k).map (fun j => plusQ (f j)) ++ [plusQ (f k)]) := by show _ = _; rw [List.range_succ, List.map_append]; rfl
      rw [hx.out] at hadd hck HRG
      obtain ⟨y, hy⟩ : ∃ y, Hid (plusQ x = y) := ⟨_, rfl⟩
      rw [hy.out] at hadd HRG
      have HKS : Hid (∀ W, Hid (Below w.heap.size w W ∧ W.heap[mb]? = some (MBox r c (some ⟨b, off, none⟩) n ka)) → (W.cell? ⟨mb, 2, none⟩ = some (.slice (some ⟨b, off, none⟩) n ka) ∧ W.cell? ⟨b, off + k, none⟩ = some (.float .f64 x)) ∧ Hid (Below w.heap.size w W ∧ W.heap[mb]? = some (MBox r c (some ⟨b, off, none⟩) n ka))) := fun W hW => ⟨⟨(mcells_of hW.out.2).2.2, (hW.out.1.cell (p := ⟨b, off + k, none⟩) q1).trans hck⟩, hW⟩
      have hkI : (k : Int) < (n : Int) := by omega
      have hk0 : (0 : Int) ≤ (k : Int) := by omega
      have HF1 := hid (HFW.out.grow HLT.out.1 HLT.out.2.1 HLT.out.2.2.1 HLT.out.2.2.2.1 ((Below.refl B wr).drew))
      have HQ0 : Hid (Below w.heap.size w wr.drew ∧ wr.drew.heap[mb]? = some (MBox r c (some ⟨b, off, none⟩) n ka)) := ⟨HF1.out.1, HF1.out.2.2.1⟩
      have hal : Below B wr.drew (wr.drew.alloc (.cells #[.float .f64 y] 36)) := (Below.refl _ _).alloc HF1.out.2.1 _
      have HF2 := hid (HF1.out.grow HLT.out.1 HLT.out.2.1 HLT.out.2.2.1 HLT.out.2.2.2.1 hal)
      have HQ2 : Hid (Below w.heap.size w (wr.drew.alloc (.cells #[.float .f64 y] 36)) ∧ (wr.drew.alloc (.cells #[.float .f64 y] 36)).heap[mb]? = some (MBox r c (some ⟨b, off, none⟩) n ka)) := ⟨HF2.out.1, HF2.out.2.2.1⟩
      obtain ⟨g5, c5, w5, hrun, hown5, hbel5⟩ := appq_one wr.drew B (.slice s1 k c1) _ y (owns_drew HO.out) (by rw [List.length_map, List.length_range]; omega) HF1.out.2.1
      rw [List.length_map, List.length_range] at hrun hown5
      rw [← HRG.out] at hown5
      have HRUN := hid hrun
      have HF5 := hid (HF1.out.grow HLT.out.1 HLT.out.2.1 HLT.out.2.2.1 HLT.out.2.2.2.1 hbel5)
      have HQ5 : Hid (Below w.heap.size w w5 ∧ w5.heap[mb]? = some (MBox r c (some ⟨b, off, none⟩) n ka)) := ⟨HF5.out.1, HF5.out.2.2.1⟩
      have HO5 := hid HF5.out.2.2.2.2
      have HF6 : Hid (FrP w (w5.setCell ⟨ob, 2, none⟩ (.slice (some ⟨g5, 0, none⟩) (k + 1) c5)) B mb rb ob (MBox r c (some ⟨b, off, none⟩) n ka) (MBox 0 0 none 0 0) (MBox r c (some ⟨g5, 0, none⟩) (k + 1 : Nat) c5)) := ⟨HF5.out.1.setCell (p := ⟨ob, 2, none⟩) HLT.out.2.2.2.2.2.2.2.1 _, by have := HF5.out.2.1; simpa [World.setCell] using this, (set_keepM HLT.out.2.2.2.2.1 _).trans HF5.out.2.2.1, (set_keepM HLT.out.2.2.2.2.2.1 _).trans HF5.out.2.2.2.1, mset2 HO5.out⟩
      have HQ6 : Hid (Below w.heap.size w (w5.setCell ⟨ob, 2, none⟩ (.slice (some ⟨g5, 0, none⟩) (k + 1) c5)) ∧ (w5.setCell ⟨ob, 2, none⟩ (.slice (some ⟨g5, 0, none⟩) (k + 1) c5)).heap[mb]? = some (MBox r c (some ⟨b, off, none⟩) n ka)) := ⟨HF6.out.1, HF6.out.2.2.1⟩
      have HOW : Hid (Owns (w5.setCell ⟨ob, 2, none⟩ (.slice (some ⟨g5, 0, none⟩) (k + 1) c5)) B (.slice (some ⟨g5, 0, none⟩) (k + 1) c5) ((List.range (k + 1)).map (fun j => plusQ (f j)))) := owns_set hown5 HLT.out.2.2.2.1
      have HLK := hid hlt
      obtain ⟨o0, o1, o2⟩ := mcells_of (w := wr.drew) HF1.out.2.2.2.2
      obtain ⟨d0, d1, d2⟩ := mcells_of (w := wr.drew.alloc (.cells #[.float .f64 y] 36)) HF2.out.2.2.2.2
      obtain ⟨d0', d1', d2'⟩ := mcells_of (w := wr.alloc (.cells #[.float .f64 y] 36)) HF2.out.2.2.2.2
      obtain ⟨e0, e1, e2⟩ := mcells_of HFW.out.2.2.1
      obtain ⟨n1, hn1⟩ : ∃ t, Hid (k + 1 = t) := ⟨_, rfl⟩
      rw [hn1.out] at HRUN HF6 HQ6 HOW
      clear hrun hown5 hbel5 hal hck q1 q4 fx1 fx2 hlt hn144
      go_wp2_with fail
      refine wp_region_held_drew (S := fun W => (W.cell? ⟨mb, 2, none⟩ = some (.slice (some ⟨b, off, none⟩) n ka) ∧ W.cell? ⟨b, off + k, none⟩ = some (.float .f64 x)) ∧ Hid (Below w.heap.size w W ∧ W.heap[mb]? = some (MBox r c (some ⟨b, off, none⟩) n ka))) (by kernel_rfl) (HKS.out _ HQ0) (fun hHeld => ?_)
      refine take_at 0 17 (.pointer (some ⟨ob, 2, none⟩)) rfl rfl (by kernel_rfl) (by kernel_rfl) (by kernel_rfl) (fun _ _ _ h => h) (Or.inl ⟨by rfl, fun w hSw => by (try dsimp only at hSw); go_simp⟩) (by assumption) ?_
      simp only [Act.put, List.setIfInBounds_toArray, List.set_cons_zero, List.set_cons_succ]
      refine take_at 2 19 (.pointer (some ⟨mb, 2, none⟩)) rfl rfl (by kernel_rfl) (by kernel_rfl) (by kernel_rfl) (fun _ _ _ h => h) (Or.inl ⟨by rfl, fun w hSw => by (try dsimp only at hSw); go_simp⟩) (by assumption) ?_
      simp only [Act.put, List.setIfInBounds_toArray, List.set_cons_zero, List.set_cons_succ]
      refine take_at 3 20 (.slice (some ⟨b, off, none⟩) n ka) rfl rfl (by kernel_rfl) (by kernel_rfl) (by kernel_rfl) (fun _ _ _ h => h) (Or.inl ⟨by rfl, fun w hSw => by (try dsimp only at hSw); go_simp⟩) (by assumption) ?_
      simp only [Act.put, List.setIfInBounds_toArray, List.set_cons_zero, List.set_cons_succ]
      refine take_at 4 21 (.int .i64 k) rfl rfl (by kernel_rfl) (by kernel_rfl) (by kernel_rfl) (fun _ _ _ h => h) (Or.inl ⟨by rfl, fun w hSw => by (try dsimp only at hSw); go_simp⟩) (by assumption) ?_
      simp only [Act.put, List.setIfInBounds_toArray, List.set_cons_zero, List.set_cons_succ]
      refine take_at 5 22 (.pointer (some ⟨b, off + k, none⟩)) rfl rfl (by kernel_rfl) (by kernel_rfl) (by kernel_rfl) (fun _ _ _ h => h) (Or.inl ⟨by rfl, fun w hSw => by (try dsimp only at hSw); go_simp⟩) (by assumption) ?_
      simp only [Act.put, List.setIfInBounds_toArray, List.set_cons_zero, List.set_cons_succ]
      refine take_at 6 23 (.float .f64 x) rfl rfl (by kernel_rfl) (by kernel_rfl) (by kernel_rfl) (fun _ _ _ h => h) (Or.inl ⟨by rfl, fun w hSw => by (try dsimp only at hSw); go_simp⟩) (by assumption) ?_
      simp only [Act.put, List.setIfInBounds_toArray, List.set_cons_zero, List.set_cons_succ]
      refine take_at 7 24 (.float .f64 y) rfl rfl (by kernel_rfl) (by kernel_rfl) (by kernel_rfl) (fun _ _ _ h => h) (Or.inl ⟨by rfl, fun w hSw => by (try dsimp only at hSw); go_simp⟩) (by assumption) ?_
      simp only [Act.put, List.setIfInBounds_toArray, List.set_cons_zero, List.set_cons_succ]
      refine wpAnyH_ready (rs := [1, 8]) (by kernel_rfl) (by simp) ?_
      refine AllReadyH.cons (o := _) rfl (fun K hK => ?_) (AllReadyH.cons (o := _) rfl (fun K hK => ?_) AllReadyH.nil)
      · go_simp
        go_wp2_with fail
        refine hK.out _ _ (HKS.out _ HQ0) (fun hHeld1 => ?_)
        clear hK K
        try simp only [Act.put, List.setIfInBounds_toArray, List.set_cons_zero, List.set_cons_succ]
        refine wpAnyH_ready (rs := [8]) (by kernel_rfl) (by simp) ?_
        refine AllReadyH.cons (o := _) rfl (fun K hK => ?_) AllReadyH.nil
        go_simp
        go_wp2_with fail
        refine hK.out _ _ (HKS.out _ HQ2) (fun hHeld2 => ?_)
        clear hK K
        try simp only [Act.put, List.setIfInBounds_toArray, List.set_cons_zero, List.set_cons_succ]
        refine wpAnyH_ready (rs := [9]) (by kernel_rfl) (by simp) ?_
        refine AllReadyH.cons (o := _) rfl (fun K hK => ?_) AllReadyH.nil
        have hrun := HRUN.out
        refine stepq_append (by rfl) _ _ rfl _ _ rfl rfl ⟨_, _, _, _, hrun, ?_⟩
        refine hK.out _ _ (HKS.out _ HQ5) (fun hHeld3 => ?_)
        clear hK K hrun
        try simp only [Act.put, List.setIfInBounds_toArray]
        refine take_at 10 27 (.pointer (some ⟨ob, 2, none⟩)) rfl rfl (by kernel_rfl) (by kernel_rfl) (by kernel_rfl) (fun _ _ _ h => h) (Or.inl ⟨by rfl, fun w hSw => by (try dsimp only at hSw); go_simp⟩) (by assumption) ?_
        simp only [Act.put]
        obtain ⟨f0, f1, f2⟩ := mcells_of HO5.out
        have fz := frzM HO5.out
        refine wpAnyH_ready (rs := [11]) (by kernel_rfl) (by simp) ?_
        refine AllReadyH.cons (o := _) rfl (fun K hK => ?_) AllReadyH.nil
        go_simp
        go_wp2_with fail
        refine hK.out _ _ (HKS.out _ HQ6) (fun hHeld4 => ?_)
        clear hK K
        try simp only [Act.put]
        refine wpAnyH_done (by kernel_rfl) ?_ _
        go_wp2_with fail
        have hk1 := HLK.out
        have hn2 := hn1.out
        subst hn2
        refine ⟨⟨k + 1, some ⟨g5, 0, none⟩, c5, by omega, by go_num, HOW, HF6⟩, ?_⟩
        simp [intOf]; omega
      · go_simp
        go_wp2_with fail
        refine hK.out _ _ (HKS.out _ HQ2) (fun hHeld1 => ?_)
        clear hK K
        try simp only [Act.put, List.setIfInBounds_toArray, List.set_cons_zero, List.set_cons_succ]
        refine wpAnyH_ready (rs := [1]) (by kernel_rfl) (by simp) ?_
        refine AllReadyH.cons (o := _) rfl (fun K hK => ?_) AllReadyH.nil
        go_simp
        go_wp2_with fail
        refine hK.out _ _ (HKS.out _ HQ2) (fun hHeld2 => ?_)
        clear hK K
        try simp only [Act.put, List.setIfInBounds_toArray, List.set_cons_zero, List.set_cons_succ]
        refine wpAnyH_ready (rs := [9]) (by kernel_rfl) (by simp) ?_
        refine AllReadyH.cons (o := _) rfl (fun K hK => ?_) AllReadyH.nil
        have hrun := HRUN.out
        refine stepq_append (by rfl) _ _ rfl _ _ rfl rfl ⟨_, _, _, _, hrun, ?_⟩
        refine hK.out _ _ (HKS.out _ HQ5) (fun hHeld3 => ?_)
        clear hK K hrun
        try simp only [Act.put, List.setIfInBounds_toArray]
        refine take_at 10 27 (.pointer (some ⟨ob, 2, none⟩)) rfl rfl (by kernel_rfl) (by kernel_rfl) (by kernel_rfl) (fun _ _ _ h => h) (Or.inl ⟨by rfl, fun w hSw => by (try dsimp only at hSw); go_simp⟩) (by assumption) ?_
        simp only [Act.put]
        obtain ⟨f0, f1, f2⟩ := mcells_of HO5.out
        have fz := frzM HO5.out
        refine wpAnyH_ready (rs := [11]) (by kernel_rfl) (by simp) ?_
        refine AllReadyH.cons (o := _) rfl (fun K hK => ?_) AllReadyH.nil
        go_simp
        go_wp2_with fail
        refine hK.out _ _ (HKS.out _ HQ6) (fun hHeld4 => ?_)
        clear hK K
        try simp only [Act.put]
        refine wpAnyH_done (by kernel_rfl) ?_ _
        go_wp2_with fail
        have hk1 := HLK.out
        have hn2 := hn1.out
        subst hn2
        refine ⟨⟨k + 1, some ⟨g5, 0, none⟩, c5, by omega, by go_num, HOW, HF6⟩, ?_⟩
        simp [intOf]; omega
    · obtain rfl : k = n := by omega
      have HRES := hid (owns_fn HO.out (fun j hj => (plusQ_fin (HFX.out j hj).1 (HFX.out j hj).2).1))
      obtain ⟨o0, o1, o2⟩ := mcells_of HFW.out.2.2.2.2
      obtain ⟨m0, m1, m2⟩ := mcells_of HFW.out.2.2.1
      obtain ⟨b0, b1, b2⟩ := mcells_of HFW.out.2.2.2.1
      have fz := frzM HFW.out.2.2.2.1
      go_wp2_with fail
      exact bodyPost_ret (v := .agg #[.int .i64 r, .int .i64 c, .slice s1 k c1]) (by simp [results, Try.results18, go_sem, b0, b1, b2]) rfl ⟨⟨s1, c1, rfl, StoM.fn HRES.out HFW.out.2.2.2.1⟩, StoM.below HFW.out.1 HLT.out.2.2.2.2.2.2.1⟩
end Go.Proofs.Ytfkpdjieiifldab
