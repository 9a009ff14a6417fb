
/- The document's exact dot product. -/
import Derived.Test.YtpjdmhidhllbkaaGreatDoorP45
import Derived.Test.YtpjdmhidhllbkaaGreatDoorP39
namespace Go.Proofs.YtpjdmhidhllbkaaGreatDoor
open Go.RowKit Go.IntWalk

theorem step_append_fl {ops : Array Oper} {o : Oper} {a : Act} {w : World} {K : Act → World → Prop} {Q : Exit → Act → World → Prop} {E : Prop}
    (hw : Region.wanted o (yielded ops a.tmps) = true) (s x : Operand) (hop : o.op = Op.call { callee := Callee.builtin Builtin.append, args := #[s, x], argTypes := #[23, 23] })
    (sv xv : Value) (hs : a.eval s = sv) (hx : a.eval x = xv)
    (hr : ∃ a' k' cap' w', (Builtin.append_ #[23, 23] o.type #[sv, xv]).run Tryz.prog w = .ok (.slice a' k' cap') w' ∧ K (a.put o.dst (.slice a' k' cap')) w') :
    if Region.wanted o (yielded ops a.tmps) = true then Oper.wp Tryz.prog o a w K Q else E := by
  rw [if_pos hw]
  obtain ⟨a', k', cap', w', hrun, hK⟩ := hr
  unfold Oper.wp
  simp [execOp, hop, resolve, invoke, builtin, hs, hx, hrun, Result.andThen]
  exact hK
/-- One number appended to numbers of one's own. -/
theorem app_one (W : World) (base : Nat) (u : Value) (zs : List Nat) (z : Nat) (ho : Owns W base u zs) (hn : zs.length ≤ 100000000) (hb : base ≤ W.heap.size) :
    ∃ g c w5, (Builtin.append_ #[23, 23] 23 #[u, .slice (some ⟨W.heap.size, 0, none⟩) 1 1]).run Tryz.prog (W.alloc (.cells #[.float .f64 z] 25)) = .ok (.slice (some ⟨g, 0, none⟩) (zs.length + 1) c) w5 ∧ Owns w5 base (.slice (some ⟨g, 0, none⟩) (zs.length + 1) c) (zs ++ [z]) ∧ Below base W w5 := by
  obtain ⟨i0, hi, hz0, hz1, hz2⟩ := info_parts info_f
  have hown := ho
  unfold Owns at hown
  obtain ⟨v', w', hrun, r1, r2, _⟩ := run_append_own (P := Tryz.prog) (W.alloc (.cells #[.float .f64 z] 25)) base 23 23 25 i0 (.float .f64 0) 1 8 Tryz.underlying23 hi hz0 hz1 hz2 rfl (by decide) u _ _ (hown.alloc _) ⟨W.heap.size, 0, none⟩ 1 1 [.float .f64 z] rfl (cell_one_new _ _ _) (by simp [Value.oneCell']) (by unfold maxLen; omega) (by omega) (by simp; omega)
  obtain ⟨g', cap', rfl⟩ := ownsRow_succ r1
  refine ⟨g', cap', w', hrun, ?_, ((Below.refl _ _).alloc hb _).grown r2 (by simp; omega) (fun k hk => (World.ownsRow.lt hown k hk).1)⟩
  show w'.ownsRow _ _ _ _ _ _
  rw [List.length_append, List.map_append]
  exact r1
theorem allFin_two (x y : Nat) : allFin [x, y] = (!(expOf x == 2047) && !(expOf y == 2047)) := by
  unfold allFin
  simp
set_option maxRecDepth 4000 in
set_option maxHeartbeats 4000000 in
theorem rDotExact_any (sa sb : Option Addr) (N M ca cb : Nat) (xs ys : List Nat) (w : World) (ha : ListAt w sa N ca xs) (hb : ListAt w sb M cb ys) (hx : ∀ x ∈ xs, x < 18446744073709551616) (hy : ∀ x ∈ ys, x < 18446744073709551616) (hN : N ≤ 17592186043904) (hM : M ≤ 17592186043904) (hT3 : Tab32 w) (hs : 1 < w.heap.size) :
    Calls Tryz.prog 25 #[.slice sa N ca, .slice sb M cb] w fun r w' => r = .returned (.tuple #[.float .f64 (dotV xs ys N M), .int .i64 (dotE N M)]) ∧ Below w.heap.size w w' := by
  by_cases h : N = M
  case neg =>
    unfold dotV dotE
    rw [if_pos (show N ≠ M ∨ 4096 < N from Or.inl h), if_pos h]
    have hne : ((N : Int) != (M : Int)) = true := by simp; omega
    clear ha hb hx hy hN hM hT3 hs h
    go_enter Tryz.func25, Tryz.ntmps25
    go_wp2
    go_ret2
    exact ⟨rfl, Below.refl _ _⟩
  subst h
  have hne : ((N : Int) != (N : Int)) = false := by simp
  by_cases hl : 4096 < N
  · unfold dotV dotE
    rw [if_pos (show N ≠ N ∨ 4096 < N from Or.inr hl), if_neg (show ¬ N ≠ N by simp), if_pos hl]
    have hI : (4096 : Int) < (N : Int) := by omega
    clear ha hb hx hy hN hM hT3 hs hl
    go_enter Tryz.func25, Tryz.ntmps25
    go_wp2
    go_ret2
    exact ⟨rfl, Below.refl _ _⟩
  have HV : Hid (dotV xs ys N N = if (allFin xs && allFin ys) = true then rndI (dotSv xs ys N) (-2148) else sumC (nfP xs ys N)) := by unfold dotV; exact if_neg (show ¬ (N ≠ N ∨ 4096 < N) by omega)
  have HE : Hid (dotE N N = 0) := by unfold dotE; rw [if_neg (show ¬ N ≠ N by simp)]; exact if_neg hl
  rw [HE.out]
  have hnI : (N : Int) ≤ 4096 := by omega
  have HA := hid ha.flt.get
  have HB := hid hb.flt.get
  have HX : Hid (∀ j, j < N → xs.getD j 0 < 18446744073709551616) := fun j hj => hx _ (mem_get xs j (by rw [ha.1]; exact hj))
  have HY : Hid (∀ j, j < N → ys.getD j 0 < 18446744073709551616) := fun j hj => hy _ (mem_get ys j (by rw [hb.1]; exact hj))
  have HPF := hid (pair_fin xs ys N ha.1 hb.1)
  have HSP : Hid (∀ p ∈ nfP xs ys N, Spc p) := nfP_spc xs ys N (fun j hj => ⟨HX.out j hj, HY.out j hj⟩)
  have HXD : Hid ((allFin xs && allFin ys) = true → ∀ W, Below w.heap.size w W → Calls Tryz.prog 58 #[.slice sa N ca, .slice sb N cb] W fun r w' => ∃ p e, r = .returned (.agg #[.pointer (some ⟨p, 0, none⟩), .int .i64 e]) ∧ Hid ((-2148 ≤ e ∧ e ≤ 4000) ∧ ExV w' p e (-2148) (dotSv xs ys N) 200) ∧ Below W.heap.size W w') := fun hf W hW => by
    obtain ⟨f1, f2⟩ := Bool.and_eq_true_iff.1 hf
    refine (xDot_list sa sb N ca cb xs ys W (ha.below hW) (hb.below hW) hx hy (by omega) f1 f2).mono ?_
    rintro r w' ⟨p, e, rfl, h1, h2, h3⟩
    exact ⟨p, e, rfl, ⟨h1, h2⟩, h3⟩
  have HXR : Hid (∀ W p e, Below w.heap.size w W → Hid ((-2148 ≤ e ∧ e ≤ 4000) ∧ ExV W p e (-2148) (dotSv xs ys N) 200) → Calls Tryz.prog 40 #[.agg #[.pointer (some ⟨p, 0, none⟩), .int .i64 e], .int .i64 0] W fun r w' => r = .returned (.float .f64 (rndI (dotSv xs ys N) (-2148))) ∧ Below W.heap.size W w') := fun W p e hW hh => xRound0 p 200 e (-2148) _ W hh.out.2 (by decide) (by have := hh.out.1.1; omega) (by have := hh.out.1.2; omega) (hT3.below hs hW) (Nat.lt_of_lt_of_le hs hW.size)
  have r3 := ar_run .mul ok_m
  clear ha hb hx hy hN hM hT3 hs
  go_enter Tryz.func25, Tryz.ntmps25
  go_wp2_with fail
  go_loopw [6, 20] (fun u i wr => ∃ (k : Nat) (zs : List Nat), k ≤ N ∧ i = .int .i64 k ∧ Hid (Owns wr w.heap.size u zs ∧ zs.map canonOf = nfP xs ys k ∧ (∀ z ∈ zs, z < 18446744073709551616) ∧ zs.length ≤ k ∧ (zs = [] → u = .slice none 0 0)) ∧ Hid (Below w.heap.size w wr)) (fun _ i _ => N - (intOf i).toNat)
  case atStart => exact ⟨0, [], Nat.zero_le _, rfl, ⟨World.ownsRow_nil _ _ _ _, rfl, (fun z hz => by cases hz), Nat.le_refl _, fun _ => rfl⟩, Below.refl _ _⟩
  case round =>
    obtain ⟨k, zs, hk, rfl, HO, HBW⟩ := hrel
    by_cases hlt : k < N
    · obtain ⟨b, off, rfl, hb1, hc1⟩ := HA.out.2 (by omega)
      obtain ⟨b2, off2, rfl, hb2, hc2⟩ := HB.out.2 (by omega)
      have HKS : Hid (∀ W, Hid (Below w.heap.size w W) → (W.cell? ⟨b, off + k, none⟩ = some (.float .f64 (xs.getD k 0)) ∧ W.cell? ⟨b2, off2 + k, none⟩ = some (.float .f64 (ys.getD k 0))) ∧ Hid (Below w.heap.size w W)) := fun W hW => ⟨⟨(hW.out.cell (p := ⟨b, off + k, none⟩) hb1).trans (hc1 k hlt), (hW.out.cell (p := ⟨b2, off2 + k, none⟩) hb2).trans (hc2 k hlt)⟩, hW⟩
      have hx := HX.out k hlt
      have hy := HY.out k hlt
      have HP : Hid (nfP xs ys (k + 1) = if allFin [xs.getD k 0, ys.getD k 0] = true then nfP xs ys k else nfP xs ys k ++ [caf .mul (canonOf (xs.getD k 0)) (canonOf (ys.getD k 0))]) := rfl
      have HD : Hid (∀ W, arF .mul (xs.getD k 0) (ys.getD k 0) W < 18446744073709551616 ∧ canonOf (arF .mul (xs.getD k 0) (ys.getD k 0) W) = caf .mul (canonOf (xs.getD k 0)) (canonOf (ys.getD k 0))) := fun W => ⟨arF_lt ok_m _ _ _, canon_ar ok_m _ _ _ hx hy⟩
      have HF1 := hid (fun W => rfinite_any (xs.getD k 0) W hx)
      have HF2 := hid (fun W => rfinite_any (ys.getD k 0) W hy)
      rw [allFin_two] at HP
      obtain ⟨x, hxx⟩ : ∃ x, Hid (xs.getD k 0 = x) := ⟨_, rfl⟩
      obtain ⟨y, hyy⟩ : ∃ y, Hid (ys.getD k 0 = y) := ⟨_, rfl⟩
      rw [hxx.out, hyy.out] at HKS HD HP
      rw [hxx.out] at HF1
      rw [hyy.out] at HF2
      obtain ⟨⟨g1, g2⟩, _⟩ := HKS.out wr HBW
      have hkI : (k : Int) < (N : Int) := by omega
      have hk0 : (0 : Int) ≤ (k : Int) := by omega
      have HQ0 : Hid (Below w.heap.size w wr.drew) := HBW.out.drew
      have HQ1 : Hid (Below w.heap.size w (arG .mul x y wr.drew)) := bl_ar HQ0.out _ _ _
      have HQ2 : Hid (Below w.heap.size w ((arG .mul x y wr.drew).alloc (.cells #[.float .f64 (arF .mul x y wr.drew)] 25))) := HQ1.out.alloc HQ1.out.size _
      have HOW : Hid (Owns (arG .mul x y wr.drew) w.heap.size u6 zs) := HO.out.1.kept (bl_ar (Below.refl _ _).drew _ _ _)
      obtain ⟨u, hu⟩ : ∃ u, Hid (u6 = u) := ⟨_, rfl⟩
      have hu' := hu.out
      subst hu'
      obtain ⟨g5, c5, w5, hrun, hown5, hbel5⟩ := app_one (arG .mul x y wr.drew) w.heap.size u6 zs (arF .mul x y wr.drew) HOW.out (by have := HO.out.2.2.2.1; omega) HQ1.out.size
      have HRUN := hid hrun
      have HQ5 : Hid (Below w.heap.size w w5) := HQ1.out.trans hbel5
      have HOE : Hid (Owns w5 w.heap.size (.slice (some ⟨g5, 0, none⟩) (zs.length + 1) c5) (zs ++ [arF .mul x y wr.drew]) ∧ (zs ++ [arF .mul x y wr.drew]).map canonOf = nfP xs ys k ++ [caf .mul (canonOf x) (canonOf y)] ∧ (∀ z ∈ zs ++ [arF .mul x y wr.drew], z < 18446744073709551616) ∧ (zs ++ [arF .mul x y wr.drew]).length ≤ k + 1 ∧ (zs ++ [arF .mul x y wr.drew] = [] → (.slice (some ⟨g5, 0, none⟩) (zs.length + 1) c5) = Value.slice none 0 0)) := by
        refine ⟨hown5, ?_, ?_, ?_, fun hc => by simp at hc⟩
        · rw [List.map_append, HO.out.2.1]
          simp only [List.map_cons, List.map_nil]
          rw [(HD.out _).2]
        · intro z hz
          rcases List.mem_append.1 hz with hz | hz
          · exact HO.out.2.2.1 z hz
          · obtain rfl : z = _ := by simpa using hz
            exact (HD.out _).1
        · have := HO.out.2.2.2.1
          rw [List.length_append]
          simp
          omega
      obtain ⟨n1, hn1⟩ : ∃ n, Hid (zs.length + 1 = n) := ⟨_, rfl⟩
      rw [hn1.out] at HRUN HOE
      clear hc1 hc2 hb1 hb2 hx hy hrun hown5 hbel5
      cases fx : (expOf x == 2047)
      · rw [fx] at HF1 HP
        cases fy : (expOf y == 2047)
        · rw [fy] at HF2 HP
          have HP2 : Hid (nfP xs ys (k + 1) = nfP xs ys k) := HP.out.trans (if_pos rfl)
          clear fx fy
          go_wp2_with fail
          refine (HF1.out _).mono ?_
          rintro r w9 ⟨rfl, rfl⟩
          go_wp2_with fail
          refine (HF2.out _).mono ?_
          rintro r w9 ⟨rfl, rfl⟩
          go_wp2
          refine ⟨⟨k + 1, zs, by omega, by go_num, ⟨HO.out.1, by rw [HP2.out]; exact HO.out.2.1, HO.out.2.2.1, by have := HO.out.2.2.2.1; omega, HO.out.2.2.2.2⟩, HBW⟩, ?_⟩
          simp [intOf]; omega
        · rw [fy] at HF2 HP
          have HP2 : Hid (nfP xs ys (k + 1) = nfP xs ys k ++ [caf .mul (canonOf x) (canonOf y)]) := HP.out.trans (if_neg (by decide))
          rw [← HP2.out] at HOE
          clear fx fy
          go_wp2_with fail
          refine (HF1.out _).mono ?_
          rintro r w9 ⟨rfl, rfl⟩
          go_wp2_with fail
          refine (HF2.out _).mono ?_
          rintro r w9 ⟨rfl, rfl⟩
          go_wp2_with fail
          refine wp_region_held_drew (S := fun W => (W.cell? ⟨b, off + k, none⟩ = some (.float .f64 x) ∧ W.cell? ⟨b2, off2 + k, none⟩ = some (.float .f64 y)) ∧ Hid (Below w.heap.size w W)) (by kernel_rfl) (HKS.out _ HQ0) (fun hHeld => ?_)
          -- REGION1
          refine take_at 0 37 (u6) rfl rfl (by kernel_rfl) (by kernel_rfl) (by kernel_rfl) (fun _ _ _ h => h) (Or.inl ⟨by rfl, fun w hSw => by (try dsimp only at hSw); go_simp⟩) (by assumption) ?_
          simp only [Act.put, List.setIfInBounds_toArray, List.set_cons_zero, List.set_cons_succ]
          refine take_at 1 38 (.slice (some ⟨b, off, none⟩) N ca) rfl rfl (by kernel_rfl) (by kernel_rfl) (by kernel_rfl) (fun _ _ _ h => h) (Or.inl ⟨by rfl, fun w hSw => by (try dsimp only at hSw); go_simp⟩) (by assumption) ?_
          simp only [Act.put, List.setIfInBounds_toArray, List.set_cons_zero, List.set_cons_succ]
          refine take_at 2 39 (.int .i64 k) rfl rfl (by kernel_rfl) (by kernel_rfl) (by kernel_rfl) (fun _ _ _ h => h) (Or.inl ⟨by rfl, fun w hSw => by (try dsimp only at hSw); go_simp⟩) (by assumption) ?_
          simp only [Act.put, List.setIfInBounds_toArray, List.set_cons_zero, List.set_cons_succ]
          refine take_at 3 40 (.pointer (some ⟨b, off + k, none⟩)) rfl rfl (by kernel_rfl) (by kernel_rfl) (by kernel_rfl) (fun _ _ _ h => h) (Or.inl ⟨by rfl, fun w hSw => by (try dsimp only at hSw); go_simp⟩) (by assumption) ?_
          simp only [Act.put, List.setIfInBounds_toArray, List.set_cons_zero, List.set_cons_succ]
          refine take_at 4 41 (.float .f64 x) rfl rfl (by kernel_rfl) (by kernel_rfl) (by kernel_rfl) (fun _ _ _ h => h) (Or.inl ⟨by rfl, fun w hSw => by (try dsimp only at hSw); go_simp⟩) (by assumption) ?_
          simp only [Act.put, List.setIfInBounds_toArray, List.set_cons_zero, List.set_cons_succ]
          refine take_at 5 42 (.slice (some ⟨b2, off2, none⟩) N cb) rfl rfl (by kernel_rfl) (by kernel_rfl) (by kernel_rfl) (fun _ _ _ h => h) (Or.inl ⟨by rfl, fun w hSw => by (try dsimp only at hSw); go_simp⟩) (by assumption) ?_
          simp only [Act.put, List.setIfInBounds_toArray, List.set_cons_zero, List.set_cons_succ]
          refine take_at 6 43 (.int .i64 k) rfl rfl (by kernel_rfl) (by kernel_rfl) (by kernel_rfl) (fun _ _ _ h => h) (Or.inl ⟨by rfl, fun w hSw => by (try dsimp only at hSw); go_simp⟩) (by assumption) ?_
          simp only [Act.put, List.setIfInBounds_toArray, List.set_cons_zero, List.set_cons_succ]
          refine take_at 7 44 (.pointer (some ⟨b2, off2 + k, none⟩)) rfl rfl (by kernel_rfl) (by kernel_rfl) (by kernel_rfl) (fun _ _ _ h => h) (Or.inl ⟨by rfl, fun w hSw => by (try dsimp only at hSw); go_simp⟩) (by assumption) ?_
          simp only [Act.put, List.setIfInBounds_toArray, List.set_cons_zero, List.set_cons_succ]
          refine take_at 8 45 (.float .f64 y) rfl rfl (by kernel_rfl) (by kernel_rfl) (by kernel_rfl) (fun _ _ _ h => h) (Or.inl ⟨by rfl, fun w hSw => by (try dsimp only at hSw); go_simp⟩) (by assumption) ?_
          simp only [Act.put, List.setIfInBounds_toArray, List.set_cons_zero, List.set_cons_succ]
          refine wpAnyH_ready (rs := [9]) (by kernel_rfl) (by simp) ?_
          refine AllReadyH.cons (o := _) rfl (fun K hK => ?_) AllReadyH.nil
          go_simp
          go_wp2_with fail
          refine hK.out _ _ (HKS.out _ HQ1) (fun hHeld1 => ?_)
          clear hK K
          try simp only [Act.put, List.setIfInBounds_toArray, List.set_cons_zero, List.set_cons_succ]
          refine wpAnyH_ready (rs := [10]) (by kernel_rfl) (by simp) ?_
          refine AllReadyH.cons (o := _) rfl (fun K hK => ?_) AllReadyH.nil
          go_simp
          go_wp2_with fail
          refine hK.out _ _ (HKS.out _ HQ2) (fun hHeld2 => ?_)
          clear hK K
          try simp only [Act.put, List.setIfInBounds_toArray, List.set_cons_zero, List.set_cons_succ]
          have hrun := HRUN.out
          refine wpAnyH_ready (rs := [11]) (by kernel_rfl) (by simp) ?_
          refine AllReadyH.cons (o := _) rfl (fun K hK => ?_) AllReadyH.nil
          refine step_append_fl (by rfl) _ _ rfl _ _ rfl rfl ⟨_, _, _, _, hrun, ?_⟩
          refine hK.out _ _ (HKS.out _ HQ5) (fun hHeld3 => ?_)
          clear hK K hrun
          try simp only [Act.put, List.setIfInBounds_toArray]
          refine take_at 12 6 (.slice (some ⟨g5, 0, none⟩) n1 c5) rfl rfl (by kernel_rfl) (by kernel_rfl) (by kernel_rfl) (fun _ _ _ h => h) (Or.inl ⟨by rfl, fun w hSw => by (try dsimp only at hSw); go_simp⟩) (by assumption) ?_
          simp only [Act.put]
          refine wpAnyH_done (by kernel_rfl) ?_ _
          -- END1
          go_wp2_with fail
          refine ⟨⟨k + 1, _, by omega, by go_num, HOE, HQ5⟩, ?_⟩
          simp [intOf]; omega
      · rw [fx] at HF1 HP
        have HP2 : Hid (nfP xs ys (k + 1) = nfP xs ys k ++ [caf .mul (canonOf x) (canonOf y)]) := HP.out.trans (if_neg (by simp))
        rw [← HP2.out] at HOE
        clear fx
        go_wp2_with fail
        refine (HF1.out _).mono ?_
        rintro r w9 ⟨rfl, rfl⟩
        go_wp2_with fail
        refine wp_region_held_drew (S := fun W => (W.cell? ⟨b, off + k, none⟩ = some (.float .f64 x) ∧ W.cell? ⟨b2, off2 + k, none⟩ = some (.float .f64 y)) ∧ Hid (Below w.heap.size w W)) (by kernel_rfl) (HKS.out _ HQ0) (fun hHeld => ?_)
        -- REGION2
        refine take_at 0 37 (u6) rfl rfl (by kernel_rfl) (by kernel_rfl) (by kernel_rfl) (fun _ _ _ h => h) (Or.inl ⟨by rfl, fun w hSw => by (try dsimp only at hSw); go_simp⟩) (by assumption) ?_
        simp only [Act.put, List.setIfInBounds_toArray, List.set_cons_zero, List.set_cons_succ]
        refine take_at 1 38 (.slice (some ⟨b, off, none⟩) N ca) rfl rfl (by kernel_rfl) (by kernel_rfl) (by kernel_rfl) (fun _ _ _ h => h) (Or.inl ⟨by rfl, fun w hSw => by (try dsimp only at hSw); go_simp⟩) (by assumption) ?_
        simp only [Act.put, List.setIfInBounds_toArray, List.set_cons_zero, List.set_cons_succ]
        refine take_at 2 39 (.int .i64 k) rfl rfl (by kernel_rfl) (by kernel_rfl) (by kernel_rfl) (fun _ _ _ h => h) (Or.inl ⟨by rfl, fun w hSw => by (try dsimp only at hSw); go_simp⟩) (by assumption) ?_
        simp only [Act.put, List.setIfInBounds_toArray, List.set_cons_zero, List.set_cons_succ]
        refine take_at 3 40 (.pointer (some ⟨b, off + k, none⟩)) rfl rfl (by kernel_rfl) (by kernel_rfl) (by kernel_rfl) (fun _ _ _ h => h) (Or.inl ⟨by rfl, fun w hSw => by (try dsimp only at hSw); go_simp⟩) (by assumption) ?_
        simp only [Act.put, List.setIfInBounds_toArray, List.set_cons_zero, List.set_cons_succ]
        refine take_at 4 41 (.float .f64 x) rfl rfl (by kernel_rfl) (by kernel_rfl) (by kernel_rfl) (fun _ _ _ h => h) (Or.inl ⟨by rfl, fun w hSw => by (try dsimp only at hSw); go_simp⟩) (by assumption) ?_
        simp only [Act.put, List.setIfInBounds_toArray, List.set_cons_zero, List.set_cons_succ]
        refine take_at 5 42 (.slice (some ⟨b2, off2, none⟩) N cb) rfl rfl (by kernel_rfl) (by kernel_rfl) (by kernel_rfl) (fun _ _ _ h => h) (Or.inl ⟨by rfl, fun w hSw => by (try dsimp only at hSw); go_simp⟩) (by assumption) ?_
        simp only [Act.put, List.setIfInBounds_toArray, List.set_cons_zero, List.set_cons_succ]
        refine take_at 6 43 (.int .i64 k) rfl rfl (by kernel_rfl) (by kernel_rfl) (by kernel_rfl) (fun _ _ _ h => h) (Or.inl ⟨by rfl, fun w hSw => by (try dsimp only at hSw); go_simp⟩) (by assumption) ?_
        simp only [Act.put, List.setIfInBounds_toArray, List.set_cons_zero, List.set_cons_succ]
        refine take_at 7 44 (.pointer (some ⟨b2, off2 + k, none⟩)) rfl rfl (by kernel_rfl) (by kernel_rfl) (by kernel_rfl) (fun _ _ _ h => h) (Or.inl ⟨by rfl, fun w hSw => by (try dsimp only at hSw); go_simp⟩) (by assumption) ?_
        simp only [Act.put, List.setIfInBounds_toArray, List.set_cons_zero, List.set_cons_succ]
        refine take_at 8 45 (.float .f64 y) rfl rfl (by kernel_rfl) (by kernel_rfl) (by kernel_rfl) (fun _ _ _ h => h) (Or.inl ⟨by rfl, fun w hSw => by (try dsimp only at hSw); go_simp⟩) (by assumption) ?_
        simp only [Act.put, List.setIfInBounds_toArray, List.set_cons_zero, List.set_cons_succ]
        refine wpAnyH_ready (rs := [9]) (by kernel_rfl) (by simp) ?_
        refine AllReadyH.cons (o := _) rfl (fun K hK => ?_) AllReadyH.nil
        go_simp
        go_wp2_with fail
        refine hK.out _ _ (HKS.out _ HQ1) (fun hHeld1 => ?_)
        clear hK K
        try simp only [Act.put, List.setIfInBounds_toArray, List.set_cons_zero, List.set_cons_succ]
        refine wpAnyH_ready (rs := [10]) (by kernel_rfl) (by simp) ?_
        refine AllReadyH.cons (o := _) rfl (fun K hK => ?_) AllReadyH.nil
        go_simp
        go_wp2_with fail
        refine hK.out _ _ (HKS.out _ HQ2) (fun hHeld2 => ?_)
        clear hK K
        try simp only [Act.put, List.setIfInBounds_toArray, List.set_cons_zero, List.set_cons_succ]
        have hrun := HRUN.out
        refine wpAnyH_ready (rs := [11]) (by kernel_rfl) (by simp) ?_
        refine AllReadyH.cons (o := _) rfl (fun K hK => ?_) AllReadyH.nil
        refine step_append_fl (by rfl) _ _ rfl _ _ rfl rfl ⟨_, _, _, _, hrun, ?_⟩
        refine hK.out _ _ (HKS.out _ HQ5) (fun hHeld3 => ?_)
        clear hK K hrun
        try simp only [Act.put, List.setIfInBounds_toArray]
        refine take_at 12 6 (.slice (some ⟨g5, 0, none⟩) n1 c5) rfl rfl (by kernel_rfl) (by kernel_rfl) (by kernel_rfl) (fun _ _ _ h => h) (Or.inl ⟨by rfl, fun w hSw => by (try dsimp only at hSw); go_simp⟩) (by assumption) ?_
        simp only [Act.put]
        refine wpAnyH_done (by kernel_rfl) ?_ _
        -- END2
        go_wp2_with fail
        refine ⟨⟨k + 1, _, by omega, by go_num, HOE, HQ5⟩, ?_⟩
        simp [intOf]; omega
    · obtain rfl : N = k := by omega
      obtain ⟨ua, cu, hu, hflt⟩ := HO.out.1.flt HO.out.2.2.2.2
      subst hu
      have HSC := hid (special_any ua zs.length cu zs (by have := HO.out.2.2.2.1; omega) wr hflt)
      have HST := hid (spc_told zs _ HO.out.2.1 HO.out.2.2.1 HSP.out)
      obtain ⟨S, hS⟩ : ∃ S, Hid (sumC (nfP xs ys N) = S) := ⟨_, rfl⟩
      have HV1 := hid HST.out.1
      rw [HV1.out, hS.out] at HSC
      rw [hS.out] at HV
      by_cases hf : (allFin xs && allFin ys) = true
      · have hfl := HST.out.2.2 (HPF.out.1 hf)
        rw [hfl] at HSC
        rw [if_pos hf] at HV
        have HD := hid (HXD.out hf)
        obtain ⟨R, hR⟩ : ∃ R, Hid (rndI (dotSv xs ys N) (-2148) = R) := ⟨_, rfl⟩
        rw [hR.out] at HXR HV
        clear hflt HO hf hfl
        go_wp2_with fail
        refine HSC.out.mono ?_
        rintro r w9 ⟨rfl, rfl⟩
        go_wp2_with fail
        refine (HD.out _ HBW.out).mono ?_
        rintro r w2 ⟨p, e, rfl, HEX, hb2⟩
        have HB2 := hid (HBW.out.trans (hb2.mono HBW.out.size))
        clear hb2
        go_wp2_with fail
        refine (HXR.out _ _ _ HB2.out HEX).mono ?_
        rintro r w3 ⟨rfl, hb3⟩
        have HB3 := hid (HB2.out.trans (hb3.mono HB2.out.size))
        clear hb3
        go_wp2
        go_ret2
        exact ⟨by rw [HV.out]; rfl, HB3.out⟩
      · have hf' : (allFin xs && allFin ys) = false := by revert hf; cases (allFin xs && allFin ys) <;> simp
        have hfl := HST.out.2.1 (HPF.out.2 hf')
        rw [hfl] at HSC
        rw [if_neg hf] at HV
        clear hflt HO hf hf' hfl
        go_wp2_with fail
        refine HSC.out.mono ?_
        rintro r w9 ⟨rfl, rfl⟩
        go_wp2
        go_ret2
        exact ⟨by rw [HV.out]; rfl, HBW.out⟩
end Go.Proofs.YtpjdmhidhllbkaaGreatDoor

namespace Go.Proofs.YtpjdmhidhllbkaaGreatDoor
open Go.RowKit Go.IntWalk

set_option maxHeartbeats 400000 in
theorem same_yes (V : Nat) (w : World) (hV : V < 18446744073709551616) (hc : canonOf V = V) : Calls Tryz.prog 11 #[.float .f64 V, .float .f64 V] w fun e w' => e = .returned (.bool true) ∧ w' = w := by
  have h1 := f64bits
  have HB := hid (fun W => bits_any V W hV)
  rw [hc] at HB
  go_enter Tryz.func11, Tryz.ntmps11
  go_wp2_with fail
  refine (HB.out _).mono ?_
  rintro e w' ⟨rfl, rfl⟩
  go_wp2
  go_ret
  exact ⟨rfl, rfl⟩
set_option maxHeartbeats 400000 in
theorem told_yes (V : Nat) (E : Int) (w : World) (hV : V < 18446744073709551616) (hc : canonOf V = V) : Calls Tryz.prog 20 #[.float .f64 V, .int .i64 E, .float .f64 V, .int .i64 E] w fun e w' => e = .returned (.bool true) ∧ w' = w := by
  have HS := hid (fun W => same_yes V W hV hc)
  have he : (E == E) = true := by simp
  clear hV hc
  go_enter Tryz.func20, Tryz.ntmps20
  go_wp2_with fail
  refine (HS.out _).mono ?_
  rintro e w' ⟨rfl, rfl⟩
  go_wp2
  go_ret
  exact ⟨rfl, rfl⟩
theorem rndI_canon (z e : Int) : rndI z e < 18446744073709551616 ∧ canonOf (rndI z e) = rndI z e := by
  have h := (near_rnd false z.natAbs e).2
  unfold rndI
  have h1 := signN_mod (decide (z < 0)) (rndM z.natAbs e) (by omega)
  refine ⟨h1.2.2, ?_⟩
  unfold canonOf
  rw [if_neg (by rw [h1.1]; omega)]
theorem dotV_canon (xs ys : List Nat) (N M : Nat) : dotV xs ys N M < 18446744073709551616 ∧ canonOf (dotV xs ys N M) = dotV xs ys N M := by
  unfold dotV
  split
  · decide
  · split
    · exact rndI_canon _ _
    · exact ⟨sumC_lt _, sumC_can _⟩
theorem dotL_canon (xs ys : List Nat) (N M : Nat) : (if N = M then sumC (prodL xs ys N) else 0) < 18446744073709551616 ∧ canonOf (if N = M then sumC (prodL xs ys N) else 0) = (if N = M then sumC (prodL xs ys N) else 0) := by
  split
  · exact ⟨sumC_lt _, sumC_can _⟩
  · decide
set_option maxHeartbeats 1000000 in
theorem sdots_walk (sa : Option Addr) (sn sc : Nat) (xs : List Nat) (ta : Option Addr) (tn tc : Nat) (ys : List Nat) (w : World) (hu : U64At w sa sn xs) (hn : sn ≤ 17592186043904) (hv : U64At w ta tn ys) (hm : tn ≤ 17592186043904) (hT : Tab w) (hg : 2 < w.heap.size) (hT3 : Tab32 w) (hs : 1 < w.heap.size) :
    Calls Tryz.prog 4 #[.slice sa sn sc, .slice ta tn tc] w fun r w' => r = .returned (.bool true) ∧ Below w.heap.size w w' := by
  have HA : Hid (∀ W, Below w.heap.size w W → Calls Tryz.prog 21 #[] W fun r w' => r = .returned (.bool true) ∧ Below W.heap.size W w') := fun W hW => awake5_any W (hT.below hg hW) (Nat.lt_of_lt_of_le hg hW.size) (hT3.below hs hW) (Nat.lt_of_lt_of_le hs hW.size)
  have HO1 := hid (Of64_list sa sn sc xs w hu hn)
  have HO2 : Hid (∀ W, Below w.heap.size w W → Calls Tryz.prog 6 #[.slice ta tn tc] W fun r w' => ∃ ua cap, r = .returned (.slice ua tn cap) ∧ ListAt w' ua tn cap ys ∧ Below W.heap.size W w') := fun W hW => Of64_list ta tn tc ys W (hv.below hW) hm
  have hx := hu.2.1
  have hy := hv.2.1
  have HP1 : Hid (∀ W a c b d, Below w.heap.size w W → ListAt W a sn c xs → ListAt W b tn d ys → Calls Tryz.prog 22 #[.slice a sn c, .slice b tn d] W fun r w' => r = .returned (.tuple #[.float .f64 (if sn = tn then sumC (prodL xs ys sn) else 0), .int .i64 (if sn = tn then 0 else 3)]) ∧ Below W.heap.size W w') := fun W a c b d _ h1 h2 => Dot_any a b sn tn c d xs ys hx hy hn W h1.flt h2.flt
  have HP2 : Hid (∀ W a c b d, Below w.heap.size w W → ListAt W a sn c xs → ListAt W b tn d ys → Calls Tryz.prog 23 #[.slice a sn c, .slice b tn d] W fun r w' => r = .returned (.tuple #[.float .f64 (if sn = tn then sumC (prodL xs ys sn) else 0), .int .i64 (if sn = tn then 0 else 3)]) ∧ Below W.heap.size W w') := fun W a c b d _ h1 h2 => rDot_any a b sn tn c d xs ys hx hy hn W h1.flt h2.flt
  have HP3 : Hid (∀ W a c b d, Below w.heap.size w W → ListAt W a sn c xs → ListAt W b tn d ys → Calls Tryz.prog 24 #[.slice a sn c, .slice b tn d] W fun r w' => r = .returned (.tuple #[.float .f64 (dotV xs ys sn tn), .int .i64 (dotE sn tn)]) ∧ Below W.heap.size W w') := fun W a c b d hW h1 h2 => DotExact_any a b sn tn c d xs ys W h1 h2 hx hy hn hm (hT.below hg hW) (Nat.lt_of_lt_of_le hg hW.size) (hT3.below hs hW) (Nat.lt_of_lt_of_le hs hW.size)
  have HP4 : Hid (∀ W a c b d, Below w.heap.size w W → ListAt W a sn c xs → ListAt W b tn d ys → Calls Tryz.prog 25 #[.slice a sn c, .slice b tn d] W fun r w' => r = .returned (.tuple #[.float .f64 (dotV xs ys sn tn), .int .i64 (dotE sn tn)]) ∧ Below W.heap.size W w') := fun W a c b d hW h1 h2 => rDotExact_any a b sn tn c d xs ys W h1 h2 hx hy hn hm (hT3.below hs hW) (Nat.lt_of_lt_of_le hs hW.size)
  have HL := hid (dotL_canon xs ys sn tn)
  have HV := hid (dotV_canon xs ys sn tn)
  obtain ⟨V, hV⟩ : ∃ V, Hid (dotV xs ys sn tn = V) := ⟨_, rfl⟩
  obtain ⟨E, hE⟩ : ∃ V, Hid (dotE sn tn = V) := ⟨_, rfl⟩
  obtain ⟨L, hL⟩ : ∃ V, Hid ((if sn = tn then sumC (prodL xs ys sn) else 0) = V) := ⟨_, rfl⟩
  obtain ⟨F, hF⟩ : ∃ V : Int, Hid ((if sn = tn then 0 else 3) = V) := ⟨_, rfl⟩
  rw [hV.out] at HP3 HP4 HV
  rw [hE.out] at HP3 HP4
  rw [hL.out] at HP1 HP2 HL
  rw [hF.out] at HP1 HP2
  have HT1 := hid (fun W => told_yes L F W HL.out.1 HL.out.2)
  have HT2 := hid (fun W => told_yes V E W HV.out.1 HV.out.2)
  clear hu hn hv hm hT hg hT3 hs hx hy
  go_enter Tryz.func4, Tryz.ntmps4
  go_wp2_with fail
  refine HO1.out.mono ?_
  rintro r w1 ⟨ua, c1, rfl, l1, hb1⟩
  have HB1 := hid hb1
  have HL1 := hid l1
  clear hb1 l1
  go_wp2_with fail
  refine (HO2.out _ HB1.out).mono ?_
  rintro r w2 ⟨ub, c2, rfl, l2, hb2⟩
  have HB2 := hid (HB1.out.trans (hb2.mono HB1.out.size))
  have HK1 : Hid (∀ W, Below w2.heap.size w2 W → ListAt W ua sn c1 xs ∧ ListAt W ub tn c2 ys ∧ Below w.heap.size w W) := fun W hW => ⟨(HL1.out.below hb2).below hW, l2.below hW, HB2.out.trans (hW.mono HB2.out.size)⟩
  clear hb2 l2
  go_wp2_with fail
  refine (HP1.out _ _ _ _ _ HB2.out (HK1.out _ (Below.refl _ _)).1 (HK1.out _ (Below.refl _ _)).2.1).mono ?_
  rintro r w3 ⟨rfl, hb3⟩
  have HB3 := hid hb3
  clear hb3
  go_wp2_with fail
  refine (HP2.out _ _ _ _ _ (HK1.out _ HB3.out).2.2 (HK1.out _ HB3.out).1 (HK1.out _ HB3.out).2.1).mono ?_
  rintro r w4 ⟨rfl, hb4⟩
  have HB4 := hid (HB3.out.trans (hb4.mono HB3.out.size))
  clear hb4
  go_wp2_with fail
  refine (HP3.out _ _ _ _ _ (HK1.out _ HB4.out).2.2 (HK1.out _ HB4.out).1 (HK1.out _ HB4.out).2.1).mono ?_
  rintro r w5 ⟨rfl, hb5⟩
  have HB5 := hid (HB4.out.trans (hb5.mono HB4.out.size))
  clear hb5
  go_wp2_with fail
  refine (HP4.out _ _ _ _ _ (HK1.out _ HB5.out).2.2 (HK1.out _ HB5.out).1 (HK1.out _ HB5.out).2.1).mono ?_
  rintro r w6 ⟨rfl, hb6⟩
  have HB6 := hid (HB5.out.trans (hb6.mono HB5.out.size))
  clear hb6
  go_wp2_with fail
  refine (HT1.out _).mono ?_
  rintro r w9 ⟨rfl, rfl⟩
  go_wp2_with fail
  refine (HT2.out _).mono ?_
  rintro r w9 ⟨rfl, rfl⟩
  go_wp2_with fail
  refine (HA.out _ (HK1.out _ HB6.out).2.2).mono ?_
  rintro r w7 ⟨rfl, hb7⟩
  have HB7 := hid (HB6.out.trans (hb7.mono HB6.out.size))
  clear hb7
  go_wp2
  go_ret
  exact ⟨rfl, (HK1.out _ HB7.out).2.2⟩
end Go.Proofs.YtpjdmhidhllbkaaGreatDoor
