
/- The law SumNearest: its walk. -/
import Derived.Test.YtpjdmhidhllbkaaGreatDoorP47
import Derived.Test.YtpjdmhidhllbkaaGreatDoorP4
import Derived.Test.YtpjdmhidhllbkaaGreatDoorP42
import Derived.Deep.RegionHeld3
namespace Go.Proofs.YtpjdmhidhllbkaaGreatDoor
open Go.RowKit Go.IntWalk

theorem sgnS_le {v : Int} (h : v ≤ 0) : sgnZ v ≤ 0 := by unfold sgnZ; split <;> (try split) <;> omega
theorem sgnS_ge {v : Int} (h : 0 ≤ v) : 0 ≤ sgnZ v := by unfold sgnZ; split <;> (try split) <;> omega
theorem sgn_mulS (v : Int) (k : Nat) : (0 < v * 2 ^ k ↔ 0 < sgnZ v) ∧ (v * 2 ^ k < 0 ↔ sgnZ v < 0) := by
  have hp : (0 : Int) < 2 ^ k := Int.pow_pos (by decide)
  unfold sgnZ
  refine ⟨⟨fun h => ?_, fun h => ?_⟩, ⟨fun h => ?_, fun h => ?_⟩⟩
  · have : 0 < v := by
      apply Classical.byContradiction
      intro c
      have := Int.mul_nonpos_of_nonpos_of_nonneg (show v ≤ 0 by omega) (Int.le_of_lt hp)
      omega
    rw [if_neg (by omega), if_neg (by omega)]; decide
  · have : 0 < v := by
      split at h
      · omega
      · split at h <;> omega
    exact Int.mul_pos this hp
  · have : v < 0 := by
      apply Classical.byContradiction
      intro c
      have := Int.mul_nonneg (show 0 ≤ v by omega) (Int.le_of_lt hp)
      omega
    rw [if_neg (by omega), if_pos this]; decide
  · have : v < 0 := by
      split at h
      · omega
      · split at h <;> omega
    exact Int.mul_neg_of_neg_of_pos this hp
theorem exp_iffU (x : Nat) : (expOf x == 2047) = !decide (x % 9223372036854775808 < 9218868437227405312) := by
  by_cases h : x % 9223372036854775808 < 9218868437227405312
  · rw [decide_eq_true h]
    have : expOf x ≠ 2047 := by
      unfold expOf canonOf
      split <;> omega
    simpa using this
  · rw [decide_eq_false h]
    have : expOf x = 2047 := by
      unfold expOf canonOf
      split <;> omega
    simpa using this
theorem eqs_inf : (FloatKind.f64.format.order 9218868437227405312 9218868437227405312 == some .eq) = true ∧ (FloatKind.f64.format.order 18442240474082181120 18442240474082181120 == some .eq) = true ∧ (FloatKind.f64.format.order 9218868437227405312 0 == some .gt) = true ∧ (FloatKind.f64.format.order 18442240474082181120 0 == some .gt) = false := by decide +kernel
set_option maxHeartbeats 2000000 in
/-- The early ways out. -/
theorem nearest_early (sa : Option Addr) (sn sc : Nat) (xs : List Nat) (o : Nat) (w : World) (hu : U64At w sa sn xs) (hn : sn ≤ 17592186043904) (ho : o < 18446744073709551616) (hA : ∀ W, Below w.heap.size w W → Calls Tryz.prog 21 #[] W fun r w' => r = .returned (.bool true) ∧ Below W.heap.size W w') (h : 600 < sn ∨ allFin xs = false ∨ (expOf o == 2047) = true) :
    Calls Tryz.prog 5 #[.slice sa sn sc, .int .u64 o] w fun r w' => r = .returned (.bool true) ∧ Below w.heap.size w w' := by
  have h2 := f64from
  have HA := hid hA
  have HO := hid (Of64_list sa sn sc xs w hu hn)
  have HF : Hid (∀ W a c, ListAt W a sn c xs → Calls Tryz.prog 27 #[.slice a sn c] W fun r w' => r = .returned (.bool (allFin xs)) ∧ w' = W) := fun W a c hl => rall_list a sn c xs W hl hu.2.1 hn
  have HG := hid (fun W => rfinite_any o W ho)
  clear hA hu ho
  by_cases c1 : 600 < sn
  · have hI : (600 : Int) < (sn : Int) := by omega
    clear h
    go_enter Tryz.func5, Tryz.ntmps5
    go_wp2_with fail
    refine HO.out.mono ?_
    rintro r w1 ⟨ua, c1, rfl, l1, hb1⟩
    have HB1 := hid hb1
    clear hb1 l1
    go_wp2_with fail
    refine (HA.out _ HB1.out).mono ?_
    rintro r w2 ⟨rfl, hb2⟩
    have HB2 := hid (HB1.out.trans (hb2.mono HB1.out.size))
    clear hb2
    go_wp2
    go_ret
    exact ⟨rfl, HB2.out⟩
  · have hI : (sn : Int) ≤ 600 := by omega
    by_cases c2 : allFin xs = true
    · have c3 : (expOf o == 2047) = true := by
        rcases h with h | h | h
        · exact absurd h c1
        · rw [c2] at h; cases h
        · exact h
      rw [c2] at HF
      rw [c3] at HG
      clear h c1 c2 c3
      go_enter Tryz.func5, Tryz.ntmps5
      go_wp2_with fail
      refine HO.out.mono ?_
      rintro r w1 ⟨ua, c1, rfl, l1, hb1⟩
      have HB1 := hid hb1
      have HL := hid l1
      clear hb1 l1
      go_wp2_with fail
      refine (HF.out _ _ _ HL.out).mono ?_
      rintro r w9 ⟨rfl, rfl⟩
      go_wp2_with fail
      refine (HG.out _).mono ?_
      rintro r w9 ⟨rfl, rfl⟩
      go_wp2_with fail
      refine (HA.out _ HB1.out).mono ?_
      rintro r w2 ⟨rfl, hb2⟩
      have HB2 := hid (HB1.out.trans (hb2.mono HB1.out.size))
      clear hb2
      go_wp2
      go_ret
      exact ⟨rfl, HB2.out⟩
    · have c2' : allFin xs = false := by revert c2; cases allFin xs <;> simp
      rw [c2'] at HF
      clear h c1 c2 c2'
      go_enter Tryz.func5, Tryz.ntmps5
      go_wp2_with fail
      refine HO.out.mono ?_
      rintro r w1 ⟨ua, c1, rfl, l1, hb1⟩
      have HB1 := hid hb1
      have HL := hid l1
      clear hb1 l1
      go_wp2_with fail
      refine (HF.out _ _ _ HL.out).mono ?_
      rintro r w9 ⟨rfl, rfl⟩
      go_wp2_with fail
      refine (HA.out _ HB1.out).mono ?_
      rintro r w2 ⟨rfl, hb2⟩
      have HB2 := hid (HB1.out.trans (hb2.mono HB1.out.size))
      clear hb2
      go_wp2
      go_ret
      exact ⟨rfl, HB2.out⟩
set_option maxRecDepth 4000 in
set_option maxHeartbeats 4000000 in
/-- The sum's number is finite. -/
theorem nearest_fin (sa : Option Addr) (sn sc : Nat) (xs : List Nat) (o x : Nat) (z : Int) (w : World) (hn : sn ≤ 600) (hx : x < 18446744073709551616) (fx : x % 9223372036854775808 < 9218868437227405312) (ho : o < 18446744073709551616) (fo : o % 9223372036854775808 < 9218868437227405312)
    (hA : ∀ W, Below w.heap.size w W → Calls Tryz.prog 21 #[] W fun r w' => r = .returned (.bool true) ∧ Below W.heap.size W w')
    (hO : Calls Tryz.prog 6 #[.slice sa sn sc] w fun r w' => ∃ ua cap, r = .returned (.slice ua sn cap) ∧ ListAt w' ua sn cap xs ∧ Below w.heap.size w w')
    (hF : ∀ W a c, ListAt W a sn c xs → Calls Tryz.prog 27 #[.slice a sn c] W fun r w' => r = .returned (.bool true) ∧ w' = W)
    (hE : ∀ W a c, Below w.heap.size w W → ListAt W a sn c xs → Calls Tryz.prog 8 #[.slice a sn c] W fun r w' => r = .returned (.tuple #[.float .f64 x, .int .i64 0]) ∧ Below W.heap.size W w')
    (hS : ∀ W a c, ListAt W a sn c xs → Calls Tryz.prog 29 #[.slice a sn c] W fun r w' => ∃ p e, r = .returned (.agg #[.pointer (some ⟨p, 0, none⟩), .int .i64 e]) ∧ (-1074 ≤ e ∧ e ≤ 2000) ∧ ExV w' p e (-1074) z 200 ∧ Below W.heap.size W w')
    (hC : sgnZ (((z + -sv x).natAbs : Int) - ((z + -sv o).natAbs : Int)) ≤ 0) :
    Calls Tryz.prog 5 #[.slice sa sn sc, .int .u64 o] w fun r w' => r = .returned (.bool true) ∧ Below w.heap.size w w' := by
  have h2 := f64from
  have HA := hid hA
  have HO := hid hO
  have HF := hid hF
  have HE := hid hE
  have HS := hid hS
  have HG1 := hid (fun W => rfinite_any o W ho)
  have HG2 := hid (fun W => rfinite_any x W hx)
  have g1 : (expOf o == 2047) = false := by rw [exp_iffU, decide_eq_true fo]; rfl
  have g2 : (expOf x == 2047) = false := by rw [exp_iffU, decide_eq_true fx]; rfl
  rw [g1] at HG1
  rw [g2] at HG2
  have HOX := hid (fun W => xOf_fin x W hx fx)
  have HOO := hid (fun W => xOf_fin o W ho fo)
  have hI : (sn : Int) ≤ 600 := by omega
  obtain ⟨C, hC2⟩ : ∃ C, Hid (sgnZ (((z + -sv x).natAbs : Int) - ((z + -sv o).natAbs : Int)) = C) := ⟨_, rfl⟩
  rw [hC2.out] at hC
  have hCL := hC
  clear hC
  have hC := hC2
  clear hA hO hF hE hS hn hx fx ho fo g1 g2 hC2
  go_enter Tryz.func5, Tryz.ntmps5
  go_wp2_with fail
  refine HO.out.mono ?_
  rintro r w1 ⟨ua, c1, rfl, l1, hb1⟩
  have HB1 := hid hb1
  have HL1 := hid l1
  clear hb1 l1
  go_wp2_with fail
  refine (HF.out _ _ _ HL1.out).mono ?_
  rintro r w9 ⟨rfl, rfl⟩
  go_wp2_with fail
  refine (HG1.out _).mono ?_
  rintro r w9 ⟨rfl, rfl⟩
  go_wp2_with fail
  refine (HE.out _ _ _ HB1.out HL1.out).mono ?_
  rintro r w2 ⟨rfl, hb2⟩
  have HB2 := hid (HB1.out.trans (hb2.mono HB1.out.size))
  have HL2 := hid (HL1.out.below hb2)
  clear hb2
  go_wp2_with fail
  refine (HA.out _ HB2.out).mono ?_
  rintro r w3 ⟨rfl, hb3⟩
  have HB3 := hid (HB2.out.trans (hb3.mono HB2.out.size))
  have HL3 := hid (HL2.out.below hb3)
  clear hb3
  go_wp2_with fail
  refine (HS.out _ _ _ HL3.out).mono ?_
  rintro r w4 ⟨p, e, rfl, ⟨b0, b0'⟩, hx4, hb4⟩
  have HB4 := hid (HB3.out.trans (hb4.mono HB3.out.size))
  have hal : Below w4.heap.size w4 (w4.alloc (XBox (some ⟨p, 0, none⟩) e)) := (Below.refl _ _).alloc (Nat.le_refl _) _
  have HBV := hid (HB4.out.trans (hal.mono HB4.out.size))
  have HBK : Hid ((w4.alloc (XBox (some ⟨p, 0, none⟩) e)).heap[w4.heap.size]? = some (XBox (some ⟨p, 0, none⟩) e)) := new_blk _ _ _ rfl
  have HSX := hid (hx4.below hal)
  obtain ⟨V, hV⟩ : ∃ V, Hid (w4.alloc (XBox (some ⟨p, 0, none⟩) e) = V) := ⟨_, rfl⟩
  obtain ⟨bs, hbs⟩ : ∃ V, Hid (w4.heap.size = V) := ⟨_, rfl⟩
  rw [hV.out] at HBV HBK HSX
  rw [hbs.out] at HBK
  have HSX : Hid (∀ W, Hid (Below V.heap.size V W) → ExV W p e (-1074) z 200) := fun W hW => HSX.out.below hW.out
  have HKS : Hid (∀ W, Hid (Below V.heap.size V W) → (W.cell? ⟨bs, 0, none⟩ = some (.pointer (some ⟨p, 0, none⟩)) ∧ W.cell? ⟨bs, 1, none⟩ = some (.int .i64 e)) ∧ Hid (Below V.heap.size V W)) := fun W hW => by
    obtain ⟨y0, y1, _⟩ := xcells_of (show W.heap[bs]? = some (.cells #[.pointer (some ⟨p, 0, none⟩), .int .i64 e] 48) from (hW.out.block _ (Array.getElem?_eq_some_iff.1 HBK.out).1).trans HBK.out)
    exact ⟨⟨y0, y1⟩, hW⟩
  have hV' := hV.out
  have hbs' := hbs.out
  unfold XBox at hV'
  clear hx4 hb4 hal
  go_wp2_with fail
  refine (HG2.out _).mono ?_
  rintro r V9 ⟨rfl, hw9⟩
  obtain rfl := hw9.symm
  clear hV' hbs' hw9
  obtain ⟨nV, hnV⟩ : ∃ X, Hid (V.heap.size = X) := ⟨_, rfl⟩
  rw [hnV.out] at HSX HKS
  have HNV : Hid (∀ W, Hid (Below nV V W) → nV ≤ W.heap.size) := fun W hW => by have := hW.out.size; have := hnV.out; omega
  have HQ0 : Hid (Below nV V V.drew) := (Below.refl _ _).drew
  go_wp2_with fail
  rename_i K hK
  have HK := hid hK
  clear hK
  refine region_merge2 (fun a0 a' w' => ∃ q1 f1 q2 q3 f3 q4 nB, a' = Act.put (Act.put (Act.put (Act.put (Act.put (Act.put (Act.put a0 (some 68) (.agg #[.pointer (some ⟨p, 0, none⟩), .int .i64 e])) (some 69) (.float .f64 x)) (some 70) (.agg #[.pointer (some ⟨q1, 0, none⟩), .int .i64 f1])) (some 71) (.agg #[.pointer (some ⟨q2, 0, none⟩), .int .i64 f1])) (some 72) (.agg #[.pointer (some ⟨q3, 0, none⟩), .int .i64 f3])) (some 73) (.agg #[.pointer (some ⟨q4, 0, none⟩), .int .i64 f3])) (some 11) (.pointer (some ⟨nB, 0, none⟩)) ∧ w'.heap[nB]? = some (XBox (some ⟨q4, 0, none⟩) f3) ∧ ExV w' q4 f3 (-1074) ((z + -sv x).natAbs : Int) (max 200 2 + 4000) ∧ (-1074 ≤ f3 ∧ f3 ≤ 2000) ∧ Hid (Below nV V w')) (fun HR => ?_) ?_
  · simp only [Act.put, List.setIfInBounds_toArray, List.set_cons_zero, List.set_cons_succ] at HR
    refine wp_region_held_drew (S := fun W => (W.cell? ⟨bs, 0, none⟩ = some (.pointer (some ⟨p, 0, none⟩)) ∧ W.cell? ⟨bs, 1, none⟩ = some (.int .i64 e)) ∧ Hid (Below nV V W)) (by kernel_rfl) (HKS.out _ HQ0) (fun hHeld => ?_)
    -- REGION12
    refine take_at 0 68 (.agg #[.pointer (some ⟨p, 0, none⟩), .int .i64 e]) rfl rfl (by kernel_rfl) (by kernel_rfl) (by kernel_rfl) (fun _ _ _ h => h) (Or.inl ⟨by rfl, fun w hSw => by (try dsimp only at hSw); go_simp⟩) (by assumption) ?_
    simp only [Act.put, List.setIfInBounds_toArray, List.set_cons_zero, List.set_cons_succ]
    refine take_at 1 69 (.float .f64 x) rfl rfl (by kernel_rfl) (by kernel_rfl) (by kernel_rfl) (fun _ _ _ h => h) (Or.inl ⟨by rfl, fun w hSw => by (try dsimp only at hSw); go_simp⟩) (by assumption) ?_
    simp only [Act.put, List.setIfInBounds_toArray, List.set_cons_zero, List.set_cons_succ]
    refine wpAnyH_ready (rs := [2, 6]) (by kernel_rfl) (by simp) ?_
    refine AllReadyH.cons (o := _) rfl (fun K hK => ?_) (AllReadyH.cons (o := _) rfl (fun K hK => ?_) AllReadyH.nil)
    · go_simp
      refine (HOX.out _).mono ?_
      rintro r u1 ⟨q1, f1, rfl, ⟨b1, b1'⟩, hq, hbq⟩
      have HG1 : Hid (Below nV V u1) := HQ0.out.trans (hbq.mono (HNV.out _ HQ0))
      have HQ1 := hid hq
      clear hq hbq
      go_wp2_with fail
      refine hK.out _ _ (HKS.out _ HG1) (fun hHeld1 => ?_)
      clear hK K
      try simp only [Act.put, List.setIfInBounds_toArray, List.set_cons_zero, List.set_cons_succ]
      refine wpAnyH_ready (rs := [3, 6]) (by kernel_rfl) (by simp) ?_
      refine AllReadyH.cons (o := _) rfl (fun K hK => ?_) (AllReadyH.cons (o := _) rfl (fun K hK => ?_) AllReadyH.nil)
      · go_simp
        refine (xNeg_val q1 2 f1 _ _ _ HQ1.out (by decide)).mono ?_
        rintro r u2 ⟨q2, rfl, hq, hbq⟩
        have HG2 : Hid (Below nV V u2) := HG1.out.trans (hbq.mono (HNV.out _ HG1))
        have HQ2 := hid hq
        clear hq hbq
        go_wp2_with fail
        refine hK.out _ _ (HKS.out _ HG2) (fun hHeld2 => ?_)
        clear hK K
        try simp only [Act.put, List.setIfInBounds_toArray, List.set_cons_zero, List.set_cons_succ]
        refine wpAnyH_ready (rs := [4, 6]) (by kernel_rfl) (by simp) ?_
        refine AllReadyH.cons (o := _) rfl (fun K hK => ?_) (AllReadyH.cons (o := _) rfl (fun K hK => ?_) AllReadyH.nil)
        · go_simp
          refine (xAdd_val p q2 200 2 e f1 _ _ _ _ (HSX.out _ HG2) HQ2.out (by decide) (by decide) (by omega) (by omega)).mono ?_
          rintro r u3 ⟨q3, f3, rfl, ⟨b3, b3'⟩, hq, hbq⟩
          have HG3 : Hid (Below nV V u3) := HG2.out.trans (hbq.mono (HNV.out _ HG2))
          have HQ3 := hid hq
          clear hq hbq
          go_wp2_with fail
          refine hK.out _ _ (HKS.out _ HG3) (fun hHeld3 => ?_)
          clear hK K
          try simp only [Act.put, List.setIfInBounds_toArray, List.set_cons_zero, List.set_cons_succ]
          refine wpAnyH_ready (rs := [5, 6]) (by kernel_rfl) (by simp) ?_
          refine AllReadyH.cons (o := _) rfl (fun K hK => ?_) (AllReadyH.cons (o := _) rfl (fun K hK => ?_) AllReadyH.nil)
          · go_simp
            refine (xAbs_val q3 _ f3 _ _ _ HQ3.out (by decide)).mono ?_
            rintro r u4 ⟨q4, rfl, hq, hbq⟩
            have HG4 : Hid (Below nV V u4) := HG3.out.trans (hbq.mono (HNV.out _ HG3))
            have HQ4 := hid hq
            clear hq hbq
            go_wp2_with fail
            refine hK.out _ _ (HKS.out _ HG4) (fun hHeld4 => ?_)
            clear hK K
            try simp only [Act.put, List.setIfInBounds_toArray, List.set_cons_zero, List.set_cons_succ]
            refine wpAnyH_ready (rs := [6]) (by kernel_rfl) (by simp) ?_
            refine AllReadyH.cons (o := _) rfl (fun K hK => ?_) AllReadyH.nil
            have hbq : Below u4.heap.size u4 (u4.alloc (XBox none 0)) := (Below.refl _ _).alloc (Nat.le_refl _) _
            have HBX : Hid ((u4.alloc (XBox none 0)).heap[u4.heap.size]? = some (XBox none 0)) := new_blk _ _ _ rfl
            have HG5 : Hid (Below nV V (u4.alloc (XBox none 0))) := HG4.out.trans (hbq.mono (HNV.out _ HG4))
            have HNB : Hid (nV ≤ u4.heap.size) := HNV.out _ HG4
            have HQ4 := hid (HQ4.out.below hbq)
            clear hbq
            go_simp
            go_wp2_with fail
            refine hK.out _ _ (HKS.out _ HG5) (fun hHeld5 => ?_)
            clear hK K
            try simp only [Act.put, List.setIfInBounds_toArray, List.set_cons_zero, List.set_cons_succ]
            obtain ⟨u5, hu5⟩ : ∃ X, Hid ((u4.alloc (XBox none 0)) = X) := ⟨_, rfl⟩
            rw [hu5.out] at HBX HG5 HQ4
            have hy1 := hu5.out
            unfold XBox at hy1
            rw [hy1]
            obtain ⟨nB, hnB⟩ : ∃ X, Hid (u4.heap.size = X) := ⟨_, rfl⟩
            have hy2 := hnB.out
            rw [hnB.out] at HBX HNB
            rw [hy2]
            clear hy1 hy2
            refine wpAnyH_ready (rs := [7]) (by kernel_rfl) (by simp) ?_
            refine AllReadyH.cons (o := _) rfl (fun K hK => ?_) AllReadyH.nil
            obtain ⟨z0, z1, z2⟩ := xcells_of HBX.out
            have HFE : Hid (Below nV V ((u5.setCell ⟨nB, 0, none⟩ (.pointer (some ⟨q4, 0, none⟩))).setCell ⟨nB, 1, none⟩ (.int .i64 f3))) := Below.setCell (Below.setCell HG5.out (p := ⟨nB, 0, none⟩) HNB.out _) (p := ⟨nB, 1, none⟩) HNB.out _
            go_simp
            go_wp2_with fail
            refine hK.out _ _ (HKS.out _ HFE) (fun hHeldE => ?_)
            clear hK K
            try simp only [Act.put, List.setIfInBounds_toArray, List.set_cons_zero, List.set_cons_succ]
            refine wpAnyH_done (by kernel_rfl) ?_ _
            exact HR.out _ _ ⟨q1, f1, q2, q3, f3, q4, nB, rfl, box_set HBX.out, HQ4.out.stored HBX.out _ _, ⟨b3, by omega⟩, HFE⟩
          · have hbq : Below u3.heap.size u3 (u3.alloc (XBox none 0)) := (Below.refl _ _).alloc (Nat.le_refl _) _
            have HBX : Hid ((u3.alloc (XBox none 0)).heap[u3.heap.size]? = some (XBox none 0)) := new_blk _ _ _ rfl
            have HG4 : Hid (Below nV V (u3.alloc (XBox none 0))) := HG3.out.trans (hbq.mono (HNV.out _ HG3))
            have HNB : Hid (nV ≤ u3.heap.size) := HNV.out _ HG3
            have HQ3 := hid (HQ3.out.below hbq)
            clear hbq
            go_simp
            go_wp2_with fail
            refine hK.out _ _ (HKS.out _ HG4) (fun hHeld4 => ?_)
            clear hK K
            try simp only [Act.put, List.setIfInBounds_toArray, List.set_cons_zero, List.set_cons_succ]
            obtain ⟨u4, hu4⟩ : ∃ X, Hid ((u3.alloc (XBox none 0)) = X) := ⟨_, rfl⟩
            rw [hu4.out] at HBX HG4 HQ3
            have hy1 := hu4.out
            unfold XBox at hy1
            rw [hy1]
            obtain ⟨nB, hnB⟩ : ∃ X, Hid (u3.heap.size = X) := ⟨_, rfl⟩
            have hy2 := hnB.out
            rw [hnB.out] at HBX HNB
            rw [hy2]
            clear hy1 hy2
            refine wpAnyH_ready (rs := [5]) (by kernel_rfl) (by simp) ?_
            refine AllReadyH.cons (o := _) rfl (fun K hK => ?_) AllReadyH.nil
            go_simp
            refine (xAbs_val q3 _ f3 _ _ _ HQ3.out (by decide)).mono ?_
            rintro r u5 ⟨q4, rfl, hq, hbq⟩
            have HG5 : Hid (Below nV V u5) := HG4.out.trans (hbq.mono (HNV.out _ HG4))
            have HQ4 := hid hq
            have HBX : Hid (u5.heap[nB]? = some (XBox none 0)) := (hbq.block _ (Array.getElem?_eq_some_iff.1 HBX.out).1).trans HBX.out
            clear hq hbq
            go_wp2_with fail
            refine hK.out _ _ (HKS.out _ HG5) (fun hHeld5 => ?_)
            clear hK K
            try simp only [Act.put, List.setIfInBounds_toArray, List.set_cons_zero, List.set_cons_succ]
            refine wpAnyH_ready (rs := [7]) (by kernel_rfl) (by simp) ?_
            refine AllReadyH.cons (o := _) rfl (fun K hK => ?_) AllReadyH.nil
            obtain ⟨z0, z1, z2⟩ := xcells_of HBX.out
            have HFE : Hid (Below nV V ((u5.setCell ⟨nB, 0, none⟩ (.pointer (some ⟨q4, 0, none⟩))).setCell ⟨nB, 1, none⟩ (.int .i64 f3))) := Below.setCell (Below.setCell HG5.out (p := ⟨nB, 0, none⟩) HNB.out _) (p := ⟨nB, 1, none⟩) HNB.out _
            go_simp
            go_wp2_with fail
            refine hK.out _ _ (HKS.out _ HFE) (fun hHeldE => ?_)
            clear hK K
            try simp only [Act.put, List.setIfInBounds_toArray, List.set_cons_zero, List.set_cons_succ]
            refine wpAnyH_done (by kernel_rfl) ?_ _
            exact HR.out _ _ ⟨q1, f1, q2, q3, f3, q4, nB, rfl, box_set HBX.out, HQ4.out.stored HBX.out _ _, ⟨b3, by omega⟩, HFE⟩
        · have hbq : Below u2.heap.size u2 (u2.alloc (XBox none 0)) := (Below.refl _ _).alloc (Nat.le_refl _) _
          have HBX : Hid ((u2.alloc (XBox none 0)).heap[u2.heap.size]? = some (XBox none 0)) := new_blk _ _ _ rfl
          have HG3 : Hid (Below nV V (u2.alloc (XBox none 0))) := HG2.out.trans (hbq.mono (HNV.out _ HG2))
          have HNB : Hid (nV ≤ u2.heap.size) := HNV.out _ HG2
          have HQ2 := hid (HQ2.out.below hbq)
          clear hbq
          go_simp
          go_wp2_with fail
          refine hK.out _ _ (HKS.out _ HG3) (fun hHeld3 => ?_)
          clear hK K
          try simp only [Act.put, List.setIfInBounds_toArray, List.set_cons_zero, List.set_cons_succ]
          obtain ⟨u3, hu3⟩ : ∃ X, Hid ((u2.alloc (XBox none 0)) = X) := ⟨_, rfl⟩
          rw [hu3.out] at HBX HG3 HQ2
          have hy1 := hu3.out
          unfold XBox at hy1
          rw [hy1]
          obtain ⟨nB, hnB⟩ : ∃ X, Hid (u2.heap.size = X) := ⟨_, rfl⟩
          have hy2 := hnB.out
          rw [hnB.out] at HBX HNB
          rw [hy2]
          clear hy1 hy2
          refine wpAnyH_ready (rs := [4]) (by kernel_rfl) (by simp) ?_
          refine AllReadyH.cons (o := _) rfl (fun K hK => ?_) AllReadyH.nil
          go_simp
          refine (xAdd_val p q2 200 2 e f1 _ _ _ _ (HSX.out _ HG3) HQ2.out (by decide) (by decide) (by omega) (by omega)).mono ?_
          rintro r u4 ⟨q3, f3, rfl, ⟨b3, b3'⟩, hq, hbq⟩
          have HG4 : Hid (Below nV V u4) := HG3.out.trans (hbq.mono (HNV.out _ HG3))
          have HQ3 := hid hq
          have HBX : Hid (u4.heap[nB]? = some (XBox none 0)) := (hbq.block _ (Array.getElem?_eq_some_iff.1 HBX.out).1).trans HBX.out
          clear hq hbq
          go_wp2_with fail
          refine hK.out _ _ (HKS.out _ HG4) (fun hHeld4 => ?_)
          clear hK K
          try simp only [Act.put, List.setIfInBounds_toArray, List.set_cons_zero, List.set_cons_succ]
          refine wpAnyH_ready (rs := [5]) (by kernel_rfl) (by simp) ?_
          refine AllReadyH.cons (o := _) rfl (fun K hK => ?_) AllReadyH.nil
          go_simp
          refine (xAbs_val q3 _ f3 _ _ _ HQ3.out (by decide)).mono ?_
          rintro r u5 ⟨q4, rfl, hq, hbq⟩
          have HG5 : Hid (Below nV V u5) := HG4.out.trans (hbq.mono (HNV.out _ HG4))
          have HQ4 := hid hq
          have HBX : Hid (u5.heap[nB]? = some (XBox none 0)) := (hbq.block _ (Array.getElem?_eq_some_iff.1 HBX.out).1).trans HBX.out
          clear hq hbq
          go_wp2_with fail
          refine hK.out _ _ (HKS.out _ HG5) (fun hHeld5 => ?_)
          clear hK K
          try simp only [Act.put, List.setIfInBounds_toArray, List.set_cons_zero, List.set_cons_succ]
          refine wpAnyH_ready (rs := [7]) (by kernel_rfl) (by simp) ?_
          refine AllReadyH.cons (o := _) rfl (fun K hK => ?_) AllReadyH.nil
          obtain ⟨z0, z1, z2⟩ := xcells_of HBX.out
          have HFE : Hid (Below nV V ((u5.setCell ⟨nB, 0, none⟩ (.pointer (some ⟨q4, 0, none⟩))).setCell ⟨nB, 1, none⟩ (.int .i64 f3))) := Below.setCell (Below.setCell HG5.out (p := ⟨nB, 0, none⟩) HNB.out _) (p := ⟨nB, 1, none⟩) HNB.out _
          go_simp
          go_wp2_with fail
          refine hK.out _ _ (HKS.out _ HFE) (fun hHeldE => ?_)
          clear hK K
          try simp only [Act.put, List.setIfInBounds_toArray, List.set_cons_zero, List.set_cons_succ]
          refine wpAnyH_done (by kernel_rfl) ?_ _
          exact HR.out _ _ ⟨q1, f1, q2, q3, f3, q4, nB, rfl, box_set HBX.out, HQ4.out.stored HBX.out _ _, ⟨b3, by omega⟩, HFE⟩
      · have hbq : Below u1.heap.size u1 (u1.alloc (XBox none 0)) := (Below.refl _ _).alloc (Nat.le_refl _) _
        have HBX : Hid ((u1.alloc (XBox none 0)).heap[u1.heap.size]? = some (XBox none 0)) := new_blk _ _ _ rfl
        have HG2 : Hid (Below nV V (u1.alloc (XBox none 0))) := HG1.out.trans (hbq.mono (HNV.out _ HG1))
        have HNB : Hid (nV ≤ u1.heap.size) := HNV.out _ HG1
        have HQ1 := hid (HQ1.out.below hbq)
        clear hbq
        go_simp
        go_wp2_with fail
        refine hK.out _ _ (HKS.out _ HG2) (fun hHeld2 => ?_)
        clear hK K
        try simp only [Act.put, List.setIfInBounds_toArray, List.set_cons_zero, List.set_cons_succ]
        obtain ⟨u2, hu2⟩ : ∃ X, Hid ((u1.alloc (XBox none 0)) = X) := ⟨_, rfl⟩
        rw [hu2.out] at HBX HG2 HQ1
        have hy1 := hu2.out
        unfold XBox at hy1
        rw [hy1]
        obtain ⟨nB, hnB⟩ : ∃ X, Hid (u1.heap.size = X) := ⟨_, rfl⟩
        have hy2 := hnB.out
        rw [hnB.out] at HBX HNB
        rw [hy2]
        clear hy1 hy2
        refine wpAnyH_ready (rs := [3]) (by kernel_rfl) (by simp) ?_
        refine AllReadyH.cons (o := _) rfl (fun K hK => ?_) AllReadyH.nil
        go_simp
        refine (xNeg_val q1 2 f1 _ _ _ HQ1.out (by decide)).mono ?_
        rintro r u3 ⟨q2, rfl, hq, hbq⟩
        have HG3 : Hid (Below nV V u3) := HG2.out.trans (hbq.mono (HNV.out _ HG2))
        have HQ2 := hid hq
        have HBX : Hid (u3.heap[nB]? = some (XBox none 0)) := (hbq.block _ (Array.getElem?_eq_some_iff.1 HBX.out).1).trans HBX.out
        clear hq hbq
        go_wp2_with fail
        refine hK.out _ _ (HKS.out _ HG3) (fun hHeld3 => ?_)
        clear hK K
        try simp only [Act.put, List.setIfInBounds_toArray, List.set_cons_zero, List.set_cons_succ]
        refine wpAnyH_ready (rs := [4]) (by kernel_rfl) (by simp) ?_
        refine AllReadyH.cons (o := _) rfl (fun K hK => ?_) AllReadyH.nil
        go_simp
        refine (xAdd_val p q2 200 2 e f1 _ _ _ _ (HSX.out _ HG3) HQ2.out (by decide) (by decide) (by omega) (by omega)).mono ?_
        rintro r u4 ⟨q3, f3, rfl, ⟨b3, b3'⟩, hq, hbq⟩
        have HG4 : Hid (Below nV V u4) := HG3.out.trans (hbq.mono (HNV.out _ HG3))
        have HQ3 := hid hq
        have HBX : Hid (u4.heap[nB]? = some (XBox none 0)) := (hbq.block _ (Array.getElem?_eq_some_iff.1 HBX.out).1).trans HBX.out
        clear hq hbq
        go_wp2_with fail
        refine hK.out _ _ (HKS.out _ HG4) (fun hHeld4 => ?_)
        clear hK K
        try simp only [Act.put, List.setIfInBounds_toArray, List.set_cons_zero, List.set_cons_succ]
        refine wpAnyH_ready (rs := [5]) (by kernel_rfl) (by simp) ?_
        refine AllReadyH.cons (o := _) rfl (fun K hK => ?_) AllReadyH.nil
        go_simp
        refine (xAbs_val q3 _ f3 _ _ _ HQ3.out (by decide)).mono ?_
        rintro r u5 ⟨q4, rfl, hq, hbq⟩
        have HG5 : Hid (Below nV V u5) := HG4.out.trans (hbq.mono (HNV.out _ HG4))
        have HQ4 := hid hq
        have HBX : Hid (u5.heap[nB]? = some (XBox none 0)) := (hbq.block _ (Array.getElem?_eq_some_iff.1 HBX.out).1).trans HBX.out
        clear hq hbq
        go_wp2_with fail
        refine hK.out _ _ (HKS.out _ HG5) (fun hHeld5 => ?_)
        clear hK K
        try simp only [Act.put, List.setIfInBounds_toArray, List.set_cons_zero, List.set_cons_succ]
        refine wpAnyH_ready (rs := [7]) (by kernel_rfl) (by simp) ?_
        refine AllReadyH.cons (o := _) rfl (fun K hK => ?_) AllReadyH.nil
        obtain ⟨z0, z1, z2⟩ := xcells_of HBX.out
        have HFE : Hid (Below nV V ((u5.setCell ⟨nB, 0, none⟩ (.pointer (some ⟨q4, 0, none⟩))).setCell ⟨nB, 1, none⟩ (.int .i64 f3))) := Below.setCell (Below.setCell HG5.out (p := ⟨nB, 0, none⟩) HNB.out _) (p := ⟨nB, 1, none⟩) HNB.out _
        go_simp
        go_wp2_with fail
        refine hK.out _ _ (HKS.out _ HFE) (fun hHeldE => ?_)
        clear hK K
        try simp only [Act.put, List.setIfInBounds_toArray, List.set_cons_zero, List.set_cons_succ]
        refine wpAnyH_done (by kernel_rfl) ?_ _
        exact HR.out _ _ ⟨q1, f1, q2, q3, f3, q4, nB, rfl, box_set HBX.out, HQ4.out.stored HBX.out _ _, ⟨b3, by omega⟩, HFE⟩
    · have hbq : Below V.drew.heap.size V.drew (V.drew.alloc (XBox none 0)) := (Below.refl _ _).alloc (Nat.le_refl _) _
      have HBX : Hid ((V.drew.alloc (XBox none 0)).heap[V.drew.heap.size]? = some (XBox none 0)) := new_blk _ _ _ rfl
      have HG1 : Hid (Below nV V (V.drew.alloc (XBox none 0))) := HQ0.out.trans (hbq.mono (HNV.out _ HQ0))
      have HNB : Hid (nV ≤ V.drew.heap.size) := HNV.out _ HQ0
      clear hbq
      go_simp
      go_wp2_with fail
      refine hK.out _ _ (HKS.out _ HG1) (fun hHeld1 => ?_)
      clear hK K
      try simp only [Act.put, List.setIfInBounds_toArray, List.set_cons_zero, List.set_cons_succ]
      obtain ⟨u1, hu1⟩ : ∃ X, Hid ((V.drew.alloc (XBox none 0)) = X) := ⟨_, rfl⟩
      rw [hu1.out] at HBX HG1
      have hy1 : (V.alloc (.cells #[.pointer none, .int .i64 0] 48)).drew = u1 := hu1.out
      rw [hy1]
      obtain ⟨nB, hnB⟩ : ∃ X, Hid (V.drew.heap.size = X) := ⟨_, rfl⟩
      have hy2 : V.heap.size = nB := hnB.out
      rw [hnB.out] at HBX HNB
      rw [hy2]
      clear hy1 hy2
      refine wpAnyH_ready (rs := [2]) (by kernel_rfl) (by simp) ?_
      refine AllReadyH.cons (o := _) rfl (fun K hK => ?_) AllReadyH.nil
      go_simp
      refine (HOX.out _).mono ?_
      rintro r u2 ⟨q1, f1, rfl, ⟨b1, b1'⟩, hq, hbq⟩
      have HG2 : Hid (Below nV V u2) := HG1.out.trans (hbq.mono (HNV.out _ HG1))
      have HQ1 := hid hq
      have HBX : Hid (u2.heap[nB]? = some (XBox none 0)) := (hbq.block _ (Array.getElem?_eq_some_iff.1 HBX.out).1).trans HBX.out
      clear hq hbq
      go_wp2_with fail
      refine hK.out _ _ (HKS.out _ HG2) (fun hHeld2 => ?_)
      clear hK K
      try simp only [Act.put, List.setIfInBounds_toArray, List.set_cons_zero, List.set_cons_succ]
      refine wpAnyH_ready (rs := [3]) (by kernel_rfl) (by simp) ?_
      refine AllReadyH.cons (o := _) rfl (fun K hK => ?_) AllReadyH.nil
      go_simp
      refine (xNeg_val q1 2 f1 _ _ _ HQ1.out (by decide)).mono ?_
      rintro r u3 ⟨q2, rfl, hq, hbq⟩
      have HG3 : Hid (Below nV V u3) := HG2.out.trans (hbq.mono (HNV.out _ HG2))
      have HQ2 := hid hq
      have HBX : Hid (u3.heap[nB]? = some (XBox none 0)) := (hbq.block _ (Array.getElem?_eq_some_iff.1 HBX.out).1).trans HBX.out
      clear hq hbq
      go_wp2_with fail
      refine hK.out _ _ (HKS.out _ HG3) (fun hHeld3 => ?_)
      clear hK K
      try simp only [Act.put, List.setIfInBounds_toArray, List.set_cons_zero, List.set_cons_succ]
      refine wpAnyH_ready (rs := [4]) (by kernel_rfl) (by simp) ?_
      refine AllReadyH.cons (o := _) rfl (fun K hK => ?_) AllReadyH.nil
      go_simp
      refine (xAdd_val p q2 200 2 e f1 _ _ _ _ (HSX.out _ HG3) HQ2.out (by decide) (by decide) (by omega) (by omega)).mono ?_
      rintro r u4 ⟨q3, f3, rfl, ⟨b3, b3'⟩, hq, hbq⟩
      have HG4 : Hid (Below nV V u4) := HG3.out.trans (hbq.mono (HNV.out _ HG3))
      have HQ3 := hid hq
      have HBX : Hid (u4.heap[nB]? = some (XBox none 0)) := (hbq.block _ (Array.getElem?_eq_some_iff.1 HBX.out).1).trans HBX.out
      clear hq hbq
      go_wp2_with fail
      refine hK.out _ _ (HKS.out _ HG4) (fun hHeld4 => ?_)
      clear hK K
      try simp only [Act.put, List.setIfInBounds_toArray, List.set_cons_zero, List.set_cons_succ]
      refine wpAnyH_ready (rs := [5]) (by kernel_rfl) (by simp) ?_
      refine AllReadyH.cons (o := _) rfl (fun K hK => ?_) AllReadyH.nil
      go_simp
      refine (xAbs_val q3 _ f3 _ _ _ HQ3.out (by decide)).mono ?_
      rintro r u5 ⟨q4, rfl, hq, hbq⟩
      have HG5 : Hid (Below nV V u5) := HG4.out.trans (hbq.mono (HNV.out _ HG4))
      have HQ4 := hid hq
      have HBX : Hid (u5.heap[nB]? = some (XBox none 0)) := (hbq.block _ (Array.getElem?_eq_some_iff.1 HBX.out).1).trans HBX.out
      clear hq hbq
      go_wp2_with fail
      refine hK.out _ _ (HKS.out _ HG5) (fun hHeld5 => ?_)
      clear hK K
      try simp only [Act.put, List.setIfInBounds_toArray, List.set_cons_zero, List.set_cons_succ]
      refine wpAnyH_ready (rs := [7]) (by kernel_rfl) (by simp) ?_
      refine AllReadyH.cons (o := _) rfl (fun K hK => ?_) AllReadyH.nil
      obtain ⟨z0, z1, z2⟩ := xcells_of HBX.out
      have HFE : Hid (Below nV V ((u5.setCell ⟨nB, 0, none⟩ (.pointer (some ⟨q4, 0, none⟩))).setCell ⟨nB, 1, none⟩ (.int .i64 f3))) := Below.setCell (Below.setCell HG5.out (p := ⟨nB, 0, none⟩) HNB.out _) (p := ⟨nB, 1, none⟩) HNB.out _
      go_simp
      go_wp2_with fail
      refine hK.out _ _ (HKS.out _ HFE) (fun hHeldE => ?_)
      clear hK K
      try simp only [Act.put, List.setIfInBounds_toArray, List.set_cons_zero, List.set_cons_succ]
      refine wpAnyH_done (by kernel_rfl) ?_ _
      exact HR.out _ _ ⟨q1, f1, q2, q3, f3, q4, nB, rfl, box_set HBX.out, HQ4.out.stored HBX.out _ _, ⟨b3, by omega⟩, HFE⟩
    -- END12
  · have hK := HK.out
    clear HK
    rintro a' V2 ⟨q1, f1, q2, q3, f3, q4, nB, rfl, hbx, hex, ⟨b3, b3'⟩, HB2⟩
    have HKS : Hid (∀ W, Hid (Below V2.heap.size V2 W) → ((W.cell? ⟨bs, 0, none⟩ = some (.pointer (some ⟨p, 0, none⟩)) ∧ W.cell? ⟨bs, 1, none⟩ = some (.int .i64 e)) ∧ (W.cell? ⟨nB, 0, none⟩ = some (.pointer (some ⟨q4, 0, none⟩)) ∧ W.cell? ⟨nB, 1, none⟩ = some (.int .i64 f3))) ∧ Hid (Below V2.heap.size V2 W)) := fun W hW => by
      obtain ⟨y0, y1, _⟩ := xcells_of (show W.heap[nB]? = some (.cells #[.pointer (some ⟨q4, 0, none⟩), .int .i64 f3] 48) from (hW.out.block _ (Array.getElem?_eq_some_iff.1 hbx).1).trans hbx)
      have hVW : Hid (Below nV V W) := HB2.out.trans (hW.out.mono (HNV.out _ HB2))
      exact ⟨⟨(HKS.out W hVW).1, y0, y1⟩, hW⟩
    have HS2 : Hid (∀ W, Hid (Below V2.heap.size V2 W) → ExV W p e (-1074) z 200) := fun W hW => HSX.out W (HB2.out.trans (hW.out.mono (HNV.out _ HB2)))
    have HE2 : Hid (∀ W, Hid (Below V2.heap.size V2 W) → ExV W q4 f3 (-1074) ((z + -sv x).natAbs : Int) (max 200 2 + 4000)) := fun W hW => hex.below hW.out
    have HQ5 : Hid (Below V2.heap.size V2 V2.drew) := (Below.refl _ _).drew
    clear hbx hex
    simp only [Act.put, List.setIfInBounds_toArray, List.set_cons_zero, List.set_cons_succ]
    go_wp2_with fail
    refine wp_region_held_drew (S := fun W => ((W.cell? ⟨bs, 0, none⟩ = some (.pointer (some ⟨p, 0, none⟩)) ∧ W.cell? ⟨bs, 1, none⟩ = some (.int .i64 e)) ∧ (W.cell? ⟨nB, 0, none⟩ = some (.pointer (some ⟨q4, 0, none⟩)) ∧ W.cell? ⟨nB, 1, none⟩ = some (.int .i64 f3))) ∧ Hid (Below V2.heap.size V2 W)) (by kernel_rfl) (HKS.out _ HQ5) (fun hHeld => ?_)
    -- REGION13
    refine take_at 0 74 (.agg #[.pointer (some ⟨q4, 0, none⟩), .int .i64 f3]) rfl rfl (by kernel_rfl) (by kernel_rfl) (by kernel_rfl) (fun _ _ _ h => h) (Or.inl ⟨by rfl, fun w hSw => by (try dsimp only at hSw); go_simp⟩) (by assumption) ?_
    simp only [Act.put, List.setIfInBounds_toArray, List.set_cons_zero, List.set_cons_succ]
    refine take_at 1 75 (.agg #[.pointer (some ⟨p, 0, none⟩), .int .i64 e]) rfl rfl (by kernel_rfl) (by kernel_rfl) (by kernel_rfl) (fun _ _ _ h => h) (Or.inl ⟨by rfl, fun w hSw => by (try dsimp only at hSw); go_simp⟩) (by assumption) ?_
    simp only [Act.put, List.setIfInBounds_toArray, List.set_cons_zero, List.set_cons_succ]
    refine take_at 2 76 (.float .f64 o) rfl rfl (by kernel_rfl) (by kernel_rfl) (by kernel_rfl) (fun _ _ _ h => h) (Or.inl ⟨by rfl, fun w hSw => by (try dsimp only at hSw); go_simp⟩) (by assumption) ?_
    simp only [Act.put, List.setIfInBounds_toArray, List.set_cons_zero, List.set_cons_succ]
    refine wpAnyH_ready (rs := [3]) (by kernel_rfl) (by simp) ?_
    refine AllReadyH.cons (o := _) rfl (fun K hK => ?_) AllReadyH.nil
    go_simp
    refine (HOO.out _).mono ?_
    rintro r u1 ⟨m1, g1, rfl, ⟨b5, b5'⟩, hq, hbq⟩
    have HG1 : Hid (Below V2.heap.size V2 u1) := HQ5.out.trans (hbq.mono HQ5.out.size)
    have HM1 := hid hq
    clear hq
    clear hbq
    go_wp2_with fail
    refine hK.out _ _ (HKS.out _ HG1) (fun hHeld1 => ?_)
    clear hK K
    try simp only [Act.put, List.setIfInBounds_toArray, List.set_cons_zero, List.set_cons_succ]
    refine wpAnyH_ready (rs := [4]) (by kernel_rfl) (by simp) ?_
    refine AllReadyH.cons (o := _) rfl (fun K hK => ?_) AllReadyH.nil
    go_simp
    refine (xNeg_val m1 2 g1 _ _ _ HM1.out (by decide)).mono ?_
    rintro r u2 ⟨m2, rfl, hq, hbq⟩
    have HG2 : Hid (Below V2.heap.size V2 u2) := HG1.out.trans (hbq.mono HG1.out.size)
    have HM2 := hid hq
    clear hq
    clear hbq
    go_wp2_with fail
    refine hK.out _ _ (HKS.out _ HG2) (fun hHeld2 => ?_)
    clear hK K
    try simp only [Act.put, List.setIfInBounds_toArray, List.set_cons_zero, List.set_cons_succ]
    refine wpAnyH_ready (rs := [5]) (by kernel_rfl) (by simp) ?_
    refine AllReadyH.cons (o := _) rfl (fun K hK => ?_) AllReadyH.nil
    go_simp
    refine (xAdd_val p m2 200 2 e g1 _ _ _ _ (HS2.out _ HG2) HM2.out (by decide) (by decide) (by omega) (by omega)).mono ?_
    rintro r u3 ⟨m3, g3, rfl, ⟨b6, b6'⟩, hq, hbq⟩
    have HG3 : Hid (Below V2.heap.size V2 u3) := HG2.out.trans (hbq.mono HG2.out.size)
    have HM3 := hid hq
    clear hq
    clear hbq
    go_wp2_with fail
    refine hK.out _ _ (HKS.out _ HG3) (fun hHeld3 => ?_)
    clear hK K
    try simp only [Act.put, List.setIfInBounds_toArray, List.set_cons_zero, List.set_cons_succ]
    refine wpAnyH_ready (rs := [6]) (by kernel_rfl) (by simp) ?_
    refine AllReadyH.cons (o := _) rfl (fun K hK => ?_) AllReadyH.nil
    go_simp
    refine (xAbs_val m3 _ g3 _ _ _ HM3.out (by decide)).mono ?_
    rintro r u4 ⟨m4, rfl, hq, hbq⟩
    have HG4 : Hid (Below V2.heap.size V2 u4) := HG3.out.trans (hbq.mono HG3.out.size)
    have HM4 := hid hq
    clear hq
    clear hbq
    go_wp2_with fail
    refine hK.out _ _ (HKS.out _ HG4) (fun hHeld4 => ?_)
    clear hK K
    try simp only [Act.put, List.setIfInBounds_toArray, List.set_cons_zero, List.set_cons_succ]
    refine wpAnyH_ready (rs := [7]) (by kernel_rfl) (by simp) ?_
    refine AllReadyH.cons (o := _) rfl (fun K hK => ?_) AllReadyH.nil
    go_simp
    refine (xCmp_val q4 m4 _ _ f3 g3 _ _ _ _ (HE2.out _ HG4) HM4.out (by decide) (by decide) (by omega) (by omega)).mono ?_
    rw [hC.out]
    rintro r u5 ⟨rfl, hbq⟩
    have HG5 : Hid (Below V2.heap.size V2 u5) := HG4.out.trans (hbq.mono HG4.out.size)
    clear hbq
    go_wp2_with fail
    refine hK.out _ _ (HKS.out _ HG5) (fun hHeld5 => ?_)
    clear hK K
    try simp only [Act.put, List.setIfInBounds_toArray, List.set_cons_zero, List.set_cons_succ]
    refine take_at 8 82 (.bool true) rfl rfl (by kernel_rfl) (by kernel_rfl) (by kernel_rfl) (fun _ _ _ h => h) (Or.inl ⟨by rfl, fun w hSw => by (try dsimp only at hSw); go_simp⟩) (by assumption) ?_
    simp only [Act.put, List.setIfInBounds_toArray, List.set_cons_zero, List.set_cons_succ]
    refine take_at 9 4 (.bool true) rfl rfl (by kernel_rfl) (by kernel_rfl) (by kernel_rfl) (fun _ _ _ h => h) (Or.inl ⟨by rfl, fun w hSw => by (try dsimp only at hSw); go_simp⟩) (by assumption) ?_
    simp only [Act.put, List.setIfInBounds_toArray, List.set_cons_zero, List.set_cons_succ]
    refine wpAnyH_done (by kernel_rfl) ?_ _
    -- END13
    go_wp2
    go_ret
    exact ⟨rfl, HBV.out.trans ((HB2.out.trans (HG5.out.mono (HNV.out _ HB2))).mono (by have := HBV.out.size; have := hnV.out; omega))⟩
end Go.Proofs.YtpjdmhidhllbkaaGreatDoor
