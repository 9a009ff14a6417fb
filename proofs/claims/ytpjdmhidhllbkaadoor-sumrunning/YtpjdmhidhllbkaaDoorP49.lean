
/- The law SumRunning of no numbers; its walk whole. -/
import Derived.Test.YtpjdmhidhllbkaaDoorP48
namespace Go.Proofs.YtpjdmhidhllbkaaDoor
open Go.RowKit Go.IntWalk

theorem Owns.none {w : World} {base : Nat} {v : Value} (h : Owns w base v []) : ∃ r0 c0, v = .slice r0 0 c0 := by
  rcases h.2 with ⟨h1, _⟩ | ⟨g, cap, cur, h1, _⟩
  · exact ⟨_, _, h1⟩
  · exact ⟨_, _, h1⟩
set_option maxHeartbeats 2000000 in
theorem running_walk0 (sa : Option Addr) (sc : Nat) (w : World) (hu : U64At w sa 0 []) (hA : ∀ W, Below w.heap.size w W → Calls Tryd.prog 5 #[] W fun r w' => r = .returned (.bool true) ∧ Below W.heap.size W w') :
    Calls Tryd.prog 3 #[.slice sa 0 sc] w fun r w' => r = .returned (.bool true) ∧ Below w.heap.size w w' := by
  have HA := hid hA
  have HO := hid (Of64_any sa 0 sc [] w hu (by decide))
  have HL : Hid (∀ W, Calls Tryd.prog 10 #[.slice none 0 0] W fun r w' => r = .returned (.float .f64 0) ∧ Below W.heap.size W w') := fun W => Left_any none 0 0 [] (fun x h => by cases h) (by decide) W (.inl ⟨rfl, rfl⟩)
  have HSM := hid (fun (V : World) => same5_any 0 0 V (by decide))
  rw [show canonOf 0 = 0 by decide, beq_self_eq_true] at HSM
  have HOW : Hid (∀ (W : World) (base : Nat) (v : Value), W.ownsRow base 28 1 v 1 [.float .f64 0] → ∃ g5 cap5, v = .slice (some ⟨g5, 0, none⟩) 1 cap5 ∧ (Calls Tryd.prog 10 #[.slice (some ⟨g5, 0, none⟩) 1 cap5] W fun r w' => r = .returned (.float .f64 0) ∧ Below W.heap.size W w') ∧ True) := fun W base v hown => by
    have ho : Owns W base v [0] := hown
    obtain ⟨g5, cap5, rfl, _, hg5, _, _, hc5⟩ := Owns.some ho (by simp)
    have := Left_any _ _ _ [0] (by simp) (by decide) W (owns_flt (cap := cap5) hg5 hc5)
    rw [show sumC [0] = 0 by decide +kernel] at this
    exact ⟨g5, cap5, rfl, this, trivial⟩
  have HAP : Hid (∀ V : World, ∃ v' w5, (Builtin.append_ #[24, 24] 24 #[.slice none 0 0, .slice (some ⟨V.heap.size, 0, none⟩) 1 1]).run Tryd.prog (V.alloc (.cells #[.float .f64 0] 28)) = .ok v' w5 ∧ w5.ownsRow (V.alloc (.cells #[.float .f64 0] 28)).heap.size 28 1 v' 1 [.float .f64 0] ∧ (V.alloc (.cells #[.float .f64 0] 28)).grownBy w5 none) := fun V => by
    obtain ⟨i0, hi, hz0, hz1, hz2⟩ := info_parts info_f
    obtain ⟨v', w', hrun, r1, r2, _⟩ := run_append_own (P := Tryd.prog) (V.alloc (.cells #[.float .f64 0] 28)) (V.alloc (.cells #[.float .f64 0] 28)).heap.size 24 24 28 i0 (.float .f64 0) 1 8 Tryd.underlying24 hi hz0 hz1 hz2 rfl (by decide) (.slice none 0 0) 0 [] (World.ownsRow_nil _ _ 28 1) ⟨V.heap.size, 0, none⟩ 1 1 [.float .f64 0] rfl (fun j u hj => by
      match j, hj with
      | 0, hj => simp at hj; subst hj; simp [Addr.add]) (fun u hu => by simp at hu; subst hu; rfl) (by unfold maxLen; omega) (by omega) (Nat.le_refl _)
    exact ⟨v', w', hrun, r1, r2⟩
  clear hA hu
  go_enter Tryd.func3, Tryd.ntmps3
  go_wp2_with fail
  refine HO.out.mono ?_
  rintro r w1 ⟨v, rfl, _, hv, hb1⟩
  have hv := hv (by trivial)
  subst hv
  have HB1 := hid hb1
  clear hb1
  go_wp2_with fail
  refine (Running_any none 0 0 [] (fun x h => by cases h) rfl (by decide) w1 (.inl ⟨rfl, rfl⟩)).mono ?_
  rintro r w2 ⟨v, rfl, ho, hb2⟩
  obtain ⟨r0, c0, rfl⟩ := Owns.none ho
  have HB2 := hid (HB1.out.trans (hb2.mono HB1.out.size))
  clear ho hb2
  go_wp2_with fail
  refine (rRunning_nil _).mono ?_
  rintro r w3 ⟨rfl, rfl⟩
  go_wp2_with fail
  go_loopw [24] (fun i wr => i = .int .i64 0 ∧ wr = w3) (fun _ _ => 0)
  case atStart => exact ⟨rfl, rfl⟩
  case round =>
    obtain ⟨rfl, rfl⟩ := hrel
    have HKS : Hid (∀ W, Hid (Below wr.heap.size wr W) → True ∧ Hid (Below wr.heap.size wr W)) := fun W hW => ⟨trivial, hW⟩
    have HQ0 : Hid (Below wr.heap.size wr wr.drew) := (Below.refl _ _).drew
    have HAW : Hid (∀ W, Hid (Below wr.heap.size wr W) → Calls Tryd.prog 5 #[] W fun r w' => r = .returned (.bool true) ∧ Below W.heap.size W w') := fun W hW => HA.out W (HB2.out.trans (hW.out.mono HB2.out.size))
    go_wp2_with fail
    refine wp_region_held_drew (S := fun W => True ∧ Hid (Below wr.heap.size wr W)) (by kernel_rfl) (HKS.out _ HQ0) (fun hHeld => ?_)
    -- REGION
    refine take_at 0 38 (.slice r0 0 c0) rfl rfl (by kernel_rfl) (by kernel_rfl) (by kernel_rfl) (fun _ _ _ h => h) (Or.inl ⟨by rfl, fun w hSw => by (try dsimp only at hSw); go_simp⟩) (by assumption) ?_
    simp only [Act.put, List.setIfInBounds_toArray, List.set_cons_zero, List.set_cons_succ]
    refine take_at 1 39 (.int .i64 0) rfl rfl (by kernel_rfl) (by kernel_rfl) (by kernel_rfl) (fun _ _ _ h => h) (Or.inl ⟨by rfl, fun w hSw => by (try dsimp only at hSw); go_simp⟩) (by assumption) ?_
    simp only [Act.put, List.setIfInBounds_toArray, List.set_cons_zero, List.set_cons_succ]
    refine take_at 2 40 (.bool true) rfl rfl (by kernel_rfl) (by kernel_rfl) (by kernel_rfl) (fun _ _ _ h => h) (Or.inl ⟨by rfl, fun w hSw => by (try dsimp only at hSw); go_simp⟩) (by assumption) ?_
    simp only [Act.put, List.setIfInBounds_toArray, List.set_cons_zero, List.set_cons_succ]
    refine take_at 3 41 (.bool true) rfl rfl (by kernel_rfl) (by kernel_rfl) (by kernel_rfl) (fun _ _ _ h => h) (Or.inl ⟨by rfl, fun w hSw => by (try dsimp only at hSw); go_simp⟩) (by assumption) ?_
    simp only [Act.put, List.setIfInBounds_toArray, List.set_cons_zero, List.set_cons_succ]
    refine take_at 4 42 (undef) rfl rfl (by kernel_rfl) (by kernel_rfl) (by kernel_rfl) (fun _ _ _ h => h) (Or.inr ⟨by rfl, rfl⟩) (by assumption) ?_
    simp only [Act.put, List.setIfInBounds_toArray, List.set_cons_zero, List.set_cons_succ]
    refine take_at 5 43 (undef) rfl rfl (by kernel_rfl) (by kernel_rfl) (by kernel_rfl) (fun _ _ _ h => h) (Or.inr ⟨by rfl, rfl⟩) (by assumption) ?_
    simp only [Act.put, List.setIfInBounds_toArray, List.set_cons_zero, List.set_cons_succ]
    refine take_at 6 44 (undef) rfl rfl (by kernel_rfl) (by kernel_rfl) (by kernel_rfl) (fun _ _ _ h => h) (Or.inr ⟨by rfl, rfl⟩) (by assumption) ?_
    simp only [Act.put, List.setIfInBounds_toArray, List.set_cons_zero, List.set_cons_succ]
    refine take_at 7 45 (undef) rfl rfl (by kernel_rfl) (by kernel_rfl) (by kernel_rfl) (fun _ _ _ h => h) (Or.inr ⟨by rfl, rfl⟩) (by assumption) ?_
    simp only [Act.put, List.setIfInBounds_toArray, List.set_cons_zero, List.set_cons_succ]
    refine take_at 8 46 (undef) rfl rfl (by kernel_rfl) (by kernel_rfl) (by kernel_rfl) (fun _ _ _ h => h) (Or.inr ⟨by rfl, rfl⟩) (by assumption) ?_
    simp only [Act.put, List.setIfInBounds_toArray, List.set_cons_zero, List.set_cons_succ]
    refine take_at 9 47 (undef) rfl rfl (by kernel_rfl) (by kernel_rfl) (by kernel_rfl) (fun _ _ _ h => h) (Or.inr ⟨by rfl, rfl⟩) (by assumption) ?_
    simp only [Act.put, List.setIfInBounds_toArray, List.set_cons_zero, List.set_cons_succ]
    refine take_at 10 48 (undef) rfl rfl (by kernel_rfl) (by kernel_rfl) (by kernel_rfl) (fun _ _ _ h => h) (Or.inr ⟨by rfl, rfl⟩) (by assumption) ?_
    simp only [Act.put, List.setIfInBounds_toArray, List.set_cons_zero, List.set_cons_succ]
    refine take_at 11 49 (undef) rfl rfl (by kernel_rfl) (by kernel_rfl) (by kernel_rfl) (fun _ _ _ h => h) (Or.inr ⟨by rfl, rfl⟩) (by assumption) ?_
    simp only [Act.put, List.setIfInBounds_toArray, List.set_cons_zero, List.set_cons_succ]
    refine take_at 12 50 (undef) rfl rfl (by kernel_rfl) (by kernel_rfl) (by kernel_rfl) (fun _ _ _ h => h) (Or.inr ⟨by rfl, rfl⟩) (by assumption) ?_
    simp only [Act.put, List.setIfInBounds_toArray, List.set_cons_zero, List.set_cons_succ]
    refine take_at 13 51 (.bool true) rfl rfl (by kernel_rfl) (by kernel_rfl) (by kernel_rfl) (fun _ _ _ h => h) (Or.inl ⟨by rfl, fun w hSw => by (try dsimp only at hSw); go_simp⟩) (by assumption) ?_
    simp only [Act.put, List.setIfInBounds_toArray, List.set_cons_zero, List.set_cons_succ]
    refine take_at 14 52 (.bool true) rfl rfl (by kernel_rfl) (by kernel_rfl) (by kernel_rfl) (fun _ _ _ h => h) (Or.inl ⟨by rfl, fun w hSw => by (try dsimp only at hSw); go_simp⟩) (by assumption) ?_
    simp only [Act.put, List.setIfInBounds_toArray, List.set_cons_zero, List.set_cons_succ]
    refine take_at 15 53 (.slice none 0 0) rfl rfl (by kernel_rfl) (by kernel_rfl) (by kernel_rfl) (fun _ _ _ h => h) (Or.inl ⟨by rfl, fun w hSw => by (try dsimp only at hSw); go_simp⟩) (by assumption) ?_
    simp only [Act.put, List.setIfInBounds_toArray, List.set_cons_zero, List.set_cons_succ]
    refine take_at 16 54 (.slice none 0 0) rfl rfl (by kernel_rfl) (by kernel_rfl) (by kernel_rfl) (fun _ _ _ h => h) (Or.inl ⟨by rfl, fun w hSw => by (try dsimp only at hSw); go_simp⟩) (by assumption) ?_
    simp only [Act.put, List.setIfInBounds_toArray, List.set_cons_zero, List.set_cons_succ]
    refine take_at 17 55 (.int .i64 0) rfl rfl (by kernel_rfl) (by kernel_rfl) (by kernel_rfl) (fun _ _ _ h => h) (Or.inl ⟨by rfl, fun w hSw => by (try dsimp only at hSw); go_simp⟩) (by assumption) ?_
    simp only [Act.put, List.setIfInBounds_toArray, List.set_cons_zero, List.set_cons_succ]
    refine take_at 18 56 (.slice none 0 0) rfl rfl (by kernel_rfl) (by kernel_rfl) (by kernel_rfl) (fun _ _ _ h => h) (Or.inl ⟨by rfl, fun w hSw => by (try dsimp only at hSw); go_simp⟩) (by assumption) ?_
    simp only [Act.put, List.setIfInBounds_toArray, List.set_cons_zero, List.set_cons_succ]
    refine take_at 19 57 (.int .i64 0) rfl rfl (by kernel_rfl) (by kernel_rfl) (by kernel_rfl) (fun _ _ _ h => h) (Or.inl ⟨by rfl, fun w hSw => by (try dsimp only at hSw); go_simp⟩) (by assumption) ?_
    simp only [Act.put, List.setIfInBounds_toArray, List.set_cons_zero, List.set_cons_succ]
    refine take_at 20 58 (.slice none 0 0) rfl rfl (by kernel_rfl) (by kernel_rfl) (by kernel_rfl) (fun _ _ _ h => h) (Or.inl ⟨by rfl, fun w hSw => by (try dsimp only at hSw); go_simp⟩) (by assumption) ?_
    simp only [Act.put, List.setIfInBounds_toArray, List.set_cons_zero, List.set_cons_succ]
    refine take_at 24 62 (.slice none 0 0) rfl rfl (by kernel_rfl) (by kernel_rfl) (by kernel_rfl) (fun _ _ _ h => h) (Or.inl ⟨by rfl, fun w hSw => by (try dsimp only at hSw); go_simp⟩) (by assumption) ?_
    simp only [Act.put, List.setIfInBounds_toArray, List.set_cons_zero, List.set_cons_succ]
    refine wpAnyH_ready (rs := [21]) (by kernel_rfl) (by simp) ?_
    refine AllReadyH.cons (o := _) rfl (fun K hK => ?_) AllReadyH.nil
    go_simp
    have HF3 : Hid (Below wr.heap.size wr (wr.drew.alloc (.cells #[.float .f64 0] 28))) := HQ0.out.alloc HQ0.out.size _
    go_wp2_with fail
    refine hK.out _ _ (HKS.out _ HF3) (fun hHeld3 => ?_)
    clear hK K
    try simp only [Act.put, List.setIfInBounds_toArray, List.set_cons_zero, List.set_cons_succ]
    obtain ⟨v', w5, hrun, hown5, hgr5⟩ := HAP.out wr.drew
    obtain ⟨g5, cap5, rfl, hl5, hs5⟩ := HOW.out _ _ _ hown5
    have HF5 : Hid (Below wr.heap.size wr w5) := HF3.out.grown hgr5 HF3.out.size (fun k e => by cases e)
    have HL5 := hid hl5
    clear hown5 hgr5 hl5 hs5
    refine wpAnyH_ready (rs := [22]) (by kernel_rfl) (by simp) ?_
    refine AllReadyH.cons (o := _) rfl (fun K hK => ?_) AllReadyH.nil
    refine step_append_fl (by rfl) _ _ rfl _ _ rfl rfl ⟨_, _, _, _, hrun, ?_⟩
    refine hK.out _ _ (HKS.out _ HF5) (fun hHeld4 => ?_)
    clear hK K hrun
    try simp only [Act.put, List.setIfInBounds_toArray]
    refine wpAnyH_ready (rs := [23]) (by kernel_rfl) (by simp) ?_
    refine AllReadyH.cons (o := _) rfl (fun K hK => ?_) AllReadyH.nil
    go_simp
    refine HL5.out.mono ?_
    rintro z v6 ⟨rfl, hbq⟩
    have HF6 : Hid (Below wr.heap.size wr v6) := HF5.out.trans (hbq.mono HF5.out.size)
    clear hbq
    go_wp2_with fail
    refine hK.out _ _ (HKS.out _ HF6) (fun hHeld5 => ?_)
    clear hK K
    try simp only [Act.put, List.setIfInBounds_toArray, List.set_cons_zero, List.set_cons_succ]
    refine wpAnyH_ready (rs := [25]) (by kernel_rfl) (by simp) ?_
    refine AllReadyH.cons (o := _) rfl (fun K hK => ?_) AllReadyH.nil
    go_simp
    refine (HL.out _).mono ?_
    rintro z v7 ⟨rfl, hbq⟩
    have HF7 : Hid (Below wr.heap.size wr v7) := HF6.out.trans (hbq.mono HF6.out.size)
    clear hbq
    go_wp2_with fail
    refine hK.out _ _ (HKS.out _ HF7) (fun hHeld6 => ?_)
    clear hK K
    try simp only [Act.put, List.setIfInBounds_toArray, List.set_cons_zero, List.set_cons_succ]
    refine wpAnyH_ready (rs := [26]) (by kernel_rfl) (by simp) ?_
    refine AllReadyH.cons (o := _) rfl (fun K hK => ?_) AllReadyH.nil
    go_simp
    refine (HSM.out _).mono ?_
    rintro z u7 ⟨rfl, rfl⟩
    go_wp2_with fail
    refine hK.out _ _ (HKS.out _ HF7) (fun hHeld7 => ?_)
    clear hK K
    try simp only [Act.put, List.setIfInBounds_toArray, List.set_cons_zero, List.set_cons_succ]
    refine take_at 27 65 (.bool true) rfl rfl (by kernel_rfl) (by kernel_rfl) (by kernel_rfl) (fun _ _ _ h => h) (Or.inl ⟨by rfl, fun w hSw => by (try dsimp only at hSw); go_simp⟩) (by assumption) ?_
    simp only [Act.put, List.setIfInBounds_toArray, List.set_cons_zero, List.set_cons_succ]
    refine take_at 28 66 (.bool true) rfl rfl (by kernel_rfl) (by kernel_rfl) (by kernel_rfl) (fun _ _ _ h => h) (Or.inl ⟨by rfl, fun w hSw => by (try dsimp only at hSw); go_simp⟩) (by assumption) ?_
    simp only [Act.put, List.setIfInBounds_toArray, List.set_cons_zero, List.set_cons_succ]
    refine wpAnyH_ready (rs := [29]) (by kernel_rfl) (by simp) ?_
    refine AllReadyH.cons (o := _) rfl (fun K hK => ?_) AllReadyH.nil
    go_simp
    refine (HAW.out _ HF7).mono ?_
    rintro z v8 ⟨rfl, hbq⟩
    have HF8 : Hid (Below wr.heap.size wr v8) := HF7.out.trans (hbq.mono HF7.out.size)
    clear hbq
    go_wp2_with fail
    refine hK.out _ _ (HKS.out _ HF8) (fun hHeld8 => ?_)
    clear hK K
    try simp only [Act.put, List.setIfInBounds_toArray, List.set_cons_zero, List.set_cons_succ]
    refine take_at 30 68 (.bool true) rfl rfl (by kernel_rfl) (by kernel_rfl) (by kernel_rfl) (fun _ _ _ h => h) (Or.inl ⟨by rfl, fun w hSw => by (try dsimp only at hSw); go_simp⟩) (by assumption) ?_
    simp only [Act.put, List.setIfInBounds_toArray, List.set_cons_zero, List.set_cons_succ]
    refine take_at 31 2 (.bool true) rfl rfl (by kernel_rfl) (by kernel_rfl) (by kernel_rfl) (fun _ _ _ h => h) (Or.inl ⟨by rfl, fun w hSw => by (try dsimp only at hSw); go_simp⟩) (by assumption) ?_
    simp only [Act.put, List.setIfInBounds_toArray, List.set_cons_zero, List.set_cons_succ]
    refine wpAnyH_done (by kernel_rfl) ?_ _
    -- END
    go_wp2
    go_ret
    exact ⟨rfl, HB2.out.trans (HF8.out.mono HB2.out.size)⟩
theorem srunning_walk (sa : Option Addr) (sn sc : Nat) (xs : List Nat) (w : World) (hu : U64At w sa sn xs) (hn : sn ≤ 17592186043904) (hT : Tab w) (hg : 3 < w.heap.size) (hT3 : Tab32 w) (hs : 2 < w.heap.size) :
    Calls Tryd.prog 3 #[.slice sa sn sc] w fun r w' => r = .returned (.bool true) ∧ Below w.heap.size w w' := by
  have hA : ∀ W, Below w.heap.size w W → Calls Tryd.prog 5 #[] W fun r w' => r = .returned (.bool true) ∧ Below W.heap.size W w' := fun W hW => awake5_any W (hT.below hg hW) (Nat.lt_of_lt_of_le hg hW.size) (hT3.below hs hW) (Nat.lt_of_lt_of_le hs hW.size)
  by_cases h1 : 2000 < sn
  · exact running_long sa sn sc w h1 (hA w (Below.refl _ _))
  · by_cases h0 : sn = 0
    · subst h0
      have hx : xs = [] := List.length_eq_zero_iff.1 hu.1
      subst hx
      exact running_walk0 sa sc w hu hA
    · exact running_walk1 sa sn sc xs w hu h0 (by omega) hA
end Go.Proofs.YtpjdmhidhllbkaaDoor
