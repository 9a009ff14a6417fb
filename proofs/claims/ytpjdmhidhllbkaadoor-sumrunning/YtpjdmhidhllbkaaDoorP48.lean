
/- The law SumRunning: its walk. -/
import Derived.Test.YtpjdmhidhllbkaaDoorP47
import Derived.Test.YtpjdmhidhllbkaaDoorP4
import Derived.Test.YtpjdmhidhllbkaaDoorP45
import Derived.Deep.QuietTactic
import Derived.Deep.RegionHeld3
import Derived.Deep.RegionLawGrows
namespace Go.Proofs.YtpjdmhidhllbkaaDoor
open Go.RowKit Go.IntWalk

theorem natS_beq (a b : Nat) : ((a : Int) == (b : Int)) = (a == b) := by
  rw [Bool.eq_iff_iff, beq_iff_eq, beq_iff_eq]
  omega
set_option maxHeartbeats 400000 in
theorem same5_any (x y : Nat) (w : World) (hy : y < 18446744073709551616) :
    Calls Tryd.prog 9 #[.float .f64 x, .float .f64 y] w fun e w' => e = .returned (.bool (x == canonOf y)) ∧ w' = w := by
  have h1 := f64bits
  go_enter Tryd.func9, Tryd.ntmps9
  go_wp2_with fail
  refine (bits_any y _ hy).mono ?_
  rintro e w' ⟨rfl, rfl⟩
  go_wp2
  go_ret
  exact ⟨ret_boolS (natS_beq _ _), rfl⟩
/-- Numbers of one's own, not none. -/
theorem Owns.some {w : World} {base : Nat} {v : Value} {xs : List Nat} (h : Owns w base v xs) (h0 : xs ≠ []) : ∃ g cap, v = .slice (some ⟨g, 0, none⟩) xs.length cap ∧ base ≤ g ∧ g < w.heap.size ∧ xs.length ≤ cap ∧ cap ≤ maxLen ∧ ∀ i, i < xs.length → w.cell? ⟨g, i, none⟩ = some (.float .f64 (xs.getD i 0)) := by
  have hc := fun g hg => World.ownsRow.cells h (g := g) hg
  rcases h.2 with ⟨_, hn⟩ | ⟨g, cap, cur, rfl, h1, h2, h3, h4, _⟩
  · exact absurd (List.length_eq_zero_iff.1 hn) h0
  · refine ⟨g, cap, rfl, h1, (Array.getElem?_eq_some_iff.1 h2).1, h3, h4, fun i hi => ?_⟩
    have := hc g rfl i (.float .f64 (xs.getD i 0)) (by simp [hi, List.getD])
    have hadd : (⟨g, 0, none⟩ : Addr).add i = ⟨g, i, none⟩ := by unfold Addr.add; split <;> simp_all
    rwa [hadd] at this
set_option maxHeartbeats 1000000 in
theorem running_long (sa : Option Addr) (sn sc : Nat) (w : World) (h : 2000 < sn) (hA : Calls Tryd.prog 5 #[] w fun r w' => r = .returned (.bool true) ∧ Below w.heap.size w w') :
    Calls Tryd.prog 3 #[.slice sa sn sc] w fun r w' => r = .returned (.bool true) ∧ Below w.heap.size w w' := by
  have hI : (2000 : Int) < (sn : Int) := by omega
  have HA := hid hA
  clear h hA
  go_enter Tryd.func3, Tryd.ntmps3
  go_wp2_with fail
  refine HA.out.mono ?_
  rintro r w1 ⟨rfl, hb⟩
  go_wp2
  go_ret
  exact ⟨rfl, hb⟩
theorem owns_flt {w : World} {g cap : Nat} {xs : List Nat} (hg : g < w.heap.size) (hc : ∀ i, i < xs.length → w.cell? ⟨g, i, none⟩ = some (.float .f64 (xs.getD i 0))) : FltAt w.heap.size w (.slice (some ⟨g, 0, none⟩) xs.length cap) xs :=
  .inr ⟨g, 0, cap, rfl, hg, fun j hj => by rw [Nat.zero_add]; exact hc j hj⟩
theorem step_append_fl {ops : Array Oper} {o : Oper} {a : Act} {w : World} {K : Act → World → Prop} {Q : Exit → Act → World → Prop} {E : Prop}
    (hw : Region.wanted o (yielded ops a.tmps) = true) (s x : Operand) (hop : o.op = Op.call { callee := Callee.builtin Builtin.append, args := #[s, x], argTypes := #[24, 24] })
    (sv xv : Value) (hs : a.eval s = sv) (hx : a.eval x = xv)
    (hr : ∃ a' k' cap' w', (Builtin.append_ #[24, 24] o.type #[sv, xv]).run Tryd.prog w = .ok (.slice a' k' cap') w' ∧ K (a.put o.dst (.slice a' k' cap')) w') :
    if Region.wanted o (yielded ops a.tmps) = true then Oper.wp Tryd.prog o a w K Q else E := by
  rw [if_pos hw]
  obtain ⟨a', k', cap', w', hrun, hK⟩ := hr
  unfold Oper.wp
  simp [execOp, hop, resolve, invoke, builtin, hs, hx, hrun, Result.andThen]
  exact hK
theorem runs_get (xs : List Nat) (n j : Nat) (h : j < n) : (runs xs n).getD j 0 = sumC (xs.take (j + 1)) := by
  unfold runs
  rw [List.getD_eq_getElem?_getD, List.getElem?_map, List.getElem?_range h]
  rfl
set_option maxHeartbeats 2000000 in
theorem running_walk1 (sa : Option Addr) (N sc : Nat) (xs : List Nat) (w : World) (hu : U64At w sa N xs) (h0 : N ≠ 0) (h : N ≤ 2000) (hA : ∀ W, Below w.heap.size w W → Calls Tryd.prog 5 #[] W fun r w' => r = .returned (.bool true) ∧ Below W.heap.size W w') :
    Calls Tryd.prog 3 #[.slice sa N sc] w fun r w' => r = .returned (.bool true) ∧ Below w.heap.size w w' := by
  have HA := hid hA
  have HO := hid (Of64_any sa N sc xs w hu (by omega))
  have HX := hid hu.2.1
  have HLN := hid hu.1
  have hne : xs ≠ [] := fun c => h0 (by rw [← hu.1, c]; rfl)
  have HNE := hid hne
  have HRL : Hid (∀ k, (runs xs k).length = k) := runs_length xs
  have HRN : Hid (runs xs N ≠ []) := fun c => h0 (by rw [← runs_length xs N, c]; rfl)
  have hnI : (N : Int) ≤ 2000 := by omega
  clear hA hu hne
  go_enter Tryd.func3, Tryd.ntmps3
  go_wp2_with fail
  refine HO.out.mono ?_
  rintro r w1 ⟨v, rfl, ho, _, hb1⟩
  obtain ⟨g, cap, rfl, _, hg, hcap, hcap2, hcg⟩ := Owns.some ho HNE.out
  have HB1 := hid hb1
  have HG : Hid (∀ W, Below w1.heap.size w1 W → g < W.heap.size ∧ ∀ i, i < xs.length → W.cell? ⟨g, i, none⟩ = some (.float .f64 (xs.getD i 0))) := fun W hW => ⟨Nat.lt_of_lt_of_le hg hW.size, fun i hi => (hW.cell (p := ⟨g, i, none⟩) hg).trans (hcg i hi)⟩
  have HFL : Hid (∀ W, Below w1.heap.size w1 W → FltAt W.heap.size W (.slice (some ⟨g, 0, none⟩) N cap) xs) := fun W hW => by
    rw [← HLN.out]
    exact owns_flt (HG.out W hW).1 (HG.out W hW).2
  rw [HLN.out] at hcap ⊢
  clear ho hb1 hcg
  go_wp2_with fail
  refine (Running_any _ N cap xs HX.out HLN.out (by omega) w1 (HFL.out _ (Below.refl _ _))).mono ?_
  rintro r w2 ⟨v, rfl, ho, hb2⟩
  obtain ⟨g2, cap2, rfl, _, hg2, hcap3, hcap4, hcg2⟩ := Owns.some ho HRN.out
  have HB2 := hid hb2
  rw [HRL.out] at hcap3 hcg2 ⊢
  clear ho hb2
  have HC2 := hid hcg2
  have HG2 := hid hg2
  clear hcg2 hg2
  go_wp2_with fail
  have hrr := rRunning_some g 0 cap xs HX.out (by rw [HLN.out]; omega) (by rw [HLN.out]; exact hcap) w2 (HG.out _ HB2.out).1 (fun j hj => by rw [Nat.zero_add]; exact (HG.out _ HB2.out).2 j hj)
  rw [HLN.out] at hrr
  refine hrr.mono ?_
  clear hrr
  rintro r w3 ⟨v, rfl, ho, hb3⟩
  obtain ⟨g3, cap3, rfl, _, hg3, hcap5, hcap6, hcg3⟩ := Owns.some ho HRN.out
  have HB3 := hid (HB2.out.trans (hb3.mono HB2.out.size))
  have HC2 : Hid (∀ W, Below w3.heap.size w3 W → ∀ i, i < N → W.cell? ⟨g2, i, none⟩ = some (.float .f64 ((runs xs N).getD i 0))) := fun W hW i hi => by
    rw [hW.cell (p := ⟨g2, i, none⟩) (Nat.lt_of_lt_of_le HG2.out hb3.size), hb3.cell (p := ⟨g2, i, none⟩) HG2.out]
    exact HC2.out i hi
  rw [HRL.out] at hcap5 hcg3 ⊢
  have HC3 : Hid (∀ W, Below w3.heap.size w3 W → ∀ i, i < N → W.cell? ⟨g3, i, none⟩ = some (.float .f64 ((runs xs N).getD i 0))) := fun W hW i hi => (hW.cell (p := ⟨g3, i, none⟩) hg3).trans (hcg3 i hi)
  clear ho hb3 hcg3 hg3
  have hnn : ((N : Int) != (N : Int)) = false := by simp
  go_wp2_with fail
  go_loopw [24] (fun i wr => ∃ k : Nat, k ≤ N ∧ i = .int .i64 k ∧ Hid (Below w3.heap.size w3 wr)) (fun i _ => N - (intOf i).toNat)
  case atStart => exact ⟨0, Nat.zero_le _, rfl, Below.refl _ _⟩
  case round =>
    obtain ⟨k, hk, rfl, HB⟩ := hrel
    by_cases hlt : k < N
    · have h2 := HC2.out wr HB.out k hlt
      have h3 := HC3.out wr HB.out k hlt
      rw [runs_get xs N k hlt] at h2 h3
      have HSM := hid (fun (V : World) => same5_any (sumC (xs.take (k + 1))) (sumC (xs.take (k + 1))) V (sumC_lt _))
      rw [sumC_can, beq_self_eq_true] at HSM
      obtain ⟨S, hS⟩ : ∃ S, Hid (sumC (xs.take (k + 1)) = S) := ⟨_, rfl⟩
      rw [hS.out] at h2 h3 HSM
      have hkI : (k : Int) < (N : Int) := by omega
      have hk0 : (0 : Int) ≤ (k : Int) := by omega
      go_wp2_with fail
      go_quiet (first | (go_at_call 9; exact Calls.quiet_of_same (HSM.out _)))
      go_wp2_with fail
      refine ⟨⟨k + 1, by omega, by go_num, ?_⟩, ?_⟩
      · exact ⟨HB.out.os, HB.out.tape, HB.out.output, HB.out.size, HB.out.block⟩
      · simp [intOf]; omega
    · obtain rfl : N = k := by omega
      obtain ⟨M, hM⟩ : ∃ M : Nat, N = M + 1 := ⟨N - 1, by omega⟩
      have hM2 : (N : Int) - 1 = (M : Int) := by omega
      have hM1 : IntKind.i64.wrap ((N : Int) - 1) = (M : Int) := by rw [IntWalk.i64_in _ (by omega)]; exact hM2
      have hM3 : IntKind.i64.wrap (M : Int) = (M : Int) := by rw [IntWalk.i64_in _ (by omega)]
      have hM4 : (M : Int) < (N : Int) := by omega
      have hM5 : (0 : Int) ≤ (M : Int) := by omega
      have hM6 : M < N := by omega
      have hN0 : ((N : Int) == 0) = false := by simp; omega
      have hRG : (runs xs N).getD M 0 = sumC xs := by rw [runs_get xs N M hM6, ← hM, ← HLN.out, List.take_length]
      have HBW : Hid (∀ W, Hid (Below w3.heap.size w3 W) → Below w1.heap.size w1 W) := fun W hW => HB3.out.trans (hW.out.mono HB3.out.size)
      have HL : Hid (∀ W, Hid (Below w3.heap.size w3 W) → Calls Tryd.prog 10 #[.slice (some ⟨g, 0, none⟩) N cap] W fun r w' => r = .returned (.float .f64 (sumC xs)) ∧ Below W.heap.size W w') := fun W hW => Left_any _ N cap xs HX.out (by rw [HLN.out]; omega) W (HFL.out W (HBW.out W hW))
      have HAW : Hid (∀ W, Hid (Below w3.heap.size w3 W) → Calls Tryd.prog 5 #[] W fun r w' => r = .returned (.bool true) ∧ Below W.heap.size W w') := fun W hW => HA.out W (HB1.out.trans ((HBW.out W hW).mono HB1.out.size))
      have HSM := hid (fun (V : World) => same5_any (sumC xs) (sumC xs) V (sumC_lt _))
      rw [sumC_can, beq_self_eq_true] at HSM
      have HOW : Hid (∀ (W : World) (base : Nat) (v : Value), W.ownsRow base 28 1 v (N + 1) (xs.map (Value.float .f64) ++ [.float .f64 0]) → ∃ g5 cap5, v = .slice (some ⟨g5, 0, none⟩) (N + 1) cap5 ∧ (Calls Tryd.prog 10 #[.slice (some ⟨g5, 0, none⟩) (N + 1) cap5] W fun r w' => r = .returned (.float .f64 (sumC xs)) ∧ Below W.heap.size W w') ∧ True) := fun W base v hown => by
        have ho : Owns W base v (xs ++ [0]) := by
          show W.ownsRow _ _ _ _ _ _
          rw [List.length_append, List.map_append, HLN.out]
          exact hown
        have hlen : (xs ++ [0]).length = N + 1 := by rw [List.length_append, HLN.out]; rfl
        obtain ⟨g5, cap5, rfl, _, hg5, _, _, hc5⟩ := Owns.some ho (by simp)
        have hx5 : ∀ x ∈ xs ++ [0], x < 18446744073709551616 := fun x hx => by
          rcases List.mem_append.1 hx with h | h
          · exact HX.out x h
          · simp at h; subst h; decide
        have := Left_any _ _ _ (xs ++ [0]) hx5 (by rw [hlen]; omega) W (owns_flt (cap := cap5) hg5 hc5)
        rw [hlen, sumC_zero xs HX.out] at this
        rw [hlen]
        exact ⟨g5, cap5, rfl, this, trivial⟩
      have HAP : Hid (∀ V : World, Hid (Below w3.heap.size w3 V) → ∃ v' w5, (Builtin.append_ #[24, 24] 24 #[.slice (some ⟨g, 0, none⟩) N N, .slice (some ⟨V.heap.size, 0, none⟩) 1 1]).run Tryd.prog (V.alloc (.cells #[.float .f64 0] 28)) = .ok v' w5 ∧ w5.ownsRow (V.alloc (.cells #[.float .f64 0] 28)).heap.size 28 1 v' (N + 1) (xs.map (Value.float .f64) ++ [.float .f64 0]) ∧ (V.alloc (.cells #[.float .f64 0] 28)).grownBy w5 none) := fun V hV => by
        obtain ⟨i0, hi, hz0, hz1, hz2⟩ := info_parts info_f
        have hgW := HG.out _ ((HBW.out V hV).alloc (HBW.out V hV).size (.cells #[.float .f64 0] 28))
        refine run_append_arg_grows (V.alloc (.cells #[.float .f64 0] 28)) 24 24 28 i0 (.float .f64 0) 1 8 Tryd.underlying24 hi hz0 hz1 hz2 rfl (by decide) ⟨g, 0, none⟩ N N (xs.map (Value.float .f64)) (by rw [List.length_map, HLN.out]; omega) (fun j u hj => ?_) ⟨V.heap.size, 0, none⟩ 1 1 [.float .f64 0] rfl (fun j u hj => ?_) (by omega) (by unfold maxLen; omega) (by omega)
        · have hadd : (⟨g, 0, none⟩ : Addr).add j = ⟨g, j, none⟩ := by unfold Addr.add; split <;> simp_all
          rw [hadd]
          have hj2 : j < xs.length := by
            have := (List.getElem?_eq_some_iff.1 hj).1
            simpa using this
          rw [hgW.2 j hj2]
          rw [List.getElem?_map, List.getElem?_eq_getElem hj2] at hj
          rw [List.getD_eq_getElem?_getD, List.getElem?_eq_getElem hj2]
          exact hj
        · match j, hj with
          | 0, hj => simp at hj; subst hj; simp [Addr.add]
      obtain ⟨S, hS⟩ : ∃ S, Hid (sumC xs = S) := ⟨_, rfl⟩
      rw [hS.out] at HL HSM HOW hRG
      have HKS : Hid (∀ W, Hid (Below w3.heap.size w3 W) → W.cell? ⟨g2, M, none⟩ = some (.float .f64 S) ∧ Hid (Below w3.heap.size w3 W)) := fun W hW => ⟨by rw [HC2.out W hW.out M hM6, hRG], hW⟩
      have HQ0 : Hid (Below w3.heap.size w3 wr.drew) := HB.out.drew
      have HBE : Hid (∀ W, Hid (Below w3.heap.size w3 W) → Below w.heap.size w W) := fun W hW => HB1.out.trans ((HBW.out W hW).mono HB1.out.size)
      have HM := hid hM
      clear hM hRG
      go_wp2_with fail
      refine wp_region_held_drew (S := fun W => W.cell? ⟨g2, M, none⟩ = some (.float .f64 S) ∧ Hid (Below w3.heap.size w3 W)) (by kernel_rfl) (HKS.out _ HQ0) (fun hHeld => ?_)
      -- REGION
      refine take_at 0 38 (.slice (some ⟨g2, 0, none⟩) N cap2) rfl rfl (by kernel_rfl) (by kernel_rfl) (by kernel_rfl) (fun _ _ _ h => h) (Or.inl ⟨by rfl, fun w hSw => by (try dsimp only at hSw); go_simp⟩) (by assumption) ?_
      simp only [Act.put, List.setIfInBounds_toArray, List.set_cons_zero, List.set_cons_succ]
      refine take_at 1 39 (.int .i64 N) rfl rfl (by kernel_rfl) (by kernel_rfl) (by kernel_rfl) (fun _ _ _ h => h) (Or.inl ⟨by rfl, fun w hSw => by (try dsimp only at hSw); go_simp⟩) (by assumption) ?_
      simp only [Act.put, List.setIfInBounds_toArray, List.set_cons_zero, List.set_cons_succ]
      refine take_at 2 40 (.bool false) rfl rfl (by kernel_rfl) (by kernel_rfl) (by kernel_rfl) (fun _ _ _ h => h) (Or.inl ⟨by rfl, fun w hSw => by (try dsimp only at hSw); go_simp⟩) (by assumption) ?_
      simp only [Act.put, List.setIfInBounds_toArray, List.set_cons_zero, List.set_cons_succ]
      refine take_at 3 41 (.bool false) rfl rfl (by kernel_rfl) (by kernel_rfl) (by kernel_rfl) (fun _ _ _ h => h) (Or.inl ⟨by rfl, fun w hSw => by (try dsimp only at hSw); go_simp⟩) (by assumption) ?_
      simp only [Act.put, List.setIfInBounds_toArray, List.set_cons_zero, List.set_cons_succ]
      refine take_at 4 42 (.slice (some ⟨g2, 0, none⟩) N cap2) rfl rfl (by kernel_rfl) (by kernel_rfl) (by kernel_rfl) (fun _ _ _ h => h) (Or.inl ⟨by rfl, fun w hSw => by (try dsimp only at hSw); go_simp⟩) (by assumption) ?_
      simp only [Act.put, List.setIfInBounds_toArray, List.set_cons_zero, List.set_cons_succ]
      refine take_at 5 43 (.slice (some ⟨g2, 0, none⟩) N cap2) rfl rfl (by kernel_rfl) (by kernel_rfl) (by kernel_rfl) (fun _ _ _ h => h) (Or.inl ⟨by rfl, fun w hSw => by (try dsimp only at hSw); go_simp⟩) (by assumption) ?_
      simp only [Act.put, List.setIfInBounds_toArray, List.set_cons_zero, List.set_cons_succ]
      refine take_at 6 44 (.int .i64 N) rfl rfl (by kernel_rfl) (by kernel_rfl) (by kernel_rfl) (fun _ _ _ h => h) (Or.inl ⟨by rfl, fun w hSw => by (try dsimp only at hSw); go_simp⟩) (by assumption) ?_
      simp only [Act.put, List.setIfInBounds_toArray, List.set_cons_zero, List.set_cons_succ]
      refine take_at 7 45 (.int .i64 M) rfl rfl (by kernel_rfl) (by kernel_rfl) (by kernel_rfl) (fun _ _ _ h => h) (Or.inl ⟨by rfl, fun w hSw => by (try dsimp only at hSw); go_simp⟩) (by assumption) ?_
      simp only [Act.put, List.setIfInBounds_toArray, List.set_cons_zero, List.set_cons_succ]
      refine take_at 8 46 (.pointer (some ⟨g2, M, none⟩)) rfl rfl (by kernel_rfl) (by kernel_rfl) (by kernel_rfl) (fun _ _ _ h => h) (Or.inl ⟨by rfl, fun w hSw => by (try dsimp only at hSw); go_simp⟩) (by assumption) ?_
      simp only [Act.put, List.setIfInBounds_toArray, List.set_cons_zero, List.set_cons_succ]
      refine take_at 9 47 (.float .f64 S) rfl rfl (by kernel_rfl) (by kernel_rfl) (by kernel_rfl) (fun _ _ _ h => h) (Or.inl ⟨by rfl, fun w hSw => by (try dsimp only at hSw); go_simp⟩) (by assumption) ?_
      simp only [Act.put, List.setIfInBounds_toArray, List.set_cons_zero, List.set_cons_succ]
      refine take_at 10 48 (.slice (some ⟨g, 0, none⟩) N cap) rfl rfl (by kernel_rfl) (by kernel_rfl) (by kernel_rfl) (fun _ _ _ h => h) (Or.inl ⟨by rfl, fun w hSw => by (try dsimp only at hSw); go_simp⟩) (by assumption) ?_
      simp only [Act.put, List.setIfInBounds_toArray, List.set_cons_zero, List.set_cons_succ]
      refine wpAnyH_ready (rs := [11]) (by kernel_rfl) (by simp) ?_
      refine AllReadyH.cons (o := _) rfl (fun K hK => ?_) AllReadyH.nil
      go_simp
      refine (HL.out _ HQ0).mono ?_
      rintro z v1 ⟨rfl, hbq⟩
      have HF1 : Hid (Below w3.heap.size w3 v1) := HQ0.out.trans (hbq.mono HQ0.out.size)
      clear hbq
      go_wp2_with fail
      refine hK.out _ _ (HKS.out _ HF1) (fun hHeld1 => ?_)
      clear hK K
      try simp only [Act.put, List.setIfInBounds_toArray, List.set_cons_zero, List.set_cons_succ]
      refine wpAnyH_ready (rs := [12]) (by kernel_rfl) (by simp) ?_
      refine AllReadyH.cons (o := _) rfl (fun K hK => ?_) AllReadyH.nil
      go_simp
      refine (HSM.out _).mono ?_
      rintro z u1 ⟨rfl, rfl⟩
      go_wp2_with fail
      refine hK.out _ _ (HKS.out _ HF1) (fun hHeld2 => ?_)
      clear hK K
      try simp only [Act.put, List.setIfInBounds_toArray, List.set_cons_zero, List.set_cons_succ]
      refine take_at 13 51 (.bool true) rfl rfl (by kernel_rfl) (by kernel_rfl) (by kernel_rfl) (fun _ _ _ h => h) (Or.inl ⟨by rfl, fun w hSw => by (try dsimp only at hSw); go_simp⟩) (by assumption) ?_
      simp only [Act.put, List.setIfInBounds_toArray, List.set_cons_zero, List.set_cons_succ]
      refine take_at 14 52 (.bool true) rfl rfl (by kernel_rfl) (by kernel_rfl) (by kernel_rfl) (fun _ _ _ h => h) (Or.inl ⟨by rfl, fun w hSw => by (try dsimp only at hSw); go_simp⟩) (by assumption) ?_
      simp only [Act.put, List.setIfInBounds_toArray, List.set_cons_zero, List.set_cons_succ]
      refine take_at 15 53 (.slice (some ⟨g, 0, none⟩) N cap) rfl rfl (by kernel_rfl) (by kernel_rfl) (by kernel_rfl) (fun _ _ _ h => h) (Or.inl ⟨by rfl, fun w hSw => by (try dsimp only at hSw); go_simp⟩) (by assumption) ?_
      simp only [Act.put, List.setIfInBounds_toArray, List.set_cons_zero, List.set_cons_succ]
      refine take_at 16 54 (.slice (some ⟨g, 0, none⟩) N cap) rfl rfl (by kernel_rfl) (by kernel_rfl) (by kernel_rfl) (fun _ _ _ h => h) (Or.inl ⟨by rfl, fun w hSw => by (try dsimp only at hSw); go_simp⟩) (by assumption) ?_
      simp only [Act.put, List.setIfInBounds_toArray, List.set_cons_zero, List.set_cons_succ]
      refine take_at 17 55 (.int .i64 N) rfl rfl (by kernel_rfl) (by kernel_rfl) (by kernel_rfl) (fun _ _ _ h => h) (Or.inl ⟨by rfl, fun w hSw => by (try dsimp only at hSw); go_simp⟩) (by assumption) ?_
      simp only [Act.put, List.setIfInBounds_toArray, List.set_cons_zero, List.set_cons_succ]
      refine take_at 18 56 (.slice (some ⟨g, 0, none⟩) N cap) rfl rfl (by kernel_rfl) (by kernel_rfl) (by kernel_rfl) (fun _ _ _ h => h) (Or.inl ⟨by rfl, fun w hSw => by (try dsimp only at hSw); go_simp⟩) (by assumption) ?_
      simp only [Act.put, List.setIfInBounds_toArray, List.set_cons_zero, List.set_cons_succ]
      refine take_at 19 57 (.int .i64 N) rfl rfl (by kernel_rfl) (by kernel_rfl) (by kernel_rfl) (fun _ _ _ h => h) (Or.inl ⟨by rfl, fun w hSw => by (try dsimp only at hSw); go_simp⟩) (by assumption) ?_
      simp only [Act.put, List.setIfInBounds_toArray, List.set_cons_zero, List.set_cons_succ]
      refine take_at 20 58 (.slice (some ⟨g, 0, none⟩) N N) rfl rfl (by kernel_rfl) (by kernel_rfl) (by kernel_rfl) (fun _ _ _ h => h) (Or.inl ⟨by rfl, fun w hSw => by (try dsimp only at hSw); go_simp⟩) (by assumption) ?_
      simp only [Act.put, List.setIfInBounds_toArray, List.set_cons_zero, List.set_cons_succ]
      refine take_at 24 62 (.slice (some ⟨g, 0, none⟩) N cap) rfl rfl (by kernel_rfl) (by kernel_rfl) (by kernel_rfl) (fun _ _ _ h => h) (Or.inl ⟨by rfl, fun w hSw => by (try dsimp only at hSw); go_simp⟩) (by assumption) ?_
      simp only [Act.put, List.setIfInBounds_toArray, List.set_cons_zero, List.set_cons_succ]
      refine wpAnyH_ready (rs := [21]) (by kernel_rfl) (by simp) ?_
      refine AllReadyH.cons (o := _) rfl (fun K hK => ?_) AllReadyH.nil
      go_simp
      have HF3 : Hid (Below w3.heap.size w3 (u1.alloc (.cells #[.float .f64 0] 28))) := HF1.out.alloc HF1.out.size _
      go_wp2_with fail
      refine hK.out _ _ (HKS.out _ HF3) (fun hHeld3 => ?_)
      clear hK K
      try simp only [Act.put, List.setIfInBounds_toArray, List.set_cons_zero, List.set_cons_succ]
      obtain ⟨v', w5, hrun, hown5, hgr5⟩ := HAP.out u1 HF1
      obtain ⟨g5, cap5, rfl, hl5, hs5⟩ := HOW.out _ _ _ hown5
      have HF5 : Hid (Below w3.heap.size w3 w5) := HF3.out.grown hgr5 HF3.out.size (fun k e => by cases e)
      have HL5 := hid hl5
      clear hown5 hgr5 hl5 hs5
      refine wpAnyH_ready (rs := [22]) (by kernel_rfl) (by simp) ?_
      refine AllReadyH.cons (o := _) rfl (fun K hK => ?_) AllReadyH.nil
      refine step_append_fl (by rfl) _ _ rfl _ _ rfl rfl ⟨_, _, _, _, hrun, ?_⟩
      refine hK.out _ _ (HKS.out _ HF5) (fun hHeld4 => ?_)
      clear hK K hrun
      try simp only [Act.put, List.setIfInBounds_toArray]
      refine wpAnyH_ready (rs := [23]) (by kernel_rfl) (by simp) ?_
      refine AllReadyH.cons (o := _) rfl (fun K hK => ?_) AllReadyH.nil
      go_simp
      refine HL5.out.mono ?_
      rintro z v6 ⟨rfl, hbq⟩
      have HF6 : Hid (Below w3.heap.size w3 v6) := HF5.out.trans (hbq.mono HF5.out.size)
      clear hbq
      go_wp2_with fail
      refine hK.out _ _ (HKS.out _ HF6) (fun hHeld5 => ?_)
      clear hK K
      try simp only [Act.put, List.setIfInBounds_toArray, List.set_cons_zero, List.set_cons_succ]
      refine wpAnyH_ready (rs := [25]) (by kernel_rfl) (by simp) ?_
      refine AllReadyH.cons (o := _) rfl (fun K hK => ?_) AllReadyH.nil
      go_simp
      refine (HL.out _ HF6).mono ?_
      rintro z v7 ⟨rfl, hbq⟩
      have HF7 : Hid (Below w3.heap.size w3 v7) := HF6.out.trans (hbq.mono HF6.out.size)
      clear hbq
      go_wp2_with fail
      refine hK.out _ _ (HKS.out _ HF7) (fun hHeld6 => ?_)
      clear hK K
      try simp only [Act.put, List.setIfInBounds_toArray, List.set_cons_zero, List.set_cons_succ]
      refine wpAnyH_ready (rs := [26]) (by kernel_rfl) (by simp) ?_
      refine AllReadyH.cons (o := _) rfl (fun K hK => ?_) AllReadyH.nil
      go_simp
      refine (HSM.out _).mono ?_
      rintro z u7 ⟨rfl, rfl⟩
      go_wp2_with fail
      refine hK.out _ _ (HKS.out _ HF7) (fun hHeld7 => ?_)
      clear hK K
      try simp only [Act.put, List.setIfInBounds_toArray, List.set_cons_zero, List.set_cons_succ]
      refine take_at 27 65 (.bool true) rfl rfl (by kernel_rfl) (by kernel_rfl) (by kernel_rfl) (fun _ _ _ h => h) (Or.inl ⟨by rfl, fun w hSw => by (try dsimp only at hSw); go_simp⟩) (by assumption) ?_
      simp only [Act.put, List.setIfInBounds_toArray, List.set_cons_zero, List.set_cons_succ]
      refine take_at 28 66 (.bool true) rfl rfl (by kernel_rfl) (by kernel_rfl) (by kernel_rfl) (fun _ _ _ h => h) (Or.inl ⟨by rfl, fun w hSw => by (try dsimp only at hSw); go_simp⟩) (by assumption) ?_
      simp only [Act.put, List.setIfInBounds_toArray, List.set_cons_zero, List.set_cons_succ]
      refine wpAnyH_ready (rs := [29]) (by kernel_rfl) (by simp) ?_
      refine AllReadyH.cons (o := _) rfl (fun K hK => ?_) AllReadyH.nil
      go_simp
      refine (HAW.out _ HF7).mono ?_
      rintro z v8 ⟨rfl, hbq⟩
      have HF8 : Hid (Below w3.heap.size w3 v8) := HF7.out.trans (hbq.mono HF7.out.size)
      clear hbq
      go_wp2_with fail
      refine hK.out _ _ (HKS.out _ HF8) (fun hHeld8 => ?_)
      clear hK K
      try simp only [Act.put, List.setIfInBounds_toArray, List.set_cons_zero, List.set_cons_succ]
      refine take_at 30 68 (.bool true) rfl rfl (by kernel_rfl) (by kernel_rfl) (by kernel_rfl) (fun _ _ _ h => h) (Or.inl ⟨by rfl, fun w hSw => by (try dsimp only at hSw); go_simp⟩) (by assumption) ?_
      simp only [Act.put, List.setIfInBounds_toArray, List.set_cons_zero, List.set_cons_succ]
      refine take_at 31 2 (.bool true) rfl rfl (by kernel_rfl) (by kernel_rfl) (by kernel_rfl) (fun _ _ _ h => h) (Or.inl ⟨by rfl, fun w hSw => by (try dsimp only at hSw); go_simp⟩) (by assumption) ?_
      simp only [Act.put, List.setIfInBounds_toArray, List.set_cons_zero, List.set_cons_succ]
      refine wpAnyH_done (by kernel_rfl) ?_ _
      -- END
      go_wp2
      go_ret
      exact ⟨rfl, HBE.out _ HF8⟩
end Go.Proofs.YtpjdmhidhllbkaaDoor
