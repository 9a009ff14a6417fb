
/- The law IntervalSets: its walk. -/
import Derived.Test.YtdahhpimhmloiaaDoorP19
namespace Go.Proofs.YtdahhpimhmloiaaDoor
open Go.RowKit Go.IntWalk

set_option maxRecDepth 8000 in
set_option maxHeartbeats 40000000 in
theorem sets_law (a b c d e f : Nat) (w : World) (ha : a < 18446744073709551616) (hb : b < 18446744073709551616) (hc : c < 18446744073709551616) (hd : d < 18446744073709551616) (he : e < 18446744073709551616) (hf : f < 18446744073709551616) (hA : ∀ W, Below w.heap.size w W → Calls Tryd.prog 6 #[] W fun r w' => r = .returned (.bool true) ∧ Below W.heap.size W w') : Calls Tryd.prog 3 #[.agg #[.int .u64 a, .int .u64 b], .agg #[.int .u64 c, .int .u64 d], .agg #[.int .u64 e, .int .u64 f]] w fun r w' => r = .returned (.bool true) ∧ Below w.heap.size w w' := by
  obtain ⟨g1, g2, g3⟩ := iblk3 w (.cells #[.int .u64 a, .int .u64 b] 24) (.cells #[.int .u64 c, .int .u64 d] 24) (.cells #[.int .u64 e, .int .u64 f] 24)
  have HB0 : Hid (Below w.heap.size w (((w.alloc (.cells #[.int .u64 a, .int .u64 b] 24)).alloc (.cells #[.int .u64 c, .int .u64 d] 24)).alloc (.cells #[.int .u64 e, .int .u64 f] 24))) := (((Below.refl _ _).alloc (Nat.le_refl _) _).alloc (by simp) _).alloc (by simp; omega) _
  obtain ⟨W0, hW0⟩ : ∃ V, Hid (((w.alloc (.cells #[.int .u64 a, .int .u64 b] 24)).alloc (.cells #[.int .u64 c, .int .u64 d] 24)).alloc (.cells #[.int .u64 e, .int .u64 f] 24) = V) := ⟨_, rfl⟩
  rw [hW0.out] at HB0 g1 g2 g3
  have HC : Hid (∀ W, Hid (Below W0.heap.size W0 W) → C3 W w.heap.size (w.heap.size + 1) (w.heap.size + 1 + 1) (.int .u64 a) (.int .u64 b) (.int .u64 c) (.int .u64 d) (.int .u64 e) (.int .u64 f) ∧ Hid (Below W0.heap.size W0 W)) := fun W hW => ⟨c3_of g1 g2 g3 hW.out, hW⟩
  have HA := hid (hA W0 HB0.out)
  have HO : Hid (∀ (x y : Nat) W, Hid (Below W0.heap.size W0 W) → Calls Tryd.prog 7 #[.agg #[.int .u64 x, .int .u64 y]] W fun r w' => r = .returned (.agg #[.float .f64 x, .float .f64 y]) ∧ ((∀ b o, b < W.heap.size → w'.cell? ⟨b, o, none⟩ = W.cell? ⟨b, o, none⟩) ∧ (∀ b o, b < W.heap.size → w'.frozen? ⟨b, o, none⟩ = W.frozen? ⟨b, o, none⟩)) ∧ Hid (Below W0.heap.size W0 w') ∧ w'.heap.size = W.heap.size + 2) := fun x y W hW => by
    refine (of6_any x y W).mono ?_
    rintro r w' ⟨rfl, h, hz⟩
    have h' : Below W0.heap.size W0 w' := hW.out.trans (h.mono hW.out.size)
    exact ⟨rfl, bcell h, h', hz⟩
  have hst := fstore
  have hW0' := hW0.out
  have HC0 : Hid (W0.heap.size ≤ W0.heap.size) := Nat.le_refl _
  unfold C3 at HC
  have hE1 : E2 a b := ⟨ha, hb⟩
  have hEc : E2 c d := ⟨hc, hd⟩
  have hEe : E2 e f := ⟨he, hf⟩
  clear ha hb hc hd he hf hA g1 g2 g3
  go_enter Tryd.func3, Tryd.ntmps3
  go_wp2_with fail
  refine HA.out.mono ?_
  rintro r w1 ⟨rfl, hb1⟩
  obtain ⟨⟨⟨y0, y1⟩, ⟨y2, y3⟩, y4, y5⟩, HF1⟩ := HC.out w1 hb1
  have hs1 := hb1.size
  clear hb1
  go_wp2_with fail
  have HQ0 : Hid (Below W0.heap.size W0 w1.drew) := HF1.out.drew
  rename_i K hK
  have HK := hid hK
  clear hK
  refine region_merge2 (fun a0 a' w' => ∃ p q r, a' = Act.put (Act.put (Act.put (Act.put (Act.put (Act.put (Act.put (Act.put (Act.put a0 (some 14) (.agg #[.int .u64 a, .int .u64 b])) (some 15) (.agg #[.float .f64 a, .float .f64 b])) (some 16) (.agg #[.int .u64 c, .int .u64 d])) (some 17) (.agg #[.float .f64 c, .float .f64 d])) (some 18) (.agg #[.int .u64 e, .int .u64 f])) (some 19) (.agg #[.float .f64 e, .float .f64 f])) (some 7) (.pointer (some ⟨p, 0, none⟩))) (some 8) (.pointer (some ⟨q, 0, none⟩))) (some 9) (.pointer (some ⟨r, 0, none⟩)) ∧ Box3 w' p q r a b c d e f ∧ Hid (Below W0.heap.size W0 w')) (fun HR => ?_) ?_
  · simp only [Act.put, List.setIfInBounds_toArray, List.set_cons_zero, List.set_cons_succ] at HR
    go_region_held3 (fun W => ((W.cell? ⟨w.heap.size, 0, none⟩ = some (.int .u64 a) ∧ W.cell? ⟨w.heap.size, 1, none⟩ = some (.int .u64 b)) ∧ (W.cell? ⟨w.heap.size + 1, 0, none⟩ = some (.int .u64 c) ∧ W.cell? ⟨w.heap.size + 1, 1, none⟩ = some (.int .u64 d)) ∧ (W.cell? ⟨w.heap.size + 1 + 1, 0, none⟩ = some (.int .u64 e) ∧ W.cell? ⟨w.heap.size + 1 + 1, 1, none⟩ = some (.int .u64 f))) ∧ Hid (Below W0.heap.size W0 W))
      ((refine HC.out _ ?_; repeat' (first | with_reducible assumption | with_reducible exact HQ0 | with_reducible exact And.right (by assumption) | with_reducible refine dr2 ?_ | with_reducible refine al2 ?_ HC0 _ | with_reducible refine st2 ?_ _ (by omega) _ _)))
      (first
        | (go_at_call 7; refine (HO.out _ _ _ (And.right (by assumption))).mono ?_; rintro r w2 ⟨rfl, ⟨hk1, hk2⟩, HF, hsz⟩; try simp at hsz)
        | fail)
    all_goals
      refine HR.out _ _ ⟨_, _, _, rfl, ⟨?_, ?_, ?_, ?_⟩, And.right (by assumption)⟩
      · unfold C3
        first | (simp [go_sem, *]; done) | (simp (maxDischargeDepth := 12) [go_sem, *]; done)
      · first | omega | (simp; omega)
      · first | omega | (simp; omega)
      · first | omega | (simp; omega)
  · have hK := HK.out
    clear HK
    rintro a' V ⟨p, q, r, rfl, ⟨hbx, hp, hq, hr⟩, HBV⟩
    have HW : Hid (Below w.heap.size w V) := HB0.out.trans (HBV.out.mono HB0.out.size)
    have HC4 : Hid (∀ W, Hid (Below V.heap.size V W) → C3 W p q r (.float .f64 a) (.float .f64 b) (.float .f64 c) (.float .f64 d) (.float .f64 e) (.float .f64 f) ∧ Hid (Below V.heap.size V W)) := fun W hW => by
      obtain ⟨k1, _⟩ := bcell hW.out
      unfold C3 at hbx ⊢
      rw [k1 p 0 hp, k1 p 1 hp, k1 q 0 hq, k1 q 1 hq, k1 r 0 hr, k1 r 1 hr]
      exact ⟨hbx, hW⟩
    have HU := hid (hull_fr V)
    have HM := hid (meet_fr V)
    unfold Lft at HU HM
    unfold C3 at HC4
    have HQ4 : Hid (Below V.heap.size V V.drew) := (Below.refl _ _).drew
    have HR4 : Hid (Below V.heap.size V V) := Below.refl _ _
    have HP := hid (And.intro hp (And.intro hq hr))
    have HV0 : Hid (V.heap.size ≤ V.heap.size) := Nat.le_refl _
    clear hbx hp hq hr y0 y1 y2 y3 y4 y5 HF1 HQ0 HC HO HA hs1 HC0 hW0 hW0' HB0 HBV
    simp only [Act.put, List.setIfInBounds_toArray, List.set_cons_zero, List.set_cons_succ]
    go_wp2_with fail
    rename_i K hK
    have HK := hid hK
    clear hK
    refine region_merge2 (fun a0 a' w' => ∃ s, a' = Act.put (Act.put (Act.put (Act.put (Act.put (Act.put a0 (some 20) (.agg #[.float .f64 a, .float .f64 b])) (some 21) (.agg #[.float .f64 a, .float .f64 b])) (some 22) (.agg #[.float .f64 c, .float .f64 d])) (some 23) (.agg #[.float .f64 (huL a b c d), .float .f64 (huH a b c d)])) (some 24) (.agg #[.float .f64 (meLo a b (huL a b c d) (huH a b c d)), .float .f64 (meHi a b (huL a b c d) (huH a b c d))])) (some 10) (.pointer (some ⟨s, 0, none⟩)) ∧ (w'.cell? ⟨s, 0, none⟩ = some (.float .f64 (meLo a b (huL a b c d) (huH a b c d))) ∧ w'.cell? ⟨s, 1, none⟩ = some (.float .f64 (meHi a b (huL a b c d) (huH a b c d)))) ∧ s < w'.heap.size ∧ Hid (Below V.heap.size V w')) (fun HR => ?_) ?_
    · simp only [Act.put, List.setIfInBounds_toArray, List.set_cons_zero, List.set_cons_succ] at HR
      go_region_held3 (fun W => ((W.cell? ⟨p, 0, none⟩ = some (.float .f64 a) ∧ W.cell? ⟨p, 1, none⟩ = some (.float .f64 b)) ∧ (W.cell? ⟨q, 0, none⟩ = some (.float .f64 c) ∧ W.cell? ⟨q, 1, none⟩ = some (.float .f64 d)) ∧ (W.cell? ⟨r, 0, none⟩ = some (.float .f64 e) ∧ W.cell? ⟨r, 1, none⟩ = some (.float .f64 f))) ∧ Hid (Below V.heap.size V W))
        ((refine HC4.out _ ?_; repeat' (first | with_reducible assumption | with_reducible exact HQ4 | with_reducible exact HR4 | with_reducible exact And.right (by assumption) | with_reducible refine dr2 ?_ | with_reducible refine al2 ?_ HV0 _ | with_reducible refine st2 ?_ _ (by omega) _ _)))
        (first
          | (go_at_call 9; refine (HU.out _ _ _ _ _ (by assumption) (by assumption) (And.right (by assumption))).mono ?_; rintro r w2 ⟨rfl, hE2, ⟨hk1, hk2⟩, HF2, hs2, hv2⟩; have hj1 := hs2 V.heap.size; (try simp at hj1))
          | (go_at_call 8; refine (HM.out _ _ _ _ _ (by assumption) (by assumption) (And.right (by assumption))).mono ?_; rintro r w3 ⟨rfl, hE3, ⟨hk3, hk4⟩, HF3, hs3, hv3⟩; have hj2 := hs3 V.heap.size; (first | (simp [hj1] at hj2; done) | simp at hj2 | skip); have hj3 := hs3 w2.heap.size; (first | simp at hj3 | skip))
          | fail)
      · refine HR.out _ _ ⟨_, rfl, ⟨?_, ?_⟩, ?_, And.right (by assumption)⟩
        · simp [go_sem, *]
        · simp [go_sem, *]
        · first | omega | (simp; done) | (simp; omega)
      · refine HR.out _ _ ⟨_, rfl, ⟨?_, ?_⟩, ?_, And.right (by assumption)⟩
        · simp [go_sem, *]
        · simp [go_sem, *]
        · first | omega | (simp; done) | (simp; omega)
      · refine HR.out _ _ ⟨_, rfl, ⟨?_, ?_⟩, ?_, And.right (by assumption)⟩
        · simp [go_sem, *]
        · simp [go_sem, *]
        · first | omega | (simp; done) | (simp; omega)
    · have hK := HK.out
      clear HK
      rintro a' V2 ⟨s, rfl, ⟨m0, m1⟩, hs, HB2⟩
      have HT : Hid (Below w.heap.size w V2) := HW.out.trans (HB2.out.mono HW.out.size)
      obtain ⟨⟨⟨x0, x1⟩, ⟨x2, x3⟩, x4, x5⟩, _⟩ := HC4.out V2 HB2
      have hsz := HB2.out.size
      obtain ⟨hp, hq, hr⟩ := HP.out
      have hp := Nat.lt_of_lt_of_le hp hsz
      have hq := Nat.lt_of_lt_of_le hq hsz
      have hr := Nat.lt_of_lt_of_le hr hsz
      have HAF := hid (fun h => absorb_full hE1 hEc h)
      have HAN := hid (fun h => absorb_none hE1 hEc h)
      obtain ⟨M1, hM1⟩ : ∃ z, Hid (meLo a b (huL a b c d) (huH a b c d) = z) := ⟨_, rfl⟩
      obtain ⟨M2, hM2⟩ : ∃ z, Hid (meHi a b (huL a b c d) (huH a b c d) = z) := ⟨_, rfl⟩
      rw [hM1.out, hM2.out] at HAF HAN
      simp only [hM1.out] at m0 ⊢
      simp only [hM2.out] at m1 ⊢
      have HC5 : Hid (∀ W, Hid (Below V2.heap.size V2 W) → ((W.cell? ⟨p, 0, none⟩ = some (.float .f64 a) ∧ W.cell? ⟨p, 1, none⟩ = some (.float .f64 b)) ∧ (W.cell? ⟨q, 0, none⟩ = some (.float .f64 c) ∧ W.cell? ⟨q, 1, none⟩ = some (.float .f64 d)) ∧ (W.cell? ⟨r, 0, none⟩ = some (.float .f64 e) ∧ W.cell? ⟨r, 1, none⟩ = some (.float .f64 f)) ∧ (W.cell? ⟨s, 0, none⟩ = some (.float .f64 M1) ∧ W.cell? ⟨s, 1, none⟩ = some (.float .f64 M2))) ∧ Hid (Below V2.heap.size V2 W)) := fun W hW => by
        obtain ⟨k1, _⟩ := bcell hW.out
        rw [k1 p 0 hp, k1 p 1 hp, k1 q 0 hq, k1 q 1 hq, k1 r 0 hr, k1 r 1 hr, k1 s 0 hs, k1 s 1 hs]
        exact ⟨⟨⟨x0, x1⟩, ⟨x2, x3⟩, ⟨x4, x5⟩, m0, m1⟩, hW⟩
      have HU5 := hid (hull_fr V2)
      have HM5 := hid (meet_fr V2)
      have HS5 := hid (same_fr V2)
      have HSB5 := hid (sameB_fr V2)
      have HE5 := hid (empty_fr V2)
      have HI5 := hid (in_fr V2)
      have HIS5 := hid (is_fr V2)
      have HMS5 := hid (meets_fr V2)
      unfold Lft at HU5 HM5 HS5 HSB5 HE5 HI5 HIS5 HMS5
      have HR5 : Hid (Below V2.heap.size V2 V2) := Below.refl _ _
      have q1 := eqn (hu_comm hE1 hEc) (hu_nrm hEc hE1)
      have q2 := eqn (me_comm hE1 hEc) (me_nrm hEc hE1)
      have q3 := eqn (hu_assoc hE1 hEc hEe) (hu_nrm (nrm_e2 (hu_nrm hE1 hEc)) hEe)
      have q4 := eqn (me_assoc hE1 hEc hEe) (me_nrm (nrm_e2 (me_nrm hE1 hEc)) hEe)
      have HIT := hid (fun h1 h2 => in_trans (a := a) (b := b) (c := c) (d := d) (e := e) (f := f) h1 h2)
      have HIB := hid (fun h1 h2 => in_both hE1 hEc h1 h2)
      have HMS := hid (meets_same hE1 hEc)
      have nN := nrm_none
      have hII := in_self a b
      have HFL := hid (fun h => full_le (a := a) (b := b) h)
      have HNG := hid (fun h => none_gt hE1 h)
      clear HC4 HU HM HQ4 HR4 HV0 HP hp hq hr hs hsz HB2 HW
      simp only [Act.put, List.setIfInBounds_toArray, List.set_cons_zero, List.set_cons_succ]
      refine hK _ _ ?_
      apply wp_seq_k
      intro K hK
      have HK := hid hK
      clear hK
      refine region_merge2 (fun a0 a' w' => ∃ (F I : Bool) (u1 u2 u3 u4 u5 : Value), a' = Act.put (Act.put (Act.put (Act.put (Act.put (Act.put (Act.put (Act.put (Act.put (Act.put a0 (some 25) (.agg #[.float .f64 a, .float .f64 b])) (some 26) (.bool I)) (some 27) (.bool I)) (some 28) (u1)) (some 29) (u2)) (some 30) (u3)) (some 31) (u4)) (some 32) (u5)) (some 33) (.bool F)) (some 11) (.bool F) ∧ ((F = true → FloatKind.f64.format.order M1 a = some .eq ∧ FloatKind.f64.format.order M2 b = some .eq) ∧ (F = false → EqN M1 M2 9218868437227405312 18442240474082181120)) ∧ Hid (Below V2.heap.size V2 w')) (fun HR => ?_) ?_
      · simp only [Act.put, List.setIfInBounds_toArray, List.set_cons_zero, List.set_cons_succ] at HR
        go_wp2_with fail
        refine (HIS5.out _ _ _ HR5).mono ?_
        rintro r w4 ⟨rfl, ⟨hk5, hk6⟩, HF5, hs5, hv5⟩
        obtain ⟨⟨⟨x0, x1⟩, ⟨x2, x3⟩, ⟨x4, x5⟩, m0, m1⟩, _⟩ := HC5.out _ HF5
        obtain ⟨F, hF⟩ : ∃ z, Hid (fullB a b = z) := ⟨_, rfl⟩
        obtain ⟨N, hN⟩ : ∃ z, Hid (noneB a b = z) := ⟨_, rfl⟩
        rw [hF.out] at HAF HAN HFL ⊢
        rw [hN.out] at HNG ⊢
        clear hk5 hk6 hs5 hv5
        cases F
        · have qA := hid (HAN.out rfl)
          cases N
          · go_wp2_with fail
            exact HR.out _ _ ⟨_, _, _, _, _, _, _, rfl, ⟨fun h => (by cases h), fun _ => qA.out⟩, HF5⟩
          · have hgt := HNG.out rfl
            go_wp2_with fail
            exact HR.out _ _ ⟨_, _, _, _, _, _, _, rfl, ⟨fun h => (by cases h), fun _ => qA.out⟩, HF5⟩
        · have hle := HFL.out rfl
          have qA := hid (HAF.out rfl)
          go_wp2_with fail
          exact HR.out _ _ ⟨_, _, _, _, _, _, _, rfl, ⟨fun _ => qA.out, fun h => (by cases h)⟩, HF5⟩
      · have hK := HK.out
        clear HK
        rintro a' W5 ⟨F, I, u1, u2, u3, u4, u5, rfl, ⟨HFa, HFb⟩, HF5⟩
        refine hK _ _ ?_
        apply wp_seq_k
        intro K hK
        apply wp_seq_k
        intro K2 hK2
        have HK := hid (And.intro hK hK2)
        clear hK hK2
        simp only [Act.put, List.setIfInBounds_toArray, List.set_cons_zero, List.set_cons_succ]
        obtain ⟨⟨⟨x0, x1⟩, ⟨x2, x3⟩, ⟨x4, x5⟩, m0, m1⟩, _⟩ := HC5.out _ HF5
        refine region_merge2 (fun a0 a' w' => ∃ t34 t35 t36 t37 t38 t39 t40 t41 t42 t43 t44 t45 t46 t47 t48 t49 t50 t51 t52 t53 t54 t55 t56 t57 : Value, a' = Act.put (Act.put (Act.put (Act.put (Act.put (Act.put (Act.put (Act.put (Act.put (Act.put (Act.put (Act.put (Act.put (Act.put (Act.put (Act.put (Act.put (Act.put (Act.put (Act.put (Act.put (Act.put (Act.put (Act.put (Act.put a0 (some 34) (t34)) (some 35) (t35)) (some 36) (t36)) (some 37) (t37)) (some 38) (t38)) (some 39) (t39)) (some 40) (t40)) (some 41) (t41)) (some 42) (t42)) (some 43) (t43)) (some 44) (t44)) (some 45) (t45)) (some 46) (t46)) (some 47) (t47)) (some 48) (t48)) (some 49) (t49)) (some 50) (t50)) (some 51) (t51)) (some 52) (t52)) (some 53) (t53)) (some 54) (t54)) (some 55) (t55)) (some 56) (t56)) (some 57) (t57)) (some 58) (.bool false) ∧ Hid (Below V2.heap.size V2 w')) (fun HR => ?_) ?_
        · simp only [Act.put, List.setIfInBounds_toArray, List.set_cons_zero, List.set_cons_succ] at HR
          cases F
          · have qA := HFb rfl
            clear HFa HFb
            have HQ6 : Hid (Below V2.heap.size V2 W5.drew) := HF5.out.drew
            refine wp_region_held_drew (S := (fun W => ((W.cell? ⟨p, 0, none⟩ = some (.float .f64 a) ∧ W.cell? ⟨p, 1, none⟩ = some (.float .f64 b)) ∧ (W.cell? ⟨q, 0, none⟩ = some (.float .f64 c) ∧ W.cell? ⟨q, 1, none⟩ = some (.float .f64 d)) ∧ (W.cell? ⟨r, 0, none⟩ = some (.float .f64 e) ∧ W.cell? ⟨r, 1, none⟩ = some (.float .f64 f)) ∧ (W.cell? ⟨s, 0, none⟩ = some (.float .f64 M1) ∧ W.cell? ⟨s, 1, none⟩ = some (.float .f64 M2))) ∧ Hid (Below V2.heap.size V2 W))) (by kernel_rfl) (HC5.out _ HQ6) (fun hHeld => ?_)
            refine take_at 0 34 (.bool false) rfl rfl (by kernel_rfl) (by kernel_rfl) (by kernel_rfl) (fun _ _ _ h => h) (Or.inl ⟨by rfl, fun w hSw => by (try dsimp only at hSw); go_simp⟩) (by assumption) ?_
            simp only [Act.put, List.setIfInBounds_toArray, List.set_cons_zero, List.set_cons_succ]
            refine take_at 1 35 (.bool false) rfl rfl (by kernel_rfl) (by kernel_rfl) (by kernel_rfl) (fun _ _ _ h => h) (Or.inl ⟨by rfl, fun w hSw => by (try dsimp only at hSw); go_simp⟩) (by assumption) ?_
            simp only [Act.put, List.setIfInBounds_toArray, List.set_cons_zero, List.set_cons_succ]
            refine take_at 2 36 (undef) rfl rfl (by kernel_rfl) (by kernel_rfl) (by kernel_rfl) (fun _ _ _ h => h) (Or.inr ⟨by rfl, rfl⟩) (by assumption) ?_
            simp only [Act.put, List.setIfInBounds_toArray, List.set_cons_zero, List.set_cons_succ]
            refine take_at 3 37 (undef) rfl rfl (by kernel_rfl) (by kernel_rfl) (by kernel_rfl) (fun _ _ _ h => h) (Or.inr ⟨by rfl, rfl⟩) (by assumption) ?_
            simp only [Act.put, List.setIfInBounds_toArray, List.set_cons_zero, List.set_cons_succ]
            refine take_at 4 38 (undef) rfl rfl (by kernel_rfl) (by kernel_rfl) (by kernel_rfl) (fun _ _ _ h => h) (Or.inr ⟨by rfl, rfl⟩) (by assumption) ?_
            simp only [Act.put, List.setIfInBounds_toArray, List.set_cons_zero, List.set_cons_succ]
            refine take_at 5 39 (undef) rfl rfl (by kernel_rfl) (by kernel_rfl) (by kernel_rfl) (fun _ _ _ h => h) (Or.inr ⟨by rfl, rfl⟩) (by assumption) ?_
            simp only [Act.put, List.setIfInBounds_toArray, List.set_cons_zero, List.set_cons_succ]
            refine take_at 6 40 (undef) rfl rfl (by kernel_rfl) (by kernel_rfl) (by kernel_rfl) (fun _ _ _ h => h) (Or.inr ⟨by rfl, rfl⟩) (by assumption) ?_
            simp only [Act.put, List.setIfInBounds_toArray, List.set_cons_zero, List.set_cons_succ]
            refine take_at 7 41 (undef) rfl rfl (by kernel_rfl) (by kernel_rfl) (by kernel_rfl) (fun _ _ _ h => h) (Or.inr ⟨by rfl, rfl⟩) (by assumption) ?_
            simp only [Act.put, List.setIfInBounds_toArray, List.set_cons_zero, List.set_cons_succ]
            refine take_at 8 42 (undef) rfl rfl (by kernel_rfl) (by kernel_rfl) (by kernel_rfl) (fun _ _ _ h => h) (Or.inr ⟨by rfl, rfl⟩) (by assumption) ?_
            simp only [Act.put, List.setIfInBounds_toArray, List.set_cons_zero, List.set_cons_succ]
            refine take_at 9 43 (undef) rfl rfl (by kernel_rfl) (by kernel_rfl) (by kernel_rfl) (fun _ _ _ h => h) (Or.inr ⟨by rfl, rfl⟩) (by assumption) ?_
            simp only [Act.put, List.setIfInBounds_toArray, List.set_cons_zero, List.set_cons_succ]
            refine take_at 10 44 (undef) rfl rfl (by kernel_rfl) (by kernel_rfl) (by kernel_rfl) (fun _ _ _ h => h) (Or.inr ⟨by rfl, rfl⟩) (by assumption) ?_
            simp only [Act.put, List.setIfInBounds_toArray, List.set_cons_zero, List.set_cons_succ]
            refine take_at 11 45 (undef) rfl rfl (by kernel_rfl) (by kernel_rfl) (by kernel_rfl) (fun _ _ _ h => h) (Or.inr ⟨by rfl, rfl⟩) (by assumption) ?_
            simp only [Act.put, List.setIfInBounds_toArray, List.set_cons_zero, List.set_cons_succ]
            refine take_at 12 46 (undef) rfl rfl (by kernel_rfl) (by kernel_rfl) (by kernel_rfl) (fun _ _ _ h => h) (Or.inr ⟨by rfl, rfl⟩) (by assumption) ?_
            simp only [Act.put, List.setIfInBounds_toArray, List.set_cons_zero, List.set_cons_succ]
            refine take_at 13 47 (undef) rfl rfl (by kernel_rfl) (by kernel_rfl) (by kernel_rfl) (fun _ _ _ h => h) (Or.inr ⟨by rfl, rfl⟩) (by assumption) ?_
            simp only [Act.put, List.setIfInBounds_toArray, List.set_cons_zero, List.set_cons_succ]
            refine take_at 14 48 (.bool false) rfl rfl (by kernel_rfl) (by kernel_rfl) (by kernel_rfl) (fun _ _ _ h => h) (Or.inl ⟨by rfl, fun w hSw => by (try dsimp only at hSw); go_simp⟩) (by assumption) ?_
            simp only [Act.put, List.setIfInBounds_toArray, List.set_cons_zero, List.set_cons_succ]
            refine take_at 15 49 (.bool false) rfl rfl (by kernel_rfl) (by kernel_rfl) (by kernel_rfl) (fun _ _ _ h => h) (Or.inl ⟨by rfl, fun w hSw => by (try dsimp only at hSw); go_simp⟩) (by assumption) ?_
            simp only [Act.put, List.setIfInBounds_toArray, List.set_cons_zero, List.set_cons_succ]
            refine take_at 16 50 (.bool false) rfl rfl (by kernel_rfl) (by kernel_rfl) (by kernel_rfl) (fun _ _ _ h => h) (Or.inl ⟨by rfl, fun w hSw => by (try dsimp only at hSw); go_simp⟩) (by assumption) ?_
            simp only [Act.put, List.setIfInBounds_toArray, List.set_cons_zero, List.set_cons_succ]
            refine take_at 17 51 (.bool true) rfl rfl (by kernel_rfl) (by kernel_rfl) (by kernel_rfl) (fun _ _ _ h => h) (Or.inl ⟨by rfl, fun w hSw => by (try dsimp only at hSw); go_simp⟩) (by assumption) ?_
            simp only [Act.put, List.setIfInBounds_toArray, List.set_cons_zero, List.set_cons_succ]
            refine take_at 18 52 (.bool true) rfl rfl (by kernel_rfl) (by kernel_rfl) (by kernel_rfl) (fun _ _ _ h => h) (Or.inl ⟨by rfl, fun w hSw => by (try dsimp only at hSw); go_simp⟩) (by assumption) ?_
            simp only [Act.put, List.setIfInBounds_toArray, List.set_cons_zero, List.set_cons_succ]
            refine take_at 19 53 (.agg #[.float .f64 M1, .float .f64 M2]) rfl rfl (by kernel_rfl) (by kernel_rfl) (by kernel_rfl) (fun _ _ _ h => h) (Or.inl ⟨by rfl, fun w hSw => by (try dsimp only at hSw); go_simp⟩) (by assumption) ?_
            simp only [Act.put, List.setIfInBounds_toArray, List.set_cons_zero, List.set_cons_succ]
            refine wpAnyH_ready (rs := [20]) (by kernel_rfl) (by simp) ?_
            refine AllReadyH.cons (o := _) rfl (fun K hK => ?_) AllReadyH.nil
            go_simp
            refine (HE5.out _ (And.right (by assumption))).mono ?_; rintro r w7 ⟨rfl, ⟨hk7, hk8⟩, HF7, hs7, hv7⟩
            go_wp2_with fail
            refine hK.out _ _ (HC5.out _ HF7) (fun hHeld7 => ?_)
            clear hK K
            try simp only [Act.put, List.setIfInBounds_toArray, List.set_cons_zero, List.set_cons_succ]
            refine wpAnyH_ready (rs := [21]) (by kernel_rfl) (by simp) ?_
            refine AllReadyH.cons (o := _) rfl (fun K hK => ?_) AllReadyH.nil
            go_simp
            refine (HS5.out _ _ _ _ _ (by assumption) (And.right (by assumption))).mono ?_; rintro r w8 ⟨rfl, ⟨hk9, hka⟩, HF8, hs8, hv8⟩
            go_wp2_with fail
            refine hK.out _ _ (HC5.out _ HF8) (fun hHeld8 => ?_)
            clear hK K
            try simp only [Act.put, List.setIfInBounds_toArray, List.set_cons_zero, List.set_cons_succ]
            refine take_at 22 56 (.bool false) rfl rfl (by kernel_rfl) (by kernel_rfl) (by kernel_rfl) (fun _ _ _ h => h) (Or.inl ⟨by rfl, fun w hSw => by (try dsimp only at hSw); go_simp⟩) (by assumption) ?_
            simp only [Act.put, List.setIfInBounds_toArray, List.set_cons_zero, List.set_cons_succ]
            refine take_at 23 57 (.bool false) rfl rfl (by kernel_rfl) (by kernel_rfl) (by kernel_rfl) (fun _ _ _ h => h) (Or.inl ⟨by rfl, fun w hSw => by (try dsimp only at hSw); go_simp⟩) (by assumption) ?_
            simp only [Act.put, List.setIfInBounds_toArray, List.set_cons_zero, List.set_cons_succ]
            refine take_at 24 58 (.bool false) rfl rfl (by kernel_rfl) (by kernel_rfl) (by kernel_rfl) (fun _ _ _ h => h) (Or.inl ⟨by rfl, fun w hSw => by (try dsimp only at hSw); go_simp⟩) (by assumption) ?_
            simp only [Act.put, List.setIfInBounds_toArray, List.set_cons_zero, List.set_cons_succ]
            refine wpAnyH_done (by kernel_rfl) ?_ _
            exact HR.out _ _ ⟨_, _, _, _, _, _, _, _, _, _, _, _, _, _, _, _, _, _, _, _, _, _, _, _, rfl, HF8⟩
          · obtain ⟨o1, o2⟩ := HFa rfl
            clear HFa HFb
            go_quiet (fail)
            exact HR.out _ _ ⟨_, _, _, _, _, _, _, _, _, _, _, _, _, _, _, _, _, _, _, _, _, _, _, _, rfl, below_drewN HF5.out _⟩
        · obtain ⟨hK, hK2⟩ := HK.out
          clear HK HFa HFb
          rintro a' W6 ⟨t34, t35, t36, t37, t38, t39, t40, t41, t42, t43, t44, t45, t46, t47, t48, t49, t50, t51, t52, t53, t54, t55, t56, t57, rfl, HF6⟩
          obtain ⟨⟨⟨x0, x1⟩, ⟨x2, x3⟩, ⟨x4, x5⟩, m0, m1⟩, _⟩ := HC5.out _ HF6
          simp only [Act.put, List.setIfInBounds_toArray, List.set_cons_zero, List.set_cons_succ]
          have HK8 := hid hK
          clear hK
          refine hK2 _ _ ?_
          clear hK2
          go_wp2_with fail
          refine HK8.out _ _ ?_
          clear HK8
          apply wp_seq_k
          intro K10 hK10
          apply wp_seq_k
          intro K9 hK9
          have HK10 := hid (And.intro hK10 hK9)
          clear hK10 hK9
          have HQ8 : Hid (Below V2.heap.size V2 W6.drew) := HF6.out.drew
          go_region_held3 (fun W => ((W.cell? ⟨p, 0, none⟩ = some (.float .f64 a) ∧ W.cell? ⟨p, 1, none⟩ = some (.float .f64 b)) ∧ (W.cell? ⟨q, 0, none⟩ = some (.float .f64 c) ∧ W.cell? ⟨q, 1, none⟩ = some (.float .f64 d)) ∧ (W.cell? ⟨r, 0, none⟩ = some (.float .f64 e) ∧ W.cell? ⟨r, 1, none⟩ = some (.float .f64 f)) ∧ (W.cell? ⟨s, 0, none⟩ = some (.float .f64 M1) ∧ W.cell? ⟨s, 1, none⟩ = some (.float .f64 M2))) ∧ Hid (Below V2.heap.size V2 W)) ((refine HC5.out _ ?_; repeat' (first | with_reducible assumption | with_reducible exact HQ8 | with_reducible exact And.right (by assumption) | with_reducible refine dr2 ?_))) (first | (go_at_call 9; refine (HU5.out _ _ _ _ _ (by assumption) (by assumption) (And.right (by assumption))).mono ?_; rintro r w4 ⟨rfl, hE5, ⟨hk5, hk6⟩, HF5, hs5, hv5⟩) | (go_at_call 8; refine (HM5.out _ _ _ _ _ (by assumption) (by assumption) (And.right (by assumption))).mono ?_; rintro r w4 ⟨rfl, hE5, ⟨hk5, hk6⟩, HF5, hs5, hv5⟩) | (go_at_call 11; refine (HS5.out _ _ _ _ _ (by assumption) (And.right (by assumption))).mono ?_; rintro r w4 ⟨rfl, ⟨hk5, hk6⟩, HF5, hs5, hv5⟩) | fail)
          obtain ⟨hK10, hK9⟩ := HK10.out
          clear HK10
          have HK10 := hid hK10
          clear hK10 q1 q2 q3 q4
          refine hK9 _ _ ?_
          clear hK9
          go_wp2_with fail
          refine HK10.out _ _ ?_
          clear HK10
          apply wp_seq_k
          intro K12 hK12
          apply wp_seq_k
          intro K11 hK11
          have HK := hid (And.intro hK12 hK11)
          clear hK12 hK11
          obtain ⟨⟨⟨x0, x1⟩, ⟨x2, x3⟩, ⟨x4, x5⟩, m0, m1⟩, _⟩ := HC5.out _ HF5
          refine region_merge2 (fun a0 a' w' => ∃ t105 t106 t107 t108 t109 t110 t111 t112 t113 t114 t115 t116 t117 t118 t119 t120 t121 t122 t123 : Value, a' = Act.put (Act.put (Act.put (Act.put (Act.put (Act.put (Act.put (Act.put (Act.put (Act.put (Act.put (Act.put (Act.put (Act.put (Act.put (Act.put (Act.put (Act.put (Act.put (Act.put a0 (some 105) (t105)) (some 106) (t106)) (some 107) (t107)) (some 108) (t108)) (some 109) (t109)) (some 110) (t110)) (some 111) (t111)) (some 112) (t112)) (some 113) (t113)) (some 114) (t114)) (some 115) (t115)) (some 116) (t116)) (some 117) (t117)) (some 118) (t118)) (some 119) (t119)) (some 120) (t120)) (some 121) (t121)) (some 122) (t122)) (some 123) (t123)) (some 124) (.bool false) ∧ Hid (Below V2.heap.size V2 w')) (fun HR => ?_) ?_
          · simp only [Act.put, List.setIfInBounds_toArray, List.set_cons_zero, List.set_cons_succ] at HR
            rcases hI1 : inB a b c d with _ | _
            · go_wp2_with (first | (go_at_call 13; refine (HI5.out _ _ _ _ _ (by assumption) (by assumption) (by assumption)).mono ?_; rintro r w4 ⟨rfl, ⟨hk5, hk6⟩, HF5, hs5, hv5⟩; obtain ⟨⟨⟨x0, x1⟩, ⟨x2, x3⟩, ⟨x4, x5⟩, m0, m1⟩, _⟩ := HC5.out _ HF5))
              exact HR.out _ _ ⟨_, _, _, _, _, _, _, _, _, _, _, _, _, _, _, _, _, _, _, rfl, HF5⟩
            · rcases hI2 : inB c d e f with _ | _
              · go_wp2_with (first | (go_at_call 13; refine (HI5.out _ _ _ _ _ (by assumption) (by assumption) (by assumption)).mono ?_; rintro r w4 ⟨rfl, ⟨hk5, hk6⟩, HF5, hs5, hv5⟩; obtain ⟨⟨⟨x0, x1⟩, ⟨x2, x3⟩, ⟨x4, x5⟩, m0, m1⟩, _⟩ := HC5.out _ HF5))
                exact HR.out _ _ ⟨_, _, _, _, _, _, _, _, _, _, _, _, _, _, _, _, _, _, _, rfl, HF5⟩
              · have hI3 := HIT.out hI1 hI2
                go_wp2_with (first | (go_at_call 13; refine (HI5.out _ _ _ _ _ (by assumption) (by assumption) (by assumption)).mono ?_; rintro r w4 ⟨rfl, ⟨hk5, hk6⟩, HF5, hs5, hv5⟩; obtain ⟨⟨⟨x0, x1⟩, ⟨x2, x3⟩, ⟨x4, x5⟩, m0, m1⟩, _⟩ := HC5.out _ HF5))
                exact HR.out _ _ ⟨_, _, _, _, _, _, _, _, _, _, _, _, _, _, _, _, _, _, _, rfl, HF5⟩
          · obtain ⟨hK12, hK11⟩ := HK.out
            clear HK
            have HK12 := hid hK12
            clear hK12
            rintro a' W10 ⟨t105, t106, t107, t108, t109, t110, t111, t112, t113, t114, t115, t116, t117, t118, t119, t120, t121, t122, t123, rfl, HF10⟩
            simp only [Act.put, List.setIfInBounds_toArray, List.set_cons_zero, List.set_cons_succ]
            refine hK11 _ _ ?_
            clear hK11
            go_wp2_with fail
            refine HK12.out _ _ ?_
            clear HK12
            apply wp_seq_k
            intro K14 hK14
            apply wp_seq_k
            intro K13 hK13
            have HK := hid (And.intro hK14 hK13)
            clear hK14 hK13
            obtain ⟨⟨⟨x0, x1⟩, ⟨x2, x3⟩, ⟨x4, x5⟩, m0, m1⟩, _⟩ := HC5.out _ HF10
            refine region_merge2 (fun a0 a' w' => ∃ t125 t126 t127 t128 t129 t130 t131 t132 t133 t134 t135 t136 t137 t138 t139 t140 t141 : Value, a' = Act.put (Act.put (Act.put (Act.put (Act.put (Act.put (Act.put (Act.put (Act.put (Act.put (Act.put (Act.put (Act.put (Act.put (Act.put (Act.put (Act.put (Act.put a0 (some 125) (t125)) (some 126) (t126)) (some 127) (t127)) (some 128) (t128)) (some 129) (t129)) (some 130) (t130)) (some 131) (t131)) (some 132) (t132)) (some 133) (t133)) (some 134) (t134)) (some 135) (t135)) (some 136) (t136)) (some 137) (t137)) (some 138) (t138)) (some 139) (t139)) (some 140) (t140)) (some 141) (t141)) (some 142) (.bool false) ∧ Hid (Below V2.heap.size V2 w')) (fun HR => ?_) ?_
            · simp only [Act.put, List.setIfInBounds_toArray, List.set_cons_zero, List.set_cons_succ] at HR
              rcases hI1 : inB a b c d with _ | _
              · have HQ12 : Hid (Below V2.heap.size V2 W10.drew) := HF10.out.drew
                refine wp_region_held_drew (S := (fun W => ((W.cell? ⟨p, 0, none⟩ = some (.float .f64 a) ∧ W.cell? ⟨p, 1, none⟩ = some (.float .f64 b)) ∧ (W.cell? ⟨q, 0, none⟩ = some (.float .f64 c) ∧ W.cell? ⟨q, 1, none⟩ = some (.float .f64 d)) ∧ (W.cell? ⟨r, 0, none⟩ = some (.float .f64 e) ∧ W.cell? ⟨r, 1, none⟩ = some (.float .f64 f)) ∧ (W.cell? ⟨s, 0, none⟩ = some (.float .f64 M1) ∧ W.cell? ⟨s, 1, none⟩ = some (.float .f64 M2))) ∧ Hid (Below V2.heap.size V2 W))) (by kernel_rfl) (HC5.out _ HQ12) (fun hHeld => ?_)
                refine take_at 0 125 (.agg #[.float .f64 a, .float .f64 b]) rfl rfl (by kernel_rfl) (by kernel_rfl) (by kernel_rfl) (fun _ _ _ h => h) (Or.inl ⟨by rfl, fun w hSw => by (try dsimp only at hSw); go_simp⟩) (by assumption) ?_
                simp only [Act.put, List.setIfInBounds_toArray, List.set_cons_zero, List.set_cons_succ]
                refine take_at 1 126 (.agg #[.float .f64 c, .float .f64 d]) rfl rfl (by kernel_rfl) (by kernel_rfl) (by kernel_rfl) (fun _ _ _ h => h) (Or.inl ⟨by rfl, fun w hSw => by (try dsimp only at hSw); go_simp⟩) (by assumption) ?_
                simp only [Act.put, List.setIfInBounds_toArray, List.set_cons_zero, List.set_cons_succ]
                refine wpAnyH_ready (rs := [2]) (by kernel_rfl) (by simp) ?_
                refine AllReadyH.cons (o := _) rfl (fun K hK => ?_) AllReadyH.nil
                go_simp
                refine (HI5.out _ _ _ _ _ (by assumption) (by assumption) (And.right (by assumption))).mono ?_; rw [hI1]; rintro r w7 ⟨rfl, ⟨hk7a, hk7b⟩, HF7, hs7, hv7⟩
                go_wp2_with fail
                refine hK.out _ _ (HC5.out _ HF7) (fun hHeld7 => ?_)
                clear hK K
                try simp only [Act.put, List.setIfInBounds_toArray, List.set_cons_zero, List.set_cons_succ]
                refine take_at 3 128 (.bool false) rfl rfl (by kernel_rfl) (by kernel_rfl) (by kernel_rfl) (fun _ _ _ h => h) (Or.inl ⟨by rfl, fun w hSw => by (try dsimp only at hSw); go_simp⟩) (by assumption) ?_
                simp only [Act.put, List.setIfInBounds_toArray, List.set_cons_zero, List.set_cons_succ]
                refine take_at 4 129 (undef) rfl rfl (by kernel_rfl) (by kernel_rfl) (by kernel_rfl) (fun _ _ _ h => h) (Or.inr ⟨by rfl, rfl⟩) (by assumption) ?_
                simp only [Act.put, List.setIfInBounds_toArray, List.set_cons_zero, List.set_cons_succ]
                refine take_at 5 130 (undef) rfl rfl (by kernel_rfl) (by kernel_rfl) (by kernel_rfl) (fun _ _ _ h => h) (Or.inr ⟨by rfl, rfl⟩) (by assumption) ?_
                simp only [Act.put, List.setIfInBounds_toArray, List.set_cons_zero, List.set_cons_succ]
                refine take_at 6 131 (undef) rfl rfl (by kernel_rfl) (by kernel_rfl) (by kernel_rfl) (fun _ _ _ h => h) (Or.inr ⟨by rfl, rfl⟩) (by assumption) ?_
                simp only [Act.put, List.setIfInBounds_toArray, List.set_cons_zero, List.set_cons_succ]
                refine take_at 7 132 (.bool false) rfl rfl (by kernel_rfl) (by kernel_rfl) (by kernel_rfl) (fun _ _ _ h => h) (Or.inl ⟨by rfl, fun w hSw => by (try dsimp only at hSw); go_simp⟩) (by assumption) ?_
                simp only [Act.put, List.setIfInBounds_toArray, List.set_cons_zero, List.set_cons_succ]
                refine take_at 8 133 (.bool false) rfl rfl (by kernel_rfl) (by kernel_rfl) (by kernel_rfl) (fun _ _ _ h => h) (Or.inl ⟨by rfl, fun w hSw => by (try dsimp only at hSw); go_simp⟩) (by assumption) ?_
                simp only [Act.put, List.setIfInBounds_toArray, List.set_cons_zero, List.set_cons_succ]
                refine take_at 9 134 (undef) rfl rfl (by kernel_rfl) (by kernel_rfl) (by kernel_rfl) (fun _ _ _ h => h) (Or.inr ⟨by rfl, rfl⟩) (by assumption) ?_
                simp only [Act.put, List.setIfInBounds_toArray, List.set_cons_zero, List.set_cons_succ]
                refine take_at 10 135 (undef) rfl rfl (by kernel_rfl) (by kernel_rfl) (by kernel_rfl) (fun _ _ _ h => h) (Or.inr ⟨by rfl, rfl⟩) (by assumption) ?_
                simp only [Act.put, List.setIfInBounds_toArray, List.set_cons_zero, List.set_cons_succ]
                refine take_at 11 136 (undef) rfl rfl (by kernel_rfl) (by kernel_rfl) (by kernel_rfl) (fun _ _ _ h => h) (Or.inr ⟨by rfl, rfl⟩) (by assumption) ?_
                simp only [Act.put, List.setIfInBounds_toArray, List.set_cons_zero, List.set_cons_succ]
                refine take_at 12 137 (undef) rfl rfl (by kernel_rfl) (by kernel_rfl) (by kernel_rfl) (fun _ _ _ h => h) (Or.inr ⟨by rfl, rfl⟩) (by assumption) ?_
                simp only [Act.put, List.setIfInBounds_toArray, List.set_cons_zero, List.set_cons_succ]
                refine take_at 13 138 (undef) rfl rfl (by kernel_rfl) (by kernel_rfl) (by kernel_rfl) (fun _ _ _ h => h) (Or.inr ⟨by rfl, rfl⟩) (by assumption) ?_
                simp only [Act.put, List.setIfInBounds_toArray, List.set_cons_zero, List.set_cons_succ]
                refine take_at 14 139 (undef) rfl rfl (by kernel_rfl) (by kernel_rfl) (by kernel_rfl) (fun _ _ _ h => h) (Or.inr ⟨by rfl, rfl⟩) (by assumption) ?_
                simp only [Act.put, List.setIfInBounds_toArray, List.set_cons_zero, List.set_cons_succ]
                refine take_at 15 140 (undef) rfl rfl (by kernel_rfl) (by kernel_rfl) (by kernel_rfl) (fun _ _ _ h => h) (Or.inr ⟨by rfl, rfl⟩) (by assumption) ?_
                simp only [Act.put, List.setIfInBounds_toArray, List.set_cons_zero, List.set_cons_succ]
                refine take_at 16 141 (undef) rfl rfl (by kernel_rfl) (by kernel_rfl) (by kernel_rfl) (fun _ _ _ h => h) (Or.inr ⟨by rfl, rfl⟩) (by assumption) ?_
                simp only [Act.put, List.setIfInBounds_toArray, List.set_cons_zero, List.set_cons_succ]
                refine take_at 17 142 (.bool false) rfl rfl (by kernel_rfl) (by kernel_rfl) (by kernel_rfl) (fun _ _ _ h => h) (Or.inl ⟨by rfl, fun w hSw => by (try dsimp only at hSw); go_simp⟩) (by assumption) ?_
                simp only [Act.put, List.setIfInBounds_toArray, List.set_cons_zero, List.set_cons_succ]
                refine wpAnyH_done (by kernel_rfl) ?_ _
                exact HR.out _ _ ⟨_, _, _, _, _, _, _, _, _, _, _, _, _, _, _, _, _, rfl, HF7⟩
              · rcases hJ1 : inB c d a b with _ | _
                · have HQ12 : Hid (Below V2.heap.size V2 W10.drew) := HF10.out.drew
                  refine wp_region_held_drew (S := (fun W => ((W.cell? ⟨p, 0, none⟩ = some (.float .f64 a) ∧ W.cell? ⟨p, 1, none⟩ = some (.float .f64 b)) ∧ (W.cell? ⟨q, 0, none⟩ = some (.float .f64 c) ∧ W.cell? ⟨q, 1, none⟩ = some (.float .f64 d)) ∧ (W.cell? ⟨r, 0, none⟩ = some (.float .f64 e) ∧ W.cell? ⟨r, 1, none⟩ = some (.float .f64 f)) ∧ (W.cell? ⟨s, 0, none⟩ = some (.float .f64 M1) ∧ W.cell? ⟨s, 1, none⟩ = some (.float .f64 M2))) ∧ Hid (Below V2.heap.size V2 W))) (by kernel_rfl) (HC5.out _ HQ12) (fun hHeld => ?_)
                  refine take_at 0 125 (.agg #[.float .f64 a, .float .f64 b]) rfl rfl (by kernel_rfl) (by kernel_rfl) (by kernel_rfl) (fun _ _ _ h => h) (Or.inl ⟨by rfl, fun w hSw => by (try dsimp only at hSw); go_simp⟩) (by assumption) ?_
                  simp only [Act.put, List.setIfInBounds_toArray, List.set_cons_zero, List.set_cons_succ]
                  refine take_at 1 126 (.agg #[.float .f64 c, .float .f64 d]) rfl rfl (by kernel_rfl) (by kernel_rfl) (by kernel_rfl) (fun _ _ _ h => h) (Or.inl ⟨by rfl, fun w hSw => by (try dsimp only at hSw); go_simp⟩) (by assumption) ?_
                  simp only [Act.put, List.setIfInBounds_toArray, List.set_cons_zero, List.set_cons_succ]
                  refine wpAnyH_ready (rs := [2]) (by kernel_rfl) (by simp) ?_
                  refine AllReadyH.cons (o := _) rfl (fun K hK => ?_) AllReadyH.nil
                  go_simp
                  refine (HI5.out _ _ _ _ _ (by assumption) (by assumption) (And.right (by assumption))).mono ?_; rw [hI1]; rintro r w7 ⟨rfl, ⟨hk7a, hk7b⟩, HF7, hs7, hv7⟩
                  go_wp2_with fail
                  refine hK.out _ _ (HC5.out _ HF7) (fun hHeld7 => ?_)
                  clear hK K
                  try simp only [Act.put, List.setIfInBounds_toArray, List.set_cons_zero, List.set_cons_succ]
                  refine take_at 3 128 (.bool true) rfl rfl (by kernel_rfl) (by kernel_rfl) (by kernel_rfl) (fun _ _ _ h => h) (Or.inl ⟨by rfl, fun w hSw => by (try dsimp only at hSw); go_simp⟩) (by assumption) ?_
                  simp only [Act.put, List.setIfInBounds_toArray, List.set_cons_zero, List.set_cons_succ]
                  refine take_at 4 129 (.agg #[.float .f64 c, .float .f64 d]) rfl rfl (by kernel_rfl) (by kernel_rfl) (by kernel_rfl) (fun _ _ _ h => h) (Or.inl ⟨by rfl, fun w hSw => by (try dsimp only at hSw); go_simp⟩) (by assumption) ?_
                  simp only [Act.put, List.setIfInBounds_toArray, List.set_cons_zero, List.set_cons_succ]
                  refine take_at 5 130 (.agg #[.float .f64 a, .float .f64 b]) rfl rfl (by kernel_rfl) (by kernel_rfl) (by kernel_rfl) (fun _ _ _ h => h) (Or.inl ⟨by rfl, fun w hSw => by (try dsimp only at hSw); go_simp⟩) (by assumption) ?_
                  simp only [Act.put, List.setIfInBounds_toArray, List.set_cons_zero, List.set_cons_succ]
                  refine wpAnyH_ready (rs := [6]) (by kernel_rfl) (by simp) ?_
                  refine AllReadyH.cons (o := _) rfl (fun K hK => ?_) AllReadyH.nil
                  go_simp
                  refine (HI5.out _ _ _ _ _ (by assumption) (by assumption) (And.right (by assumption))).mono ?_; rw [hJ1]; rintro r w8 ⟨rfl, ⟨hk8a, hk8b⟩, HF8, hs8, hv8⟩
                  go_wp2_with fail
                  refine hK.out _ _ (HC5.out _ HF8) (fun hHeld8 => ?_)
                  clear hK K
                  try simp only [Act.put, List.setIfInBounds_toArray, List.set_cons_zero, List.set_cons_succ]
                  refine take_at 7 132 (.bool false) rfl rfl (by kernel_rfl) (by kernel_rfl) (by kernel_rfl) (fun _ _ _ h => h) (Or.inl ⟨by rfl, fun w hSw => by (try dsimp only at hSw); go_simp⟩) (by assumption) ?_
                  simp only [Act.put, List.setIfInBounds_toArray, List.set_cons_zero, List.set_cons_succ]
                  refine take_at 8 133 (.bool false) rfl rfl (by kernel_rfl) (by kernel_rfl) (by kernel_rfl) (fun _ _ _ h => h) (Or.inl ⟨by rfl, fun w hSw => by (try dsimp only at hSw); go_simp⟩) (by assumption) ?_
                  simp only [Act.put, List.setIfInBounds_toArray, List.set_cons_zero, List.set_cons_succ]
                  refine take_at 9 134 (undef) rfl rfl (by kernel_rfl) (by kernel_rfl) (by kernel_rfl) (fun _ _ _ h => h) (Or.inr ⟨by rfl, rfl⟩) (by assumption) ?_
                  simp only [Act.put, List.setIfInBounds_toArray, List.set_cons_zero, List.set_cons_succ]
                  refine take_at 10 135 (undef) rfl rfl (by kernel_rfl) (by kernel_rfl) (by kernel_rfl) (fun _ _ _ h => h) (Or.inr ⟨by rfl, rfl⟩) (by assumption) ?_
                  simp only [Act.put, List.setIfInBounds_toArray, List.set_cons_zero, List.set_cons_succ]
                  refine take_at 11 136 (undef) rfl rfl (by kernel_rfl) (by kernel_rfl) (by kernel_rfl) (fun _ _ _ h => h) (Or.inr ⟨by rfl, rfl⟩) (by assumption) ?_
                  simp only [Act.put, List.setIfInBounds_toArray, List.set_cons_zero, List.set_cons_succ]
                  refine take_at 12 137 (undef) rfl rfl (by kernel_rfl) (by kernel_rfl) (by kernel_rfl) (fun _ _ _ h => h) (Or.inr ⟨by rfl, rfl⟩) (by assumption) ?_
                  simp only [Act.put, List.setIfInBounds_toArray, List.set_cons_zero, List.set_cons_succ]
                  refine take_at 13 138 (undef) rfl rfl (by kernel_rfl) (by kernel_rfl) (by kernel_rfl) (fun _ _ _ h => h) (Or.inr ⟨by rfl, rfl⟩) (by assumption) ?_
                  simp only [Act.put, List.setIfInBounds_toArray, List.set_cons_zero, List.set_cons_succ]
                  refine take_at 14 139 (undef) rfl rfl (by kernel_rfl) (by kernel_rfl) (by kernel_rfl) (fun _ _ _ h => h) (Or.inr ⟨by rfl, rfl⟩) (by assumption) ?_
                  simp only [Act.put, List.setIfInBounds_toArray, List.set_cons_zero, List.set_cons_succ]
                  refine take_at 15 140 (undef) rfl rfl (by kernel_rfl) (by kernel_rfl) (by kernel_rfl) (fun _ _ _ h => h) (Or.inr ⟨by rfl, rfl⟩) (by assumption) ?_
                  simp only [Act.put, List.setIfInBounds_toArray, List.set_cons_zero, List.set_cons_succ]
                  refine take_at 16 141 (undef) rfl rfl (by kernel_rfl) (by kernel_rfl) (by kernel_rfl) (fun _ _ _ h => h) (Or.inr ⟨by rfl, rfl⟩) (by assumption) ?_
                  simp only [Act.put, List.setIfInBounds_toArray, List.set_cons_zero, List.set_cons_succ]
                  refine take_at 17 142 (.bool false) rfl rfl (by kernel_rfl) (by kernel_rfl) (by kernel_rfl) (fun _ _ _ h => h) (Or.inl ⟨by rfl, fun w hSw => by (try dsimp only at hSw); go_simp⟩) (by assumption) ?_
                  simp only [Act.put, List.setIfInBounds_toArray, List.set_cons_zero, List.set_cons_succ]
                  refine wpAnyH_done (by kernel_rfl) ?_ _
                  exact HR.out _ _ ⟨_, _, _, _, _, _, _, _, _, _, _, _, _, _, _, _, _, rfl, HF8⟩
                · have HQ12 : Hid (Below V2.heap.size V2 W10.drew) := HF10.out.drew
                  have qB := HIB.out hI1 hJ1
                  go_region_held3 (fun W => ((W.cell? ⟨p, 0, none⟩ = some (.float .f64 a) ∧ W.cell? ⟨p, 1, none⟩ = some (.float .f64 b)) ∧ (W.cell? ⟨q, 0, none⟩ = some (.float .f64 c) ∧ W.cell? ⟨q, 1, none⟩ = some (.float .f64 d)) ∧ (W.cell? ⟨r, 0, none⟩ = some (.float .f64 e) ∧ W.cell? ⟨r, 1, none⟩ = some (.float .f64 f)) ∧ (W.cell? ⟨s, 0, none⟩ = some (.float .f64 M1) ∧ W.cell? ⟨s, 1, none⟩ = some (.float .f64 M2))) ∧ Hid (Below V2.heap.size V2 W)) ((refine HC5.out _ ?_; repeat' (first | with_reducible assumption | with_reducible exact HQ12 | with_reducible exact And.right (by assumption) | with_reducible refine dr2 ?_))) (first | (go_at_call 13; refine (HI5.out _ _ _ _ _ (by assumption) (by assumption) (And.right (by assumption))).mono ?_; (first | rw [hI1] | rw [hJ1]); rintro r w4 ⟨rfl, ⟨hk5, hk6⟩, HF5, hs5, hv5⟩) | (go_at_call 9; refine (HU5.out _ _ _ _ _ (by assumption) (by assumption) (And.right (by assumption))).mono ?_; rintro r w4 ⟨rfl, hE5, ⟨hk5, hk6⟩, HF5, hs5, hv5⟩) | (go_at_call 11; refine (HS5.out _ _ _ _ _ (by assumption) (And.right (by assumption))).mono ?_; rintro r w4 ⟨rfl, ⟨hk5, hk6⟩, HF5, hs5, hv5⟩) | fail)
                  exact HR.out _ _ ⟨_, _, _, _, _, _, _, _, _, _, _, _, _, _, _, _, _, rfl, And.right (by assumption)⟩
            · obtain ⟨hK14, hK13⟩ := HK.out
              clear HK
              have HK14 := hid hK14
              clear hK14
              rintro a' W12 ⟨t125, t126, t127, t128, t129, t130, t131, t132, t133, t134, t135, t136, t137, t138, t139, t140, t141, rfl, HF12⟩
              simp only [Act.put, List.setIfInBounds_toArray, List.set_cons_zero, List.set_cons_succ]
              refine hK13 _ _ ?_
              clear hK13
              go_wp2_with fail
              refine HK14.out _ _ ?_
              clear HK14
              obtain ⟨⟨⟨x0, x1⟩, ⟨x2, x3⟩, ⟨x4, x5⟩, m0, m1⟩, _⟩ := HC5.out _ HF12
              have HQ14 : Hid (Below V2.heap.size V2 W12.drew) := HF12.out.drew
              go_wp2_with fail
              go_region_held3 (fun W => ((W.cell? ⟨p, 0, none⟩ = some (.float .f64 a) ∧ W.cell? ⟨p, 1, none⟩ = some (.float .f64 b)) ∧ (W.cell? ⟨q, 0, none⟩ = some (.float .f64 c) ∧ W.cell? ⟨q, 1, none⟩ = some (.float .f64 d)) ∧ (W.cell? ⟨r, 0, none⟩ = some (.float .f64 e) ∧ W.cell? ⟨r, 1, none⟩ = some (.float .f64 f)) ∧ (W.cell? ⟨s, 0, none⟩ = some (.float .f64 M1) ∧ W.cell? ⟨s, 1, none⟩ = some (.float .f64 M2))) ∧ Hid (Below V2.heap.size V2 W)) ((refine HC5.out _ ?_; repeat' (first | with_reducible assumption | with_reducible exact HQ14 | with_reducible exact And.right (by assumption) | with_reducible refine dr2 ?_))) (first | (go_at_call 14; refine (HMS5.out _ _ _ _ _ (by assumption) (by assumption) (And.right (by assumption))).mono ?_; rintro r w4 ⟨rfl, ⟨hk5, hk6⟩, HF5, hs5, hv5⟩) | (go_at_call 8; refine (HM5.out _ _ _ _ _ (by assumption) (by assumption) (And.right (by assumption))).mono ?_; rintro r w4 ⟨rfl, hE5, ⟨hk5, hk6⟩, HF5, hs5, hv5⟩) | (go_at_call 12; refine (HE5.out _ (And.right (by assumption))).mono ?_; rintro r w4 ⟨rfl, ⟨hk5, hk6⟩, HF5, hs5, hv5⟩) | (go_at_call 11; refine (HSB5.out _ _ _ _ _ (by assumption) (And.right (by assumption))).mono ?_; rintro r w4 ⟨rfl, ⟨hk5, hk6⟩, HF5, hs5, hv5⟩) | fail)
              go_wp2
              go_ret
              exact ⟨by simp, HT.out.trans (HF5.out.mono HT.out.size)⟩
end Go.Proofs.YtdahhpimhmloiaaDoor
