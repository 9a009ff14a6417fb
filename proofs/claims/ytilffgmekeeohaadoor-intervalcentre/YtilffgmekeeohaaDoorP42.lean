
/- The law IntervalCentre, finite ends and a finite width: its walk. -/
import Derived.Test.YtilffgmekeeohaaDoorP41
namespace Go.Proofs.YtilffgmekeeohaaDoor
open Go.RowKit Go.IntWalk

set_option maxRecDepth 8000 in
set_option maxHeartbeats 16000000 in
theorem centre_f3 (a b m r u : Nat) (w : World) (ha : a < 18446744073709551616) (hb : b < 18446744073709551616) (hA : ∀ W, Below w.heap.size w W → Calls Tryd.prog 4 #[] W fun r w' => r = .returned (.bool true) ∧ Below W.heap.size W w') (hF : fullB a b = true) (hM : ∀ W, Calls Tryd.prog 6 #[IV a b] W fun z w' => z = .returned (.float .f64 m) ∧ Below W.heap.size W w') (hR : ∀ W, Calls Tryd.prog 7 #[IV a b] W fun z w' => z = .returned (.float .f64 r) ∧ Below W.heap.size W w') (hU : ∀ W, Calls Tryd.prog 8 #[IV a b] W fun z w' => z = .returned (.float .f64 u) ∧ Below W.heap.size W w') (hH : hasB a b m = true) (hmt : m < 18446744073709551616) (hr0 : (FloatKind.f64.format.order r 0 == some .lt) = false) (hu0 : (FloatKind.f64.format.order u 0 == some .lt) = false) (hrt : r < 18446744073709551616) (hut : u < 18446744073709551616) (ia : a % 9223372036854775808 < 9218868437227405312) (ib : b % 9223372036854775808 < 9218868437227405312) (ir : r % 9223372036854775808 < 9218868437227405312) (hmf : m % 9223372036854775808 < 9218868437227405312) (k1 : sv m - sv r ≤ sv a) (k2 : sv b ≤ sv m + sv r) (iu : u % 9223372036854775808 < 9218868437227405312) (k3 : sv b - sv a ≤ sv u) : Calls Tryd.prog 3 #[.agg #[.int .u64 a, .int .u64 b]] w fun r w' => r = .returned (.bool true) ∧ Below w.heap.size w w' := by
  have HHA0 := hid (fun (W : World) => Has_any a b m W ⟨ha, hb⟩ hmt)
  rw [hH] at HHA0
  have hle := full_le hF
  have HIa := hid (fun (W : World) => infin_any a W ha)
  have HIb := hid (fun (W : World) => infin_any b W hb)
  have HIr := hid (fun (W : World) => infin_any r W hrt)
  have HIu := hid (fun (W : World) => infin_any u W hut)
  rw [decide_eq_false (by omega)] at HIa
  rw [decide_eq_false (by omega)] at HIb
  rw [decide_eq_false (by omega)] at HIr
  have HOm := hid (fun (W : World) => xOf_fin m W hmt hmf)
  have HOr := hid (fun (W : World) => xOf_fin r W hrt ir)
  have HOa := hid (fun (W : World) => xOf_fin a W ha ia)
  have HOb := hid (fun (W : World) => xOf_fin b W hb ib)
  have j1 : sgnZ (sv m + -sv r - sv a) ≤ 0 := sgn_le (by omega)
  have j2 : 0 ≤ sgnZ (sv m + sv r - sv b) := sgn_ge (by omega)
  rw [decide_eq_false (by omega)] at HIu
  have HOu := hid (fun (W : World) => xOf_fin u W hut iu)
  have j3 : 0 ≤ sgnZ (sv u - (sv b + -sv a)) := sgn_ge (by omega)
  clear ia ib ir iu hmf k1 k2 k3
  clear ha hb hH hmt hrt hut
  have g1 := inew w (.cells #[.int .u64 a, .int .u64 b] 24)
  have HB0 : Hid (Below w.heap.size w (w.alloc (.cells #[.int .u64 a, .int .u64 b] 24))) := (Below.refl _ _).alloc (Nat.le_refl _) _
  obtain ⟨W0, hW0⟩ : ∃ V, Hid (w.alloc (.cells #[.int .u64 a, .int .u64 b] 24) = V) := ⟨_, rfl⟩
  rw [hW0.out] at HB0 g1
  have HCP : Hid (∀ W, Below W0.heap.size W0 W → W.cell? ⟨w.heap.size, 0, none⟩ = some (.int .u64 a) ∧ W.cell? ⟨w.heap.size, 1, none⟩ = some (.int .u64 b)) := fun W hW => by
    have t1 := icells_of ((hW.block _ (Array.getElem?_eq_some_iff.1 g1).1).trans g1)
    exact ⟨t1.1, t1.2.1⟩
  have HA := hid (hA W0 HB0.out)
  have HO := hid (of6_any a b)
  have HM0 := hid hM
  have HR0 := hid hR
  have HU0 := hid hU
  have hst := fstore
  have hW0' := hW0.out
  unfold IV at HO
  clear g1 hA hM hR hU
  go_enter Tryd.func3, Tryd.ntmps3
  go_wp2_with fail
  refine HA.out.mono ?_
  rintro z w1 ⟨rfl, hb1⟩
  obtain ⟨y0, y1⟩ := HCP.out _ hb1
  have HB1 := hid (HB0.out.trans (hb1.mono HB0.out.size))
  clear hb1
  go_wp2_with fail
  refine (HO.out _).mono ?_
  rintro z w2 ⟨rfl, hb2, hz2⟩
  clear hz2
  have HBV : Hid (Below w.heap.size w (w2.alloc (IBox a b))) := (HB1.out.trans (hb2.mono HB1.out.size)).alloc (Nat.le_trans HB1.out.size hb2.size) _
  have HKV : Hid (BY (w2.alloc (IBox a b)) w2.heap.size a b) := inew _ _
  obtain ⟨V, hV⟩ : ∃ V, Hid (w2.alloc (IBox a b) = V) := ⟨_, rfl⟩
  rw [hV.out] at HBV HKV
  have HM := hid (fr6 V _ _ _ HKV.out HM0.out)
  have HR := hid (fr6 V _ _ _ HKV.out HR0.out)
  have HU := hid (fr6 V _ _ _ HKV.out HU0.out)
  have HIS := hid (fr6 V _ _ _ HKV.out (fun W => Is_any a b W))
  rw [hF, Bool.true_or] at HIS
  have HHA := hid (fr6 V _ _ _ HKV.out HHA0.out)
  have HKX : Hid (∀ W, Hid (Below V.heap.size V W) → (W.cell? ⟨w2.heap.size, 0, none⟩ = some (.float .f64 a) ∧ W.cell? ⟨w2.heap.size, 1, none⟩ = some (.float .f64 b)) ∧ Hid (Below V.heap.size V W)) := fun W hW => ⟨⟨(HKV.out.keep hW.out).cells.1, (HKV.out.keep hW.out).cells.2.1⟩, hW⟩
  have hV' := hV.out
  unfold IBox at hV'
  unfold IV at HM HR HU HIS HHA
  have HQ4 : Hid (Below V.heap.size V V.drew) := (Below.refl _ _).drew
  obtain ⟨⟨c0, c1⟩, _⟩ := HKX.out V (Below.refl _ _)
  clear hb2
  go_wp2_with fail
  go_region_held3 (fun W => (W.cell? ⟨w2.heap.size, 0, none⟩ = some (.float .f64 a) ∧ W.cell? ⟨w2.heap.size, 1, none⟩ = some (.float .f64 b)) ∧ Hid (Below V.heap.size V W))
    ((refine HKX.out _ ?_; first | with_reducible assumption | with_reducible exact HQ4 | with_reducible exact And.right (by assumption)))
    (first
      | (go_at_call 6; refine (HM.out _ (And.right (by assumption))).mono ?_; rintro z w3 ⟨rfl, ⟨c2, c3⟩, HF3⟩)
      | (go_at_call 7; refine (HR.out _ (And.right (by assumption))).mono ?_; rintro z w4 ⟨rfl, ⟨c4, c5⟩, HF4⟩)
      | (go_at_call 8; refine (HU.out _ (And.right (by assumption))).mono ?_; rintro z w5 ⟨rfl, ⟨c6, c7⟩, HF5⟩)
      | fail)
  go_wp2_with fail
  refine (HIS.out _ HF5).mono ?_
  rintro z w6 ⟨rfl, ⟨d0, d1⟩, HF6⟩
  go_wp2_with fail
  refine (HHA.out _ HF6).mono ?_
  rintro z w7 ⟨rfl, ⟨d2, d3⟩, HF7⟩
  go_wp2_with fail
  refine (HIa.out _).mono ?_
  rintro z w8 ⟨rfl, rfl⟩
  go_wp2_with fail
  refine (HIb.out _).mono ?_
  rintro z w8 ⟨rfl, rfl⟩
  go_wp2_with fail
  refine (HIr.out _).mono ?_
  rintro z w8 ⟨rfl, rfl⟩
  go_wp2_with fail
  refine (HOm.out _).mono ?_
  rintro z x1 ⟨p1, e1, rfl, ⟨b1, b1'⟩, hx, hb⟩
  have HB1 : Hid (Below V.heap.size V x1) := HF7.out.trans (hb.mono HF7.out.size)
  have HX1 := hid hx
  clear hx
  clear hb
  go_wp2_with fail
  refine (HOr.out _).mono ?_
  rintro z x2 ⟨p2, e2, rfl, ⟨b2, b2'⟩, hx, hb⟩
  have HB2 : Hid (Below V.heap.size V x2) := HB1.out.trans (hb.mono HB1.out.size)
  have HX2 := hid hx
  have HX1 := hid (HX1.out.below hb)
  clear hx
  clear hb
  go_wp2_with fail
  refine (xNeg_val p2 2 e2 _ _ _ HX2.out (by decide)).mono ?_
  rintro z x3 ⟨p3, rfl, hx, hb⟩
  have HB3 : Hid (Below V.heap.size V x3) := HB2.out.trans (hb.mono HB2.out.size)
  have HX3 := hid hx
  have HX1 := hid (HX1.out.below hb)
  clear hx
  clear hb
  go_wp2_with fail
  refine (xAdd_val p1 p3 2 2 e1 e2 _ _ _ _ HX1.out HX3.out (by decide) (by decide) (by omega) (by omega)).mono ?_
  rintro z x4 ⟨p4, e4, rfl, ⟨b4, b4'⟩, hx, hb⟩
  have HB4 : Hid (Below V.heap.size V x4) := HB3.out.trans (hb.mono HB3.out.size)
  have HX4 := hid hx
  clear hx
  clear hb
  have hE4 : e4 ≤ 2000 := by omega
  go_wp2_with fail
  refine (HOm.out _).mono ?_
  rintro z x5 ⟨p5, e5, rfl, ⟨b5, b5'⟩, hx, hb⟩
  have HB5 : Hid (Below V.heap.size V x5) := HB4.out.trans (hb.mono HB4.out.size)
  have HX5 := hid hx
  have HX4 := hid (HX4.out.below hb)
  clear hx
  clear hb
  go_wp2_with fail
  refine (HOr.out _).mono ?_
  rintro z x6 ⟨p6, e6, rfl, ⟨b6, b6'⟩, hx, hb⟩
  have HB6 : Hid (Below V.heap.size V x6) := HB5.out.trans (hb.mono HB5.out.size)
  have HX6 := hid hx
  have HX5 := hid (HX5.out.below hb)
  have HX4 := hid (HX4.out.below hb)
  clear hx
  clear hb
  go_wp2_with fail
  refine (xAdd_val p5 p6 2 2 e5 e6 _ _ _ _ HX5.out HX6.out (by decide) (by decide) (by omega) (by omega)).mono ?_
  rintro z x7 ⟨p7, e7, rfl, ⟨b7, b7'⟩, hx, hb⟩
  have HB7 : Hid (Below V.heap.size V x7) := HB6.out.trans (hb.mono HB6.out.size)
  have HX7 := hid hx
  have HX4 := hid (HX4.out.below hb)
  clear hx
  clear hb
  have hE7 : e7 ≤ 2000 := by omega
  obtain ⟨gl, gh⟩ := two_blk x7 (XBox (some ⟨p4, 0, none⟩) e4) (XBox (some ⟨p7, 0, none⟩) e7)
  have hal : Below x7.heap.size x7 ((x7.alloc (XBox (some ⟨p4, 0, none⟩) e4)).alloc (XBox (some ⟨p7, 0, none⟩) e7)) := ((Below.refl _ _).alloc (Nat.le_refl _) _).alloc (by simp) _
  have HE4 := hid (HX4.out.below hal)
  have HE7 := hid (HX7.out.below hal)
  have HBV14 : Hid (Below V.heap.size V ((x7.alloc (XBox (some ⟨p4, 0, none⟩) e4)).alloc (XBox (some ⟨p7, 0, none⟩) e7))) := HB7.out.trans (hal.mono HB7.out.size)
  obtain ⟨V14, hV14⟩ : ∃ X, Hid ((x7.alloc (XBox (some ⟨p4, 0, none⟩) e4)).alloc (XBox (some ⟨p7, 0, none⟩) e7) = X) := ⟨_, rfl⟩
  rw [hV14.out] at gl gh HE4 HE7 HBV14
  have HE4 : Hid (∀ W, Hid (Below V14.heap.size V14 W) → ExV W p4 e4 (-1074) (sv m + -sv r) (max 2 2 + 4000)) := fun W hW => HE4.out.below hW.out
  have HE7 : Hid (∀ W, Hid (Below V14.heap.size V14 W) → ExV W p7 e7 (-1074) (sv m + sv r) (max 2 2 + 4000)) := fun W hW => HE7.out.below hW.out
  have HK14 : Hid (∀ W, Hid (Below V14.heap.size V14 W) → (fun W => ((W.cell? ⟨w2.heap.size, 0, none⟩ = some (.float .f64 a) ∧ W.cell? ⟨w2.heap.size, 1, none⟩ = some (.float .f64 b)) ∧ (W.cell? ⟨x7.heap.size, 0, none⟩ = some (.pointer (some ⟨p4, 0, none⟩)) ∧ W.cell? ⟨x7.heap.size, 1, none⟩ = some (.int .i64 e4)) ∧ (W.cell? ⟨x7.heap.size + 1, 0, none⟩ = some (.pointer (some ⟨p7, 0, none⟩)) ∧ W.cell? ⟨x7.heap.size + 1, 1, none⟩ = some (.int .i64 e7))) ∧ Hid (Below V14.heap.size V14 W)) W) := fun W hW => by
    have k1 := HKV.out.keep (HBV14.out.trans (hW.out.mono HBV14.out.size))
    have t1 := icells_of ((hW.out.block _ (Array.getElem?_eq_some_iff.1 gl).1).trans gl)
    have t2 := icells_of ((hW.out.block _ (Array.getElem?_eq_some_iff.1 gh).1).trans gh)
    exact ⟨⟨⟨k1.cells.1, k1.cells.2.1⟩, ⟨t1.1, t1.2.1⟩, t2.1, t2.2.1⟩, hW⟩
  have hV14x := hV14.out
  unfold XBox at hV14x
  have HQ14 : Hid (Below V14.heap.size V14 V14.drew) := (Below.refl _ _).drew
  clear hal gl gh HX1 HX2 HX3 HX4 HX5 HX6 HX7
  go_wp2_with fail
  refine wp_region_held_drew (S := (fun W => ((W.cell? ⟨w2.heap.size, 0, none⟩ = some (.float .f64 a) ∧ W.cell? ⟨w2.heap.size, 1, none⟩ = some (.float .f64 b)) ∧ (W.cell? ⟨x7.heap.size, 0, none⟩ = some (.pointer (some ⟨p4, 0, none⟩)) ∧ W.cell? ⟨x7.heap.size, 1, none⟩ = some (.int .i64 e4)) ∧ (W.cell? ⟨x7.heap.size + 1, 0, none⟩ = some (.pointer (some ⟨p7, 0, none⟩)) ∧ W.cell? ⟨x7.heap.size + 1, 1, none⟩ = some (.int .i64 e7))) ∧ Hid (Below V14.heap.size V14 W))) (by kernel_rfl) (HK14.out _ HQ14) (fun hHeld => ?_)
  refine take_at 0 84 (.agg #[.pointer (some ⟨p4, 0, none⟩), .int .i64 e4]) rfl rfl (by kernel_rfl) (by kernel_rfl) (by kernel_rfl) (fun _ _ _ h => h) (Or.inl ⟨by rfl, fun w hSw => by (try dsimp only at hSw); go_simp⟩) (by assumption) ?_
  simp only [Act.put, List.setIfInBounds_toArray, List.set_cons_zero, List.set_cons_succ]
  refine take_at 1 85 (.pointer (some ⟨w2.heap.size, 0, none⟩)) rfl rfl (by kernel_rfl) (by kernel_rfl) (by kernel_rfl) (fun _ _ _ h => h) (Or.inl ⟨by rfl, fun w hSw => by (try dsimp only at hSw); go_simp⟩) (by assumption) ?_
  simp only [Act.put, List.setIfInBounds_toArray, List.set_cons_zero, List.set_cons_succ]
  refine take_at 2 86 (.float .f64 a) rfl rfl (by kernel_rfl) (by kernel_rfl) (by kernel_rfl) (fun _ _ _ h => h) (Or.inl ⟨by rfl, fun w hSw => by (try dsimp only at hSw); go_simp⟩) (by assumption) ?_
  simp only [Act.put, List.setIfInBounds_toArray, List.set_cons_zero, List.set_cons_succ]
  refine wpAnyH_ready (rs := [3]) (by kernel_rfl) (by simp) ?_
  refine AllReadyH.cons (o := _) rfl (fun K hK => ?_) AllReadyH.nil
  go_simp
  refine (HOa.out _).mono ?_
  rintro z v1 ⟨q1, f1, rfl, ⟨t1, t1'⟩, hq, hbq⟩
  have HF1 : Hid (Below V14.heap.size V14 v1) := HQ14.out.trans (hbq.mono HQ14.out.size)
  have HQ1 := hid hq
  clear hq hbq
  go_wp2_with fail
  refine hK.out _ _ (HK14.out _ HF1) (fun hHeld1 => ?_)
  clear hK K
  try simp only [Act.put, List.setIfInBounds_toArray, List.set_cons_zero, List.set_cons_succ]
  refine wpAnyH_ready (rs := [4]) (by kernel_rfl) (by simp) ?_
  refine AllReadyH.cons (o := _) rfl (fun K hK => ?_) AllReadyH.nil
  go_simp
  refine (xCmp_val p4 q1 (max 2 2 + 4000) 2 e4 f1 (-1074) _ _ _ (HE4.out _ HF1) HQ1.out (by decide) (by decide) (by omega) (by omega)).mono ?_
  rintro z v2 ⟨rfl, hbq⟩
  have HF2 : Hid (Below V14.heap.size V14 v2) := HF1.out.trans (hbq.mono HF1.out.size)
  clear hbq
  go_wp2_with fail
  refine hK.out _ _ (HK14.out _ HF2) (fun hHeld2 => ?_)
  clear hK K
  try simp only [Act.put, List.setIfInBounds_toArray, List.set_cons_zero, List.set_cons_succ]
  refine take_at 5 89 (.bool true) rfl rfl (by kernel_rfl) (by kernel_rfl) (by kernel_rfl) (fun _ _ _ h => h) (Or.inl ⟨by rfl, fun w hSw => by (try dsimp only at hSw); go_simp⟩) (by assumption) ?_
  simp only [Act.put, List.setIfInBounds_toArray, List.set_cons_zero, List.set_cons_succ]
  refine take_at 6 90 (.bool true) rfl rfl (by kernel_rfl) (by kernel_rfl) (by kernel_rfl) (fun _ _ _ h => h) (Or.inl ⟨by rfl, fun w hSw => by (try dsimp only at hSw); go_simp⟩) (by assumption) ?_
  simp only [Act.put, List.setIfInBounds_toArray, List.set_cons_zero, List.set_cons_succ]
  refine take_at 7 91 (.agg #[.pointer (some ⟨p7, 0, none⟩), .int .i64 e7]) rfl rfl (by kernel_rfl) (by kernel_rfl) (by kernel_rfl) (fun _ _ _ h => h) (Or.inl ⟨by rfl, fun w hSw => by (try dsimp only at hSw); go_simp⟩) (by assumption) ?_
  simp only [Act.put, List.setIfInBounds_toArray, List.set_cons_zero, List.set_cons_succ]
  refine take_at 8 92 (.pointer (some ⟨w2.heap.size, 1, none⟩)) rfl rfl (by kernel_rfl) (by kernel_rfl) (by kernel_rfl) (fun _ _ _ h => h) (Or.inl ⟨by rfl, fun w hSw => by (try dsimp only at hSw); go_simp⟩) (by assumption) ?_
  simp only [Act.put, List.setIfInBounds_toArray, List.set_cons_zero, List.set_cons_succ]
  refine take_at 9 93 (.float .f64 b) rfl rfl (by kernel_rfl) (by kernel_rfl) (by kernel_rfl) (fun _ _ _ h => h) (Or.inl ⟨by rfl, fun w hSw => by (try dsimp only at hSw); go_simp⟩) (by assumption) ?_
  simp only [Act.put, List.setIfInBounds_toArray, List.set_cons_zero, List.set_cons_succ]
  refine wpAnyH_ready (rs := [10]) (by kernel_rfl) (by simp) ?_
  refine AllReadyH.cons (o := _) rfl (fun K hK => ?_) AllReadyH.nil
  go_simp
  refine (HOb.out _).mono ?_
  rintro z v3 ⟨q2, f2, rfl, ⟨t3, t3'⟩, hq, hbq⟩
  have HF3 : Hid (Below V14.heap.size V14 v3) := HF2.out.trans (hbq.mono HF2.out.size)
  have HQ3 := hid hq
  clear hq hbq
  go_wp2_with fail
  refine hK.out _ _ (HK14.out _ HF3) (fun hHeld3 => ?_)
  clear hK K
  try simp only [Act.put, List.setIfInBounds_toArray, List.set_cons_zero, List.set_cons_succ]
  refine wpAnyH_ready (rs := [11]) (by kernel_rfl) (by simp) ?_
  refine AllReadyH.cons (o := _) rfl (fun K hK => ?_) AllReadyH.nil
  go_simp
  refine (xCmp_val p7 q2 (max 2 2 + 4000) 2 e7 f2 (-1074) _ _ _ (HE7.out _ HF3) HQ3.out (by decide) (by decide) (by omega) (by omega)).mono ?_
  rintro z v4 ⟨rfl, hbq⟩
  have HF4 : Hid (Below V14.heap.size V14 v4) := HF3.out.trans (hbq.mono HF3.out.size)
  clear hbq
  go_wp2_with fail
  refine hK.out _ _ (HK14.out _ HF4) (fun hHeld4 => ?_)
  clear hK K
  try simp only [Act.put, List.setIfInBounds_toArray, List.set_cons_zero, List.set_cons_succ]
  refine take_at 12 96 (.bool true) rfl rfl (by kernel_rfl) (by kernel_rfl) (by kernel_rfl) (fun _ _ _ h => h) (Or.inl ⟨by rfl, fun w hSw => by (try dsimp only at hSw); go_simp⟩) (by assumption) ?_
  simp only [Act.put, List.setIfInBounds_toArray, List.set_cons_zero, List.set_cons_succ]
  refine take_at 13 97 (.bool true) rfl rfl (by kernel_rfl) (by kernel_rfl) (by kernel_rfl) (fun _ _ _ h => h) (Or.inl ⟨by rfl, fun w hSw => by (try dsimp only at hSw); go_simp⟩) (by assumption) ?_
  simp only [Act.put, List.setIfInBounds_toArray, List.set_cons_zero, List.set_cons_succ]
  refine take_at 14 98 (.bool true) rfl rfl (by kernel_rfl) (by kernel_rfl) (by kernel_rfl) (fun _ _ _ h => h) (Or.inl ⟨by rfl, fun w hSw => by (try dsimp only at hSw); go_simp⟩) (by assumption) ?_
  simp only [Act.put, List.setIfInBounds_toArray, List.set_cons_zero, List.set_cons_succ]
  refine take_at 15 99 (.float .f64 u) rfl rfl (by kernel_rfl) (by kernel_rfl) (by kernel_rfl) (fun _ _ _ h => h) (Or.inl ⟨by rfl, fun w hSw => by (try dsimp only at hSw); go_simp⟩) (by assumption) ?_
  simp only [Act.put, List.setIfInBounds_toArray, List.set_cons_zero, List.set_cons_succ]
  refine wpAnyH_ready (rs := [16]) (by kernel_rfl) (by simp) ?_
  refine AllReadyH.cons (o := _) rfl (fun K hK => ?_) AllReadyH.nil
  go_simp
  refine (HIu.out _).mono ?_
  rintro z v5 ⟨rfl, rfl⟩
  go_wp2_with fail
  refine hK.out _ _ (HK14.out _ HF4) (fun hHeld5 => ?_)
  clear hK K
  try simp only [Act.put, List.setIfInBounds_toArray, List.set_cons_zero, List.set_cons_succ]
  refine take_at 17 101 (.bool false) rfl rfl (by kernel_rfl) (by kernel_rfl) (by kernel_rfl) (fun _ _ _ h => h) (Or.inl ⟨by rfl, fun w hSw => by (try dsimp only at hSw); go_simp⟩) (by assumption) ?_
  simp only [Act.put, List.setIfInBounds_toArray, List.set_cons_zero, List.set_cons_succ]
  refine take_at 18 102 (.float .f64 u) rfl rfl (by kernel_rfl) (by kernel_rfl) (by kernel_rfl) (fun _ _ _ h => h) (Or.inl ⟨by rfl, fun w hSw => by (try dsimp only at hSw); go_simp⟩) (by assumption) ?_
  simp only [Act.put, List.setIfInBounds_toArray, List.set_cons_zero, List.set_cons_succ]
  refine take_at 20 104 (.pointer (some ⟨w2.heap.size, 1, none⟩)) rfl rfl (by kernel_rfl) (by kernel_rfl) (by kernel_rfl) (fun _ _ _ h => h) (Or.inl ⟨by rfl, fun w hSw => by (try dsimp only at hSw); go_simp⟩) (by assumption) ?_
  simp only [Act.put, List.setIfInBounds_toArray, List.set_cons_zero, List.set_cons_succ]
  refine take_at 21 105 (.float .f64 b) rfl rfl (by kernel_rfl) (by kernel_rfl) (by kernel_rfl) (fun _ _ _ h => h) (Or.inl ⟨by rfl, fun w hSw => by (try dsimp only at hSw); go_simp⟩) (by assumption) ?_
  simp only [Act.put, List.setIfInBounds_toArray, List.set_cons_zero, List.set_cons_succ]
  refine take_at 23 107 (.pointer (some ⟨w2.heap.size, 0, none⟩)) rfl rfl (by kernel_rfl) (by kernel_rfl) (by kernel_rfl) (fun _ _ _ h => h) (Or.inl ⟨by rfl, fun w hSw => by (try dsimp only at hSw); go_simp⟩) (by assumption) ?_
  simp only [Act.put, List.setIfInBounds_toArray, List.set_cons_zero, List.set_cons_succ]
  refine take_at 24 108 (.float .f64 a) rfl rfl (by kernel_rfl) (by kernel_rfl) (by kernel_rfl) (fun _ _ _ h => h) (Or.inl ⟨by rfl, fun w hSw => by (try dsimp only at hSw); go_simp⟩) (by assumption) ?_
  simp only [Act.put, List.setIfInBounds_toArray, List.set_cons_zero, List.set_cons_succ]
  refine wpAnyH_ready (rs := [19]) (by kernel_rfl) (by simp) ?_
  refine AllReadyH.cons (o := _) rfl (fun K hK => ?_) AllReadyH.nil
  go_simp
  refine (HOu.out _).mono ?_
  rintro z v6 ⟨q3, f3, rfl, ⟨t6, t6'⟩, hq, hbq⟩
  have HF6 : Hid (Below V14.heap.size V14 v6) := HF4.out.trans (hbq.mono HF4.out.size)
  have HQ6 := hid hq
  clear hq hbq
  go_wp2_with fail
  refine hK.out _ _ (HK14.out _ HF6) (fun hHeld6 => ?_)
  clear hK K
  try simp only [Act.put, List.setIfInBounds_toArray, List.set_cons_zero, List.set_cons_succ]
  refine wpAnyH_ready (rs := [22]) (by kernel_rfl) (by simp) ?_
  refine AllReadyH.cons (o := _) rfl (fun K hK => ?_) AllReadyH.nil
  go_simp
  refine (HOb.out _).mono ?_
  rintro z v7 ⟨q4, f4, rfl, ⟨t7, t7'⟩, hq, hbq⟩
  have HF7 : Hid (Below V14.heap.size V14 v7) := HF6.out.trans (hbq.mono HF6.out.size)
  have HQ7 := hid hq
  have HQ6 := hid (HQ6.out.below hbq)
  clear hq hbq
  go_wp2_with fail
  refine hK.out _ _ (HK14.out _ HF7) (fun hHeld7 => ?_)
  clear hK K
  try simp only [Act.put, List.setIfInBounds_toArray, List.set_cons_zero, List.set_cons_succ]
  refine wpAnyH_ready (rs := [25]) (by kernel_rfl) (by simp) ?_
  refine AllReadyH.cons (o := _) rfl (fun K hK => ?_) AllReadyH.nil
  go_simp
  refine (HOa.out _).mono ?_
  rintro z v8 ⟨q5, f5, rfl, ⟨t8, t8'⟩, hq, hbq⟩
  have HF8 : Hid (Below V14.heap.size V14 v8) := HF7.out.trans (hbq.mono HF7.out.size)
  have HQ8 := hid hq
  have HQ6 := hid (HQ6.out.below hbq)
  have HQ7 := hid (HQ7.out.below hbq)
  clear hq hbq
  go_wp2_with fail
  refine hK.out _ _ (HK14.out _ HF8) (fun hHeld8 => ?_)
  clear hK K
  try simp only [Act.put, List.setIfInBounds_toArray, List.set_cons_zero, List.set_cons_succ]
  refine wpAnyH_ready (rs := [26]) (by kernel_rfl) (by simp) ?_
  refine AllReadyH.cons (o := _) rfl (fun K hK => ?_) AllReadyH.nil
  go_simp
  refine (xNeg_val q5 2 f5 _ _ _ HQ8.out (by decide)).mono ?_
  rintro z v9 ⟨q6, rfl, hq, hbq⟩
  have HF9 : Hid (Below V14.heap.size V14 v9) := HF8.out.trans (hbq.mono HF8.out.size)
  have HQ9 := hid hq
  have HQ6 := hid (HQ6.out.below hbq)
  have HQ7 := hid (HQ7.out.below hbq)
  clear hq hbq
  go_wp2_with fail
  refine hK.out _ _ (HK14.out _ HF9) (fun hHeld9 => ?_)
  clear hK K
  try simp only [Act.put, List.setIfInBounds_toArray, List.set_cons_zero, List.set_cons_succ]
  refine wpAnyH_ready (rs := [27]) (by kernel_rfl) (by simp) ?_
  refine AllReadyH.cons (o := _) rfl (fun K hK => ?_) AllReadyH.nil
  go_simp
  refine (xAdd_val q4 q6 2 2 f4 f5 _ _ _ _ HQ7.out HQ9.out (by decide) (by decide) (by omega) (by omega)).mono ?_
  rintro z v10 ⟨q7, f7, rfl, ⟨t10, t10'⟩, hq, hbq⟩
  have HF10 : Hid (Below V14.heap.size V14 v10) := HF9.out.trans (hbq.mono HF9.out.size)
  have HQ10 := hid hq
  have HQ6 := hid (HQ6.out.below hbq)
  clear hq hbq
  go_wp2_with fail
  refine hK.out _ _ (HK14.out _ HF10) (fun hHeld10 => ?_)
  clear hK K
  try simp only [Act.put, List.setIfInBounds_toArray, List.set_cons_zero, List.set_cons_succ]
  refine wpAnyH_ready (rs := [28]) (by kernel_rfl) (by simp) ?_
  refine AllReadyH.cons (o := _) rfl (fun K hK => ?_) AllReadyH.nil
  go_simp
  refine (xCmp_val q3 q7 2 (max 2 2 + 4000) f3 f7 (-1074) _ _ _ HQ6.out HQ10.out (by decide) (by decide) (by omega) (by omega)).mono ?_
  rintro z v11 ⟨rfl, hbq⟩
  have HF11 : Hid (Below V14.heap.size V14 v11) := HF10.out.trans (hbq.mono HF10.out.size)
  clear hbq
  go_wp2_with fail
  refine hK.out _ _ (HK14.out _ HF11) (fun hHeld11 => ?_)
  clear hK K
  try simp only [Act.put, List.setIfInBounds_toArray, List.set_cons_zero, List.set_cons_succ]
  refine take_at 29 113 (.bool true) rfl rfl (by kernel_rfl) (by kernel_rfl) (by kernel_rfl) (fun _ _ _ h => h) (Or.inl ⟨by rfl, fun w hSw => by (try dsimp only at hSw); go_simp⟩) (by assumption) ?_
  simp only [Act.put, List.setIfInBounds_toArray, List.set_cons_zero, List.set_cons_succ]
  refine take_at 30 114 (.bool true) rfl rfl (by kernel_rfl) (by kernel_rfl) (by kernel_rfl) (fun _ _ _ h => h) (Or.inl ⟨by rfl, fun w hSw => by (try dsimp only at hSw); go_simp⟩) (by assumption) ?_
  simp only [Act.put, List.setIfInBounds_toArray, List.set_cons_zero, List.set_cons_succ]
  refine take_at 31 115 (.bool true) rfl rfl (by kernel_rfl) (by kernel_rfl) (by kernel_rfl) (fun _ _ _ h => h) (Or.inl ⟨by rfl, fun w hSw => by (try dsimp only at hSw); go_simp⟩) (by assumption) ?_
  simp only [Act.put, List.setIfInBounds_toArray, List.set_cons_zero, List.set_cons_succ]
  refine take_at 32 2 (.bool true) rfl rfl (by kernel_rfl) (by kernel_rfl) (by kernel_rfl) (fun _ _ _ h => h) (Or.inl ⟨by rfl, fun w hSw => by (try dsimp only at hSw); go_simp⟩) (by assumption) ?_
  simp only [Act.put, List.setIfInBounds_toArray, List.set_cons_zero, List.set_cons_succ]
  refine wpAnyH_done (by kernel_rfl) ?_ _
  go_wp2
  go_ret
  have hv : Below V.heap.size V _ := HBV14.out.trans (HF11.out.mono HBV14.out.size)
  exact ⟨rfl, HBV.out.trans (hv.mono HBV.out.size)⟩
end Go.Proofs.YtilffgmekeeohaaDoor
