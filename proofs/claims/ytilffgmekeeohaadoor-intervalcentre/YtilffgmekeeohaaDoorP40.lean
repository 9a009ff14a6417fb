
/- The law IntervalCentre: its walk. -/
import Derived.Test.YtilffgmekeeohaaDoorP23
import Derived.Test.YtilffgmekeeohaaDoorP24
import Derived.Test.YtilffgmekeeohaaDoorP39
namespace Go.Proofs.YtilffgmekeeohaaDoor
open Go.RowKit Go.IntWalk

set_option maxHeartbeats 400000 in
theorem infin_any (x : Nat) (w : World) (hx : x < 18446744073709551616) : Calls Tryd.prog 11 #[.float .f64 x] w fun r w' => r = .returned (.bool (decide (x % 9223372036854775808 = 9218868437227405312))) ∧ w' = w := by
  have HI := hid (fun (W : World) => isinf6_fl x W hx)
  obtain ⟨B, hB⟩ : ∃ B, Hid (decide (x % 9223372036854775808 = 9218868437227405312) = B) := ⟨_, rfl⟩
  rw [hB.out] at HI ⊢
  clear hx
  go_enter Tryd.func11, Tryd.ntmps11
  go_wp2_with fail
  refine (HI.out _).mono ?_
  rintro r w1 ⟨rfl, rfl⟩
  go_wp2
  go_ret
  exact ⟨rfl, rfl⟩
theorem plus_fin {x : Nat} (hx : x < 18446744073709551616) (hn : x % 9223372036854775808 ≤ 9218868437227405312) (h : plusOf x % 9223372036854775808 < 9218868437227405312) : x % 9223372036854775808 < 9218868437227405312 := by
  unfold plusOf at h
  split at h
  · rename_i c
    rw [order_eq x 0 hx (by decide) hn (by decide)] at c
    have e := Int.compare_eq_eq.1 (Option.some.inj c)
    apply Classical.byContradiction
    intro k
    have k2 : x % 9223372036854775808 = 9218868437227405312 := by omega
    have z : sv 0 = 0 := by decide +kernel
    have hp := pi_pos
    have : sv x = PI ∨ sv x = -PI := by
      rw [pi_nv]; unfold sv; rw [k2]
      split
      · right; rfl
      · left; rfl
    omega
  · exact h
theorem none_bt6 (a b : Nat) (h : fullB a b = false) : noneB (btLo a b) (btHi a b) = true := by
  have e1 : btLo a b = 9218868437227405312 := if_neg (by rw [h]; decide)
  have e2 : btHi a b = 18442240474082181120 := if_neg (by rw [h]; decide)
  rw [e1, e2]
  decide +kernel
set_option maxRecDepth 8000 in
set_option maxHeartbeats 8000000 in
theorem centre_not (a b : Nat) (w : World) (ha : a < 18446744073709551616) (hb : b < 18446744073709551616) (hA : ∀ W, Below w.heap.size w W → Calls Tryd.prog 4 #[] W fun r w' => r = .returned (.bool true) ∧ Below W.heap.size W w') (hF : fullB a b = false) : Calls Tryd.prog 3 #[.agg #[.int .u64 a, .int .u64 b]] w fun r w' => r = .returned (.bool true) ∧ Below w.heap.size w w' := by
  have hNN := none_bt6 a b hF
  have hM := fun W => Mid_none a b W hNN
  have hR := fun W => Radius_none a b W hNN
  have hU := fun W => Width_none a b W hNN
  have hnan : FloatKind.f64.format.order 9221120237041090561 9221120237041090561 = none := by decide +kernel
  have HNG := hid (fun h => none_gt (a := a) (b := b) ⟨ha, hb⟩ h)
  clear hNN ha hb
  have g1 := inew w (.cells #[.int .u64 a, .int .u64 b] 24)
  have HB0 : Hid (Below w.heap.size w (w.alloc (.cells #[.int .u64 a, .int .u64 b] 24))) := (Below.refl _ _).alloc (Nat.le_refl _) _
  obtain ⟨W0, hW0⟩ : ∃ V, Hid (w.alloc (.cells #[.int .u64 a, .int .u64 b] 24) = V) := ⟨_, rfl⟩
  rw [hW0.out] at HB0 g1
  have HCP : Hid (∀ W, Below W0.heap.size W0 W → W.cell? ⟨w.heap.size, 0, none⟩ = some (.int .u64 a) ∧ W.cell? ⟨w.heap.size, 1, none⟩ = some (.int .u64 b)) := fun W hW => by
    have t1 := icells_of ((hW.block _ (Array.getElem?_eq_some_iff.1 g1).1).trans g1)
    exact ⟨t1.1, t1.2.1⟩
  have HA := hid (hA W0 HB0.out)
  have HO := hid (of6_any a b)
  have HM0 := hid hM
  have HR0 := hid hR
  have HU0 := hid hU
  have hst := fstore
  have hW0' := hW0.out
  unfold IV at HO
  clear g1 hA hM hR hU
  go_enter Tryd.func3, Tryd.ntmps3
  go_wp2_with fail
  refine HA.out.mono ?_
  rintro z w1 ⟨rfl, hb1⟩
  obtain ⟨y0, y1⟩ := HCP.out _ hb1
  have HB1 := hid (HB0.out.trans (hb1.mono HB0.out.size))
  clear hb1
  go_wp2_with fail
  refine (HO.out _).mono ?_
  rintro z w2 ⟨rfl, hb2, hz2⟩
  clear hz2
  have HBV : Hid (Below w.heap.size w (w2.alloc (IBox a b))) := (HB1.out.trans (hb2.mono HB1.out.size)).alloc (Nat.le_trans HB1.out.size hb2.size) _
  have HKV : Hid (BY (w2.alloc (IBox a b)) w2.heap.size a b) := inew _ _
  obtain ⟨V, hV⟩ : ∃ V, Hid (w2.alloc (IBox a b) = V) := ⟨_, rfl⟩
  rw [hV.out] at HBV HKV
  have HM := hid (fr6 V _ _ _ HKV.out HM0.out)
  have HR := hid (fr6 V _ _ _ HKV.out HR0.out)
  have HU := hid (fr6 V _ _ _ HKV.out HU0.out)
  have HIS := hid (fr6 V _ _ _ HKV.out (fun W => Is_any a b W))
  rw [hF] at HIS
  have HKX : Hid (∀ W, Hid (Below V.heap.size V W) → (W.cell? ⟨w2.heap.size, 0, none⟩ = some (.float .f64 a) ∧ W.cell? ⟨w2.heap.size, 1, none⟩ = some (.float .f64 b)) ∧ Hid (Below V.heap.size V W)) := fun W hW => ⟨⟨(HKV.out.keep hW.out).cells.1, (HKV.out.keep hW.out).cells.2.1⟩, hW⟩
  have hV' := hV.out
  unfold IBox at hV'
  unfold IV at HM HR HU HIS
  have HQ4 : Hid (Below V.heap.size V V.drew) := (Below.refl _ _).drew
  obtain ⟨⟨c0, c1⟩, _⟩ := HKX.out V (Below.refl _ _)
  clear hb2
  go_wp2_with fail
  go_region_held3 (fun W => (W.cell? ⟨w2.heap.size, 0, none⟩ = some (.float .f64 a) ∧ W.cell? ⟨w2.heap.size, 1, none⟩ = some (.float .f64 b)) ∧ Hid (Below V.heap.size V W))
    ((refine HKX.out _ ?_; first | with_reducible assumption | with_reducible exact HQ4 | with_reducible exact And.right (by assumption)))
    (first
      | (go_at_call 6; refine (HM.out _ (And.right (by assumption))).mono ?_; rintro z w3 ⟨rfl, ⟨c2, c3⟩, HF3⟩)
      | (go_at_call 7; refine (HR.out _ (And.right (by assumption))).mono ?_; rintro z w4 ⟨rfl, ⟨c4, c5⟩, HF4⟩)
      | (go_at_call 8; refine (HU.out _ (And.right (by assumption))).mono ?_; rintro z w5 ⟨rfl, ⟨c6, c7⟩, HF5⟩)
      | fail)
  go_wp2_with fail
  refine (HIS.out _ HF5).mono ?_
  rintro z w6 ⟨rfl, ⟨d0, d1⟩, HF6⟩
  rcases hn : noneB a b with _ | _
  · rw [Bool.false_or]
    go_wp2
    go_ret
    exact ⟨rfl, HBV.out.trans (HF6.out.mono HBV.out.size)⟩
  · have hgt := HNG.out hn
    rw [Bool.false_or]
    go_wp2
    go_ret
    exact ⟨rfl, HBV.out.trans (HF6.out.mono HBV.out.size)⟩
set_option maxRecDepth 8000 in
set_option maxHeartbeats 16000000 in
theorem centre_i1 (a b m r u : Nat) (w : World) (ha : a < 18446744073709551616) (hb : b < 18446744073709551616) (hA : ∀ W, Below w.heap.size w W → Calls Tryd.prog 4 #[] W fun r w' => r = .returned (.bool true) ∧ Below W.heap.size W w') (hF : fullB a b = true) (hM : ∀ W, Calls Tryd.prog 6 #[IV a b] W fun z w' => z = .returned (.float .f64 m) ∧ Below W.heap.size W w') (hR : ∀ W, Calls Tryd.prog 7 #[IV a b] W fun z w' => z = .returned (.float .f64 r) ∧ Below W.heap.size W w') (hU : ∀ W, Calls Tryd.prog 8 #[IV a b] W fun z w' => z = .returned (.float .f64 u) ∧ Below W.heap.size W w') (hH : hasB a b m = true) (hmt : m < 18446744073709551616) (hr0 : (FloatKind.f64.format.order r 0 == some .lt) = false) (hu0 : (FloatKind.f64.format.order u 0 == some .lt) = false) (hrt : r < 18446744073709551616) (hut : u < 18446744073709551616) (ia : a % 9223372036854775808 = 9218868437227405312) (ir : r = 9218868437227405312) (iu : u = 9218868437227405312) : Calls Tryd.prog 3 #[.agg #[.int .u64 a, .int .u64 b]] w fun r w' => r = .returned (.bool true) ∧ Below w.heap.size w w' := by
  have HHA0 := hid (fun (W : World) => Has_any a b m W ⟨ha, hb⟩ hmt)
  rw [hH] at HHA0
  have hle := full_le hF
  have HIa := hid (fun (W : World) => infin_any a W ha)
  have HIb := hid (fun (W : World) => infin_any b W hb)
  have HIr := hid (fun (W : World) => infin_any r W hrt)
  have HIu := hid (fun (W : World) => infin_any u W hut)
  rw [decide_eq_true ia] at HIa
  rw [decide_eq_true (by rw [ir])] at HIr
  rw [decide_eq_true (by rw [iu])] at HIu
  clear ia ir iu
  clear ha hb hH hmt hrt hut
  have g1 := inew w (.cells #[.int .u64 a, .int .u64 b] 24)
  have HB0 : Hid (Below w.heap.size w (w.alloc (.cells #[.int .u64 a, .int .u64 b] 24))) := (Below.refl _ _).alloc (Nat.le_refl _) _
  obtain ⟨W0, hW0⟩ : ∃ V, Hid (w.alloc (.cells #[.int .u64 a, .int .u64 b] 24) = V) := ⟨_, rfl⟩
  rw [hW0.out] at HB0 g1
  have HCP : Hid (∀ W, Below W0.heap.size W0 W → W.cell? ⟨w.heap.size, 0, none⟩ = some (.int .u64 a) ∧ W.cell? ⟨w.heap.size, 1, none⟩ = some (.int .u64 b)) := fun W hW => by
    have t1 := icells_of ((hW.block _ (Array.getElem?_eq_some_iff.1 g1).1).trans g1)
    exact ⟨t1.1, t1.2.1⟩
  have HA := hid (hA W0 HB0.out)
  have HO := hid (of6_any a b)
  have HM0 := hid hM
  have HR0 := hid hR
  have HU0 := hid hU
  have hst := fstore
  have hW0' := hW0.out
  unfold IV at HO
  clear g1 hA hM hR hU
  go_enter Tryd.func3, Tryd.ntmps3
  go_wp2_with fail
  refine HA.out.mono ?_
  rintro z w1 ⟨rfl, hb1⟩
  obtain ⟨y0, y1⟩ := HCP.out _ hb1
  have HB1 := hid (HB0.out.trans (hb1.mono HB0.out.size))
  clear hb1
  go_wp2_with fail
  refine (HO.out _).mono ?_
  rintro z w2 ⟨rfl, hb2, hz2⟩
  clear hz2
  have HBV : Hid (Below w.heap.size w (w2.alloc (IBox a b))) := (HB1.out.trans (hb2.mono HB1.out.size)).alloc (Nat.le_trans HB1.out.size hb2.size) _
  have HKV : Hid (BY (w2.alloc (IBox a b)) w2.heap.size a b) := inew _ _
  obtain ⟨V, hV⟩ : ∃ V, Hid (w2.alloc (IBox a b) = V) := ⟨_, rfl⟩
  rw [hV.out] at HBV HKV
  have HM := hid (fr6 V _ _ _ HKV.out HM0.out)
  have HR := hid (fr6 V _ _ _ HKV.out HR0.out)
  have HU := hid (fr6 V _ _ _ HKV.out HU0.out)
  have HIS := hid (fr6 V _ _ _ HKV.out (fun W => Is_any a b W))
  rw [hF, Bool.true_or] at HIS
  have HHA := hid (fr6 V _ _ _ HKV.out HHA0.out)
  have HKX : Hid (∀ W, Hid (Below V.heap.size V W) → (W.cell? ⟨w2.heap.size, 0, none⟩ = some (.float .f64 a) ∧ W.cell? ⟨w2.heap.size, 1, none⟩ = some (.float .f64 b)) ∧ Hid (Below V.heap.size V W)) := fun W hW => ⟨⟨(HKV.out.keep hW.out).cells.1, (HKV.out.keep hW.out).cells.2.1⟩, hW⟩
  have hV' := hV.out
  unfold IBox at hV'
  unfold IV at HM HR HU HIS HHA
  have HQ4 : Hid (Below V.heap.size V V.drew) := (Below.refl _ _).drew
  obtain ⟨⟨c0, c1⟩, _⟩ := HKX.out V (Below.refl _ _)
  clear hb2
  go_wp2_with fail
  go_region_held3 (fun W => (W.cell? ⟨w2.heap.size, 0, none⟩ = some (.float .f64 a) ∧ W.cell? ⟨w2.heap.size, 1, none⟩ = some (.float .f64 b)) ∧ Hid (Below V.heap.size V W))
    ((refine HKX.out _ ?_; first | with_reducible assumption | with_reducible exact HQ4 | with_reducible exact And.right (by assumption)))
    (first
      | (go_at_call 6; refine (HM.out _ (And.right (by assumption))).mono ?_; rintro z w3 ⟨rfl, ⟨c2, c3⟩, HF3⟩)
      | (go_at_call 7; refine (HR.out _ (And.right (by assumption))).mono ?_; rintro z w4 ⟨rfl, ⟨c4, c5⟩, HF4⟩)
      | (go_at_call 8; refine (HU.out _ (And.right (by assumption))).mono ?_; rintro z w5 ⟨rfl, ⟨c6, c7⟩, HF5⟩)
      | fail)
  go_wp2_with fail
  refine (HIS.out _ HF5).mono ?_
  rintro z w6 ⟨rfl, ⟨d0, d1⟩, HF6⟩
  go_wp2_with fail
  refine (HHA.out _ HF6).mono ?_
  rintro z w7 ⟨rfl, ⟨d2, d3⟩, HF7⟩
  go_wp2_with fail
  refine (HIa.out _).mono ?_
  rintro z w8 ⟨rfl, rfl⟩
  go_wp2_with fail
  refine (HIr.out _).mono ?_
  rintro z w8 ⟨rfl, rfl⟩
  go_wp2_with fail
  refine (HIu.out _).mono ?_
  rintro z w8 ⟨rfl, rfl⟩
  go_wp2
  go_ret
  exact ⟨rfl, HBV.out.trans (HF7.out.mono HBV.out.size)⟩
set_option maxRecDepth 8000 in
set_option maxHeartbeats 16000000 in
theorem centre_i2 (a b m r u : Nat) (w : World) (ha : a < 18446744073709551616) (hb : b < 18446744073709551616) (hA : ∀ W, Below w.heap.size w W → Calls Tryd.prog 4 #[] W fun r w' => r = .returned (.bool true) ∧ Below W.heap.size W w') (hF : fullB a b = true) (hM : ∀ W, Calls Tryd.prog 6 #[IV a b] W fun z w' => z = .returned (.float .f64 m) ∧ Below W.heap.size W w') (hR : ∀ W, Calls Tryd.prog 7 #[IV a b] W fun z w' => z = .returned (.float .f64 r) ∧ Below W.heap.size W w') (hU : ∀ W, Calls Tryd.prog 8 #[IV a b] W fun z w' => z = .returned (.float .f64 u) ∧ Below W.heap.size W w') (hH : hasB a b m = true) (hmt : m < 18446744073709551616) (hr0 : (FloatKind.f64.format.order r 0 == some .lt) = false) (hu0 : (FloatKind.f64.format.order u 0 == some .lt) = false) (hrt : r < 18446744073709551616) (hut : u < 18446744073709551616) (ia : a % 9223372036854775808 < 9218868437227405312) (ib : b % 9223372036854775808 = 9218868437227405312) (ir : r = 9218868437227405312) (iu : u = 9218868437227405312) : Calls Tryd.prog 3 #[.agg #[.int .u64 a, .int .u64 b]] w fun r w' => r = .returned (.bool true) ∧ Below w.heap.size w w' := by
  have HHA0 := hid (fun (W : World) => Has_any a b m W ⟨ha, hb⟩ hmt)
  rw [hH] at HHA0
  have hle := full_le hF
  have HIa := hid (fun (W : World) => infin_any a W ha)
  have HIb := hid (fun (W : World) => infin_any b W hb)
  have HIr := hid (fun (W : World) => infin_any r W hrt)
  have HIu := hid (fun (W : World) => infin_any u W hut)
  rw [decide_eq_false (by omega)] at HIa
  rw [decide_eq_true ib] at HIb
  rw [decide_eq_true (by rw [ir])] at HIr
  rw [decide_eq_true (by rw [iu])] at HIu
  clear ia ib ir iu
  clear ha hb hH hmt hrt hut
  have g1 := inew w (.cells #[.int .u64 a, .int .u64 b] 24)
  have HB0 : Hid (Below w.heap.size w (w.alloc (.cells #[.int .u64 a, .int .u64 b] 24))) := (Below.refl _ _).alloc (Nat.le_refl _) _
  obtain ⟨W0, hW0⟩ : ∃ V, Hid (w.alloc (.cells #[.int .u64 a, .int .u64 b] 24) = V) := ⟨_, rfl⟩
  rw [hW0.out] at HB0 g1
  have HCP : Hid (∀ W, Below W0.heap.size W0 W → W.cell? ⟨w.heap.size, 0, none⟩ = some (.int .u64 a) ∧ W.cell? ⟨w.heap.size, 1, none⟩ = some (.int .u64 b)) := fun W hW => by
    have t1 := icells_of ((hW.block _ (Array.getElem?_eq_some_iff.1 g1).1).trans g1)
    exact ⟨t1.1, t1.2.1⟩
  have HA := hid (hA W0 HB0.out)
  have HO := hid (of6_any a b)
  have HM0 := hid hM
  have HR0 := hid hR
  have HU0 := hid hU
  have hst := fstore
  have hW0' := hW0.out
  unfold IV at HO
  clear g1 hA hM hR hU
  go_enter Tryd.func3, Tryd.ntmps3
  go_wp2_with fail
  refine HA.out.mono ?_
  rintro z w1 ⟨rfl, hb1⟩
  obtain ⟨y0, y1⟩ := HCP.out _ hb1
  have HB1 := hid (HB0.out.trans (hb1.mono HB0.out.size))
  clear hb1
  go_wp2_with fail
  refine (HO.out _).mono ?_
  rintro z w2 ⟨rfl, hb2, hz2⟩
  clear hz2
  have HBV : Hid (Below w.heap.size w (w2.alloc (IBox a b))) := (HB1.out.trans (hb2.mono HB1.out.size)).alloc (Nat.le_trans HB1.out.size hb2.size) _
  have HKV : Hid (BY (w2.alloc (IBox a b)) w2.heap.size a b) := inew _ _
  obtain ⟨V, hV⟩ : ∃ V, Hid (w2.alloc (IBox a b) = V) := ⟨_, rfl⟩
  rw [hV.out] at HBV HKV
  have HM := hid (fr6 V _ _ _ HKV.out HM0.out)
  have HR := hid (fr6 V _ _ _ HKV.out HR0.out)
  have HU := hid (fr6 V _ _ _ HKV.out HU0.out)
  have HIS := hid (fr6 V _ _ _ HKV.out (fun W => Is_any a b W))
  rw [hF, Bool.true_or] at HIS
  have HHA := hid (fr6 V _ _ _ HKV.out HHA0.out)
  have HKX : Hid (∀ W, Hid (Below V.heap.size V W) → (W.cell? ⟨w2.heap.size, 0, none⟩ = some (.float .f64 a) ∧ W.cell? ⟨w2.heap.size, 1, none⟩ = some (.float .f64 b)) ∧ Hid (Below V.heap.size V W)) := fun W hW => ⟨⟨(HKV.out.keep hW.out).cells.1, (HKV.out.keep hW.out).cells.2.1⟩, hW⟩
  have hV' := hV.out
  unfold IBox at hV'
  unfold IV at HM HR HU HIS HHA
  have HQ4 : Hid (Below V.heap.size V V.drew) := (Below.refl _ _).drew
  obtain ⟨⟨c0, c1⟩, _⟩ := HKX.out V (Below.refl _ _)
  clear hb2
  go_wp2_with fail
  go_region_held3 (fun W => (W.cell? ⟨w2.heap.size, 0, none⟩ = some (.float .f64 a) ∧ W.cell? ⟨w2.heap.size, 1, none⟩ = some (.float .f64 b)) ∧ Hid (Below V.heap.size V W))
    ((refine HKX.out _ ?_; first | with_reducible assumption | with_reducible exact HQ4 | with_reducible exact And.right (by assumption)))
    (first
      | (go_at_call 6; refine (HM.out _ (And.right (by assumption))).mono ?_; rintro z w3 ⟨rfl, ⟨c2, c3⟩, HF3⟩)
      | (go_at_call 7; refine (HR.out _ (And.right (by assumption))).mono ?_; rintro z w4 ⟨rfl, ⟨c4, c5⟩, HF4⟩)
      | (go_at_call 8; refine (HU.out _ (And.right (by assumption))).mono ?_; rintro z w5 ⟨rfl, ⟨c6, c7⟩, HF5⟩)
      | fail)
  go_wp2_with fail
  refine (HIS.out _ HF5).mono ?_
  rintro z w6 ⟨rfl, ⟨d0, d1⟩, HF6⟩
  go_wp2_with fail
  refine (HHA.out _ HF6).mono ?_
  rintro z w7 ⟨rfl, ⟨d2, d3⟩, HF7⟩
  go_wp2_with fail
  refine (HIa.out _).mono ?_
  rintro z w8 ⟨rfl, rfl⟩
  go_wp2_with fail
  refine (HIb.out _).mono ?_
  rintro z w8 ⟨rfl, rfl⟩
  go_wp2_with fail
  refine (HIr.out _).mono ?_
  rintro z w8 ⟨rfl, rfl⟩
  go_wp2_with fail
  refine (HIu.out _).mono ?_
  rintro z w8 ⟨rfl, rfl⟩
  go_wp2
  go_ret
  exact ⟨rfl, HBV.out.trans (HF7.out.mono HBV.out.size)⟩
set_option maxRecDepth 8000 in
set_option maxHeartbeats 16000000 in
theorem centre_f1 (a b m r u : Nat) (w : World) (ha : a < 18446744073709551616) (hb : b < 18446744073709551616) (hA : ∀ W, Below w.heap.size w W → Calls Tryd.prog 4 #[] W fun r w' => r = .returned (.bool true) ∧ Below W.heap.size W w') (hF : fullB a b = true) (hM : ∀ W, Calls Tryd.prog 6 #[IV a b] W fun z w' => z = .returned (.float .f64 m) ∧ Below W.heap.size W w') (hR : ∀ W, Calls Tryd.prog 7 #[IV a b] W fun z w' => z = .returned (.float .f64 r) ∧ Below W.heap.size W w') (hU : ∀ W, Calls Tryd.prog 8 #[IV a b] W fun z w' => z = .returned (.float .f64 u) ∧ Below W.heap.size W w') (hH : hasB a b m = true) (hmt : m < 18446744073709551616) (hr0 : (FloatKind.f64.format.order r 0 == some .lt) = false) (hu0 : (FloatKind.f64.format.order u 0 == some .lt) = false) (hrt : r < 18446744073709551616) (hut : u < 18446744073709551616) (ia : a % 9223372036854775808 < 9218868437227405312) (ib : b % 9223372036854775808 < 9218868437227405312) (ir : r = 9218868437227405312) (iu : u = 9218868437227405312) : Calls Tryd.prog 3 #[.agg #[.int .u64 a, .int .u64 b]] w fun r w' => r = .returned (.bool true) ∧ Below w.heap.size w w' := by
  have HHA0 := hid (fun (W : World) => Has_any a b m W ⟨ha, hb⟩ hmt)
  rw [hH] at HHA0
  have hle := full_le hF
  have HIa := hid (fun (W : World) => infin_any a W ha)
  have HIb := hid (fun (W : World) => infin_any b W hb)
  have HIr := hid (fun (W : World) => infin_any r W hrt)
  have HIu := hid (fun (W : World) => infin_any u W hut)
  rw [decide_eq_false (by omega)] at HIa
  rw [decide_eq_false (by omega)] at HIb
  rw [decide_eq_true (by rw [ir])] at HIr
  rw [decide_eq_true (by rw [iu])] at HIu
  clear ia ib ir iu
  clear ha hb hH hmt hrt hut
  have g1 := inew w (.cells #[.int .u64 a, .int .u64 b] 24)
  have HB0 : Hid (Below w.heap.size w (w.alloc (.cells #[.int .u64 a, .int .u64 b] 24))) := (Below.refl _ _).alloc (Nat.le_refl _) _
  obtain ⟨W0, hW0⟩ : ∃ V, Hid (w.alloc (.cells #[.int .u64 a, .int .u64 b] 24) = V) := ⟨_, rfl⟩
  rw [hW0.out] at HB0 g1
  have HCP : Hid (∀ W, Below W0.heap.size W0 W → W.cell? ⟨w.heap.size, 0, none⟩ = some (.int .u64 a) ∧ W.cell? ⟨w.heap.size, 1, none⟩ = some (.int .u64 b)) := fun W hW => by
    have t1 := icells_of ((hW.block _ (Array.getElem?_eq_some_iff.1 g1).1).trans g1)
    exact ⟨t1.1, t1.2.1⟩
  have HA := hid (hA W0 HB0.out)
  have HO := hid (of6_any a b)
  have HM0 := hid hM
  have HR0 := hid hR
  have HU0 := hid hU
  have hst := fstore
  have hW0' := hW0.out
  unfold IV at HO
  clear g1 hA hM hR hU
  go_enter Tryd.func3, Tryd.ntmps3
  go_wp2_with fail
  refine HA.out.mono ?_
  rintro z w1 ⟨rfl, hb1⟩
  obtain ⟨y0, y1⟩ := HCP.out _ hb1
  have HB1 := hid (HB0.out.trans (hb1.mono HB0.out.size))
  clear hb1
  go_wp2_with fail
  refine (HO.out _).mono ?_
  rintro z w2 ⟨rfl, hb2, hz2⟩
  clear hz2
  have HBV : Hid (Below w.heap.size w (w2.alloc (IBox a b))) := (HB1.out.trans (hb2.mono HB1.out.size)).alloc (Nat.le_trans HB1.out.size hb2.size) _
  have HKV : Hid (BY (w2.alloc (IBox a b)) w2.heap.size a b) := inew _ _
  obtain ⟨V, hV⟩ : ∃ V, Hid (w2.alloc (IBox a b) = V) := ⟨_, rfl⟩
  rw [hV.out] at HBV HKV
  have HM := hid (fr6 V _ _ _ HKV.out HM0.out)
  have HR := hid (fr6 V _ _ _ HKV.out HR0.out)
  have HU := hid (fr6 V _ _ _ HKV.out HU0.out)
  have HIS := hid (fr6 V _ _ _ HKV.out (fun W => Is_any a b W))
  rw [hF, Bool.true_or] at HIS
  have HHA := hid (fr6 V _ _ _ HKV.out HHA0.out)
  have HKX : Hid (∀ W, Hid (Below V.heap.size V W) → (W.cell? ⟨w2.heap.size, 0, none⟩ = some (.float .f64 a) ∧ W.cell? ⟨w2.heap.size, 1, none⟩ = some (.float .f64 b)) ∧ Hid (Below V.heap.size V W)) := fun W hW => ⟨⟨(HKV.out.keep hW.out).cells.1, (HKV.out.keep hW.out).cells.2.1⟩, hW⟩
  have hV' := hV.out
  unfold IBox at hV'
  unfold IV at HM HR HU HIS HHA
  have HQ4 : Hid (Below V.heap.size V V.drew) := (Below.refl _ _).drew
  obtain ⟨⟨c0, c1⟩, _⟩ := HKX.out V (Below.refl _ _)
  clear hb2
  go_wp2_with fail
  go_region_held3 (fun W => (W.cell? ⟨w2.heap.size, 0, none⟩ = some (.float .f64 a) ∧ W.cell? ⟨w2.heap.size, 1, none⟩ = some (.float .f64 b)) ∧ Hid (Below V.heap.size V W))
    ((refine HKX.out _ ?_; first | with_reducible assumption | with_reducible exact HQ4 | with_reducible exact And.right (by assumption)))
    (first
      | (go_at_call 6; refine (HM.out _ (And.right (by assumption))).mono ?_; rintro z w3 ⟨rfl, ⟨c2, c3⟩, HF3⟩)
      | (go_at_call 7; refine (HR.out _ (And.right (by assumption))).mono ?_; rintro z w4 ⟨rfl, ⟨c4, c5⟩, HF4⟩)
      | (go_at_call 8; refine (HU.out _ (And.right (by assumption))).mono ?_; rintro z w5 ⟨rfl, ⟨c6, c7⟩, HF5⟩)
      | fail)
  go_wp2_with fail
  refine (HIS.out _ HF5).mono ?_
  rintro z w6 ⟨rfl, ⟨d0, d1⟩, HF6⟩
  go_wp2_with fail
  refine (HHA.out _ HF6).mono ?_
  rintro z w7 ⟨rfl, ⟨d2, d3⟩, HF7⟩
  go_wp2_with fail
  refine (HIa.out _).mono ?_
  rintro z w8 ⟨rfl, rfl⟩
  go_wp2_with fail
  refine (HIb.out _).mono ?_
  rintro z w8 ⟨rfl, rfl⟩
  go_wp2_with fail
  refine (HIr.out _).mono ?_
  rintro z w8 ⟨rfl, rfl⟩
  go_wp2_with fail
  refine (HIu.out _).mono ?_
  rintro z w8 ⟨rfl, rfl⟩
  go_wp2
  go_ret
  exact ⟨rfl, HBV.out.trans (HF7.out.mono HBV.out.size)⟩
end Go.Proofs.YtilffgmekeeohaaDoor
