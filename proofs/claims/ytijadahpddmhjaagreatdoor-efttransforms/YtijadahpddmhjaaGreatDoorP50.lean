
/- Proved: for all bits of two numbers the law EftTransforms answers true: what eft's Two, Quick, Split, Prod and Fused answer is, bit by bit, what the document's steps answer, be the numbers finite, infinite or no numbers; chapter 4's first examples hold. Its condition: the library's two tables of trailing zeros start as the program's text lays them, to which the card ties them. -/
import Derived.Test.YtijadahpddmhjaaGreatDoorP48
import Derived.Test.YtijadahpddmhjaaGreatDoorP44
import Derived.Test.YtijadahpddmhjaaGreatDoorP43
import Derived.Test.YtijadahpddmhjaaGreatDoorP49
import Derived.Test.YtijadahpddmhjaaGreatDoorTie
import Derived.Test.YtijadahpddmhjaaGreatDoorCards
import Derived.SevenTiedAt
namespace Go.Proofs.YtijadahpddmhjaaGreatDoor
open Go.ChangeShapes Go.WideShapes Go.ChangeAt Go.RowKit Go.IntWalk

set_option maxRecDepth 4000 in
set_option maxHeartbeats 4000000 in
theorem transforms_law (a b : Nat) (w : World) (ha : a < 18446744073709551616) (hb : b < 18446744073709551616) (hT : Tab w) (hg : 2 < w.heap.size) (hT3 : Tab32 w) (hs : 1 < w.heap.size) :
    Calls Tryz.prog 3 #[.int .u64 a, .int .u64 b] w fun r w' => r = .returned (.bool true) ∧ Below w.heap.size w w' := by
  have HA : Hid (∀ W, Below w.heap.size w W → Calls Tryz.prog 17 #[] W fun r w' => r = .returned (.bool true) ∧ Below W.heap.size W w') := fun W hW => awake4_any W (hT.below hg hW) (Nat.lt_of_lt_of_le hg hW.size) (hT3.below hs hW) (Nat.lt_of_lt_of_le hs hW.size)
  have HT : Hid (∀ W, Below w.heap.size w W → Tab32 W ∧ 1 < W.heap.size) := fun W hW => ⟨hT3.below hs hW, Nat.lt_of_lt_of_le hs hW.size⟩
  have HP0 := hid (fun (W : World) => Two_can a b W ha hb)
  have HR0 := hid (fun (W : World) => rTwo_can a b W ha hb)
  have HP1 := hid (fun (W : World) => Quick_can a b W ha hb)
  have HR1 := hid (fun (W : World) => rQuick_can a b W ha hb)
  have HP2 := hid (fun (W : World) => Split_can a W ha)
  have HR2 := hid (fun (W : World) => rSplit_can a W ha)
  have HP3 := hid (fun (W : World) => Prod_can a b W ha hb)
  have HR3 := hid (fun (W : World) => rProd_can a b W ha hb)
  have HP4 := hid (fun (W : World) => Fused_can a b W ha hb)
  have HR4 := hid (fun (W : World) (h : Below w.heap.size w W) => rFused_can a b W ha hb (HT.out W h).1 (HT.out W h).2)
  have HB0 : Hid (Below w.heap.size w w) := Below.refl _ _
  clear ha hb hT hg hT3 hs
  obtain ⟨s0, hs0⟩ : ∃ s, Hid (twoS (canonOf a) (canonOf b) = s) := ⟨_, rfl⟩
  obtain ⟨e0, he0⟩ : ∃ s, Hid (twoE (canonOf a) (canonOf b) = s) := ⟨_, rfl⟩
  simp only [hs0.out, he0.out] at HP0 HR0
  obtain ⟨s1, hs1⟩ : ∃ s, Hid (twoS (canonOf a) (canonOf b) = s) := ⟨_, rfl⟩
  obtain ⟨e1, he1⟩ : ∃ s, Hid (quickE (canonOf a) (canonOf b) = s) := ⟨_, rfl⟩
  simp only [hs1.out, he1.out] at HP1 HR1
  obtain ⟨s2, hs2⟩ : ∃ s, Hid (splitH (canonOf a) = s) := ⟨_, rfl⟩
  obtain ⟨e2, he2⟩ : ∃ s, Hid (splitL (canonOf a) = s) := ⟨_, rfl⟩
  simp only [hs2.out, he2.out] at HP2 HR2
  obtain ⟨s3, hs3⟩ : ∃ s, Hid (caf .mul (canonOf a) (canonOf b) = s) := ⟨_, rfl⟩
  obtain ⟨e3, he3⟩ : ∃ s, Hid (prodE (canonOf a) (canonOf b) = s) := ⟨_, rfl⟩
  simp only [hs3.out, he3.out] at HP3 HR3
  obtain ⟨s4, hs4⟩ : ∃ s, Hid (caf .mul (canonOf a) (canonOf b) = s) := ⟨_, rfl⟩
  obtain ⟨e4, he4⟩ : ∃ s, Hid (fusE a b = s) := ⟨_, rfl⟩
  simp only [hs4.out, he4.out] at HP4 HR4
  go_enter Tryz.func3, Tryz.ntmps3
  go_wp2_with (first | (go_at_call 5; refine (lawf4 _ _).mono ?_; rintro r w9 ⟨rfl, rfl⟩))
  refine (HP0.out _).mono ?_
  rintro r u0 ⟨rfl, hb1⟩
  have HBa0 := hid (HB0.out.trans (hb1.mono HB0.out.size))
  clear hb1
  go_wp2_with fail
  refine (HR0.out _).mono ?_
  rintro r v0 ⟨t0, h0, rfl, c1, c2, c3, c4, hb1⟩
  have HBb0 := hid (HBa0.out.trans (hb1.mono HBa0.out.size))
  have HW0 := hid (fun (W : World) => two4 s0 e0 t0 h0 W c3 c4 c1 c2)
  clear hb1 c1 c2 c3 c4
  go_wp2_with fail
  refine (HW0.out _).mono ?_
  rintro r w9 ⟨rfl, rfl⟩
  go_wp2_with fail
  refine (HP1.out _).mono ?_
  rintro r u1 ⟨rfl, hb1⟩
  have HBa1 := hid (HBb0.out.trans (hb1.mono HBb0.out.size))
  clear hb1
  go_wp2_with fail
  refine (HR1.out _).mono ?_
  rintro r v1 ⟨t1, h1, rfl, c1, c2, c3, c4, hb1⟩
  have HBb1 := hid (HBa1.out.trans (hb1.mono HBa1.out.size))
  have HW1 := hid (fun (W : World) => two4 s1 e1 t1 h1 W c3 c4 c1 c2)
  clear hb1 c1 c2 c3 c4
  go_wp2_with fail
  refine (HW1.out _).mono ?_
  rintro r w9 ⟨rfl, rfl⟩
  go_wp2_with fail
  refine (HP2.out _).mono ?_
  rintro r u2 ⟨rfl, hb1⟩
  have HBa2 := hid (HBb1.out.trans (hb1.mono HBb1.out.size))
  clear hb1
  go_wp2_with fail
  refine (HR2.out _).mono ?_
  rintro r v2 ⟨t2, h2, rfl, c1, c2, c3, c4, hb1⟩
  have HBb2 := hid (HBa2.out.trans (hb1.mono HBa2.out.size))
  have HW2 := hid (fun (W : World) => two4 s2 e2 t2 h2 W c3 c4 c1 c2)
  clear hb1 c1 c2 c3 c4
  go_wp2_with fail
  refine (HW2.out _).mono ?_
  rintro r w9 ⟨rfl, rfl⟩
  go_wp2_with fail
  refine (HP3.out _).mono ?_
  rintro r u3 ⟨rfl, hb1⟩
  have HBa3 := hid (HBb2.out.trans (hb1.mono HBb2.out.size))
  clear hb1
  go_wp2_with fail
  refine (HR3.out _).mono ?_
  rintro r v3 ⟨t3, h3, rfl, c1, c2, c3, c4, hb1⟩
  have HBb3 := hid (HBa3.out.trans (hb1.mono HBa3.out.size))
  have HW3 := hid (fun (W : World) => two4 s3 e3 t3 h3 W c3 c4 c1 c2)
  clear hb1 c1 c2 c3 c4
  go_wp2_with fail
  refine (HW3.out _).mono ?_
  rintro r w9 ⟨rfl, rfl⟩
  go_wp2_with fail
  refine (HP4.out _).mono ?_
  rintro r u4 ⟨rfl, hb1⟩
  have HBa4 := hid (HBb3.out.trans (hb1.mono HBb3.out.size))
  clear hb1
  go_wp2_with fail
  refine (HR4.out _ HBa4.out).mono ?_
  rintro r v4 ⟨t4, h4, rfl, c1, c2, c3, c4, hb1⟩
  have HBb4 := hid (HBa4.out.trans (hb1.mono HBa4.out.size))
  have HW4 := hid (fun (W : World) => two4 s4 e4 t4 h4 W c3 c4 c1 c2)
  clear hb1 c1 c2 c3 c4
  go_wp2_with fail
  refine (HW4.out _).mono ?_
  rintro r w9 ⟨rfl, rfl⟩
  go_wp2_with fail
  refine (HA.out _ HBb4.out).mono ?_
  rintro r w9 ⟨rfl, hb1⟩
  have HB9 := hid (HBb4.out.trans (hb1.mono HBb4.out.size))
  clear hb1
  go_wp2
  go_ret
  exact ⟨rfl, HB9.out⟩

set_option maxRecDepth 100000 in
theorem eftTransforms_lifted (os : Os) (started : os.Started) (H : Type) (enc : TypeId × Value → H) :
    ReturnsInHanded {} Tryz.checked os 3 .any (fun w args => (Rows.eftTransformsSpec.pre enc Tryz.prog Tryz.f3 [] false w args ∧ laidMetH Tryz.prog [("math/bits.deBruijn32tab", Rows.laid_math_bits_deBruijn32tab), ("math/bits.deBruijn64tab", Rows.laid_math_bits_deBruijn64tab)] w) ∧ sizedMet enc Tryz.prog Tryz.f3 (OpenSpec.ofChange Rows.eftTransformsSpec) false w args)
      (Rows.eftTransformsSpec.post enc Tryz.prog Tryz.f3 false true false false) := by
  refine returnsInHanded_of_change_and (C := Tryz.checked) (X := fun w _ => laidMetH Tryz.prog [("math/bits.deBruijn32tab", Rows.laid_math_bits_deBruijn32tab), ("math/bits.deBruijn64tab", Rows.laid_math_bits_deBruijn64tab)] w) (fun _ _ _ hh h => h.of_heap hh) own started (by kernel_rfl) Tryz.func3
    (ChangeSpec.witness_shaped (enc := enc) (C := Tryz.checked) (os := os) (X := fun w _ => laidMetH Tryz.prog [("math/bits.deBruijn32tab", Rows.laid_math_bits_deBruijn32tab), ("math/bits.deBruijn64tab", Rows.laid_math_bits_deBruijn64tab)] w) false (World.doorLaid Tryz.prog 400 os) #[.int .u64 0, .int .u64 0] 8 rfl (World.shaped_of_RefB (by kernel_rfl) (by kernel_rfl)) (by kernel_rfl) (by kernel_rfl) (by kernel_rfl) (door_met2 os _)) ?_
  intro W base args ds gs before hval0 hW _ _ hL _
  have hval : ∀ (j : Nat) t v, Tryz.f3.params[j]? = some t → args[j]? = some v → Value.okWide Tryz.prog W .any base t v := hval0
  have hW' := hW
  obtain ⟨p, q, hA0, hV, rfl, hfz, hnd⟩ := hW
  have hA : DataW.TrodAll enc Tryz.prog W 0 (fun _ => true) true Tryz.f3.params.toList args.toList ds p := hA0
  rw [Tryz.params3] at hA hval
  obtain ⟨v0, vs0, d0, ds0, p0, q0, hargs, rfl, rfl, h0, r0⟩ := trodAll_cons hA
  obtain ⟨v1, vs1, d1, ds1, p1, q1, rfl, rfl, rfl, h1, r1⟩ := trodAll_cons r0
  obtain ⟨rfl, rfl, rfl⟩ := trodAll_nil r1
  obtain rfl : args = #[v0, v1] := by cases args; simp_all
  obtain ⟨rfl, rfl⟩ := trodVars_none hV
  obtain ⟨a0, rfl, rfl, rfl, w0⟩ := open_int Tryz.underlying22 (hval 0 22 v0 rfl rfl) h0
  obtain ⟨n0, rfl⟩ := Int.eq_ofNat_of_zero_le (bounds_u64 w0).1
  have l0 : n0 < 18446744073709551616 := by have := (bounds_u64 w0).2; omega
  obtain ⟨a1, rfl, rfl, rfl, w1⟩ := open_int Tryz.underlying22 (hval 1 22 v1 rfl rfl) h1
  obtain ⟨n1, rfl⟩ := Int.eq_ofNat_of_zero_le (bounds_u64 w1).1
  have l1 : n1 < 18446744073709551616 := by have := (bounds_u64 w1).2; omega
  obtain ⟨⟨hT, hs⟩, hT3, hs3⟩ := tab_of_laid2 hL
  clear hA0 hval0
  simp only [List.append_nil] at hW'
  refine (transforms_law n0 n1 W l0 l1 hT hs hT3 hs3).mono fun e W' ⟨he, bel⟩ => ?_
  subst he
  exact ⟨_, rfl, _, _, _, [], [], [], hW', trodAll_mk1 (shut_bool Tryz.underlying4 _), (trodAll_cons_mk (shut_int Tryz.underlying22 w0) (trodAll_cons_mk (shut_int Tryz.underlying22 w1) trodAll_mk0)), rfl, bel.frame _, fun h => by cases h⟩

theorem eftTransforms_row : Rows.EftTransformsSaid :=
  OpenClaim.holds_of_wide 3 Tryz.f3 rfl rfl rfl rfl rfl rfl rfl ⟨rfl, rfl, rfl, rfl, rfl⟩ rfl rfl rfl rfl rfl (by kernel_rfl) Tryz.func3 (by kernel_rfl)
    (of_decide_eq_true (by kernel_rfl)) (by unfold Func.isWrapper; first | (rw [if_pos (by decide +kernel)]; kernel_rfl) | (rw [if_neg (by decide +kernel)]; exact ⟨rfl, rfl⟩))
    (fun os started H enc _ => eftTransforms_lifted os started H enc)

theorem eftTransforms_card : Rows.EftTransformsCardSaid :=
  Claim7.holds_tied_plain_at .later [] [.data, .data] true (true, "db7ffa6a92a1840e917dc45ead396bd10d2b37db7c9678f9e5a55b8a566db5b4") false
    eftTransforms_row (fun _ h => by cases h) (by kernel_rfl) (fun _ h => by cases h) eftTransforms_row_tie rfl ⟨rfl, rfl⟩ (by kernel_rfl) rfl
    (fun f fn hf hfn => by
      obtain rfl : f = 3 := Option.some.inj ((show Tryz.prog.funcNamed "binnacle/binnaclelaw04.EftTransforms" = some 3 by kernel_rfl).symm.trans hf) |>.symm
      obtain rfl : fn = Tryz.f3 := (Option.some.inj (Tryz.func3.symm.trans hfn)).symm
      exact ⟨by kernel_rfl, fun j t ht => by
        rw [Tryz.params3] at ht
        have hm : t ∈ [22, 22] := by simpa using Array.mem_of_getElem? ht
        have hall : ([22, 22].all fun u => !Tryz.prog.wantsStandIn u) = true := by kernel_rfl
        exact (show Tryz.prog.wantsStandIn t = false by simpa using List.all_eq_true.1 hall t hm)⟩)
    (by kernel_rfl)
#print axioms eftTransforms_card
end Go.Proofs.YtijadahpddmhjaaGreatDoor
