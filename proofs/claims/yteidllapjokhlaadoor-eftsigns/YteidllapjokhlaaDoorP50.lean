
/- Proved: for all bits of six numbers the law EftSigns answers true: eft's Det and Turn answer the signs that the document's own exact numbers answer, and ErrNumber where one of the numbers is not finite; chapter 4's first examples hold. Its condition: the library's two tables of trailing zeros start as the program's text lays them, to which the card ties them. -/
import Derived.Test.YteidllapjokhlaaDoorP47
import Derived.Test.YteidllapjokhlaaDoorP49
import Derived.Test.YteidllapjokhlaaDoorTie
import Derived.Test.YteidllapjokhlaaDoorCards
import Derived.SevenTiedAt
namespace Go.Proofs.YteidllapjokhlaaDoor
open Go.ChangeShapes Go.WideShapes Go.ChangeAt Go.RowKit Go.IntWalk

set_option maxHeartbeats 400000 in
theorem lawf_any (x : Nat) (w : World) : Calls Tryd.prog 9 #[.int .u64 x] w fun r w' => r = .returned (.float .f64 x) ∧ w' = w := by
  have h64 := f64from
  go_enter Tryd.func9, Tryd.ntmps9
  go_wp2
  go_ret
  exact ⟨rfl, rfl⟩
set_option maxRecDepth 4000 in
set_option maxHeartbeats 4000000 in
theorem signs_law (a b c d p q : Nat) (w : World) (ha : a < 18446744073709551616) (hb : b < 18446744073709551616) (hc : c < 18446744073709551616) (hd : d < 18446744073709551616) (hp : p < 18446744073709551616) (hq : q < 18446744073709551616) (hT : Tab w) (hg : 2 < w.heap.size) (hT3 : Tab32 w) (hs : 1 < w.heap.size) :
    Calls Tryd.prog 4 #[.int .u64 a, .int .u64 b, .int .u64 c, .int .u64 d, .int .u64 p, .int .u64 q] w fun r w' => r = .returned (.bool true) ∧ Below w.heap.size w w' := by
  have HT : Hid (∀ W, Below w.heap.size w W → Tab W ∧ 2 < W.heap.size ∧ Tab32 W ∧ 1 < W.heap.size) := fun W hW => ⟨hT.below hg hW, Nat.lt_of_lt_of_le hg hW.size, hT3.below hs hW, Nat.lt_of_lt_of_le hs hW.size⟩
  have HA : Hid (∀ W, Below w.heap.size w W → Calls Tryd.prog 7 #[] W fun r w' => r = .returned (.bool true) ∧ Below W.heap.size W w') := fun W hW => awake4_any W (HT.out W hW).1 (HT.out W hW).2.1 (HT.out W hW).2.2.1 (HT.out W hW).2.2.2
  have HU1 : Hid (∀ W, Below w.heap.size w W → _) := fun W hW => Turn_any a b c d p q W ha hb hc hd hp hq (HT.out W hW).1 (HT.out W hW).2.1 (HT.out W hW).2.2.1 (HT.out W hW).2.2.2
  have HU2 := hid (fun (W : World) => rTurn_any a b c d p q W ha hb hc hd hp hq)
  have HD1 : Hid (∀ W, Below w.heap.size w W → _) := fun W hW => Det_any a b c d W ha hb hc hd (HT.out W hW).1 (HT.out W hW).2.1 (HT.out W hW).2.2.1 (HT.out W hW).2.2.2
  have HD2 := hid (fun (W : World) => rDet_any a b c d W ha hb hc hd)
  obtain ⟨S, hS⟩ : ∃ S, Hid (turnS a b c d p q = S) := ⟨_, rfl⟩
  obtain ⟨E, hE⟩ : ∃ E, Hid (turnE a b c d p q = E) := ⟨_, rfl⟩
  obtain ⟨D, hD⟩ : ∃ S, Hid (detS a b c d = S) := ⟨_, rfl⟩
  obtain ⟨F, hF⟩ : ∃ E, Hid (detE a b c d = E) := ⟨_, rfl⟩
  rw [hS.out, hE.out] at HU1 HU2
  rw [hD.out, hF.out] at HD1 HD2
  have HW0 : Hid (Below w.heap.size w w) := Below.refl _ _
  clear ha hb hc hd hp hq hT hg hT3 hs
  go_enter Tryd.func4, Tryd.ntmps4
  go_wp2_with (first | (go_at_call 9; refine (lawf_any _ _).mono ?_; rintro r w9 ⟨rfl, rfl⟩))
  refine (HD1.out _ HW0.out).mono ?_
  rintro r w1 ⟨rfl, hb1⟩
  have HB1 := hid hb1
  clear hb1
  go_wp2_with (first | (go_at_call 9; refine (lawf_any _ _).mono ?_; rintro r w9 ⟨rfl, rfl⟩))
  refine (HD2.out _).mono ?_
  rintro r w2 ⟨rfl, hb2⟩
  have HB2 := hid (HB1.out.trans (hb2.mono HB1.out.size))
  clear hb2
  go_wp2_with (first | (go_at_call 9; refine (lawf_any _ _).mono ?_; rintro r w9 ⟨rfl, rfl⟩))
  refine (HU1.out _ HB2.out).mono ?_
  rintro r w3 ⟨rfl, hb3⟩
  have HB3 := hid (HB2.out.trans (hb3.mono HB2.out.size))
  clear hb3
  go_wp2_with (first | (go_at_call 9; refine (lawf_any _ _).mono ?_; rintro r w9 ⟨rfl, rfl⟩))
  refine (HU2.out _).mono ?_
  rintro r w4 ⟨rfl, hb4⟩
  have HB4 := hid (HB3.out.trans (hb4.mono HB3.out.size))
  clear hb4
  go_wp2_with fail
  refine (HA.out _ HB4.out).mono ?_
  rintro r w5 ⟨rfl, hb5⟩
  have HB5 := hid (HB4.out.trans (hb5.mono HB4.out.size))
  clear hb5
  go_wp2
  go_ret
  exact ⟨rfl, HB5.out⟩

set_option maxRecDepth 100000 in
theorem eftSigns_lifted (os : Os) (started : os.Started) (H : Type) (enc : TypeId × Value → H) :
    ReturnsInHanded {} Tryd.checked os 4 .any (fun w args => (Rows.eftSignsSpec.pre enc Tryd.prog Tryd.f4 [] false w args ∧ laidMetH Tryd.prog [("math/bits.deBruijn32tab", Rows.laid_math_bits_deBruijn32tab), ("math/bits.deBruijn64tab", Rows.laid_math_bits_deBruijn64tab)] w) ∧ sizedMet enc Tryd.prog Tryd.f4 (OpenSpec.ofChange Rows.eftSignsSpec) false w args)
      (Rows.eftSignsSpec.post enc Tryd.prog Tryd.f4 false true false false) := by
  refine returnsInHanded_of_change_and (C := Tryd.checked) (X := fun w _ => laidMetH Tryd.prog [("math/bits.deBruijn32tab", Rows.laid_math_bits_deBruijn32tab), ("math/bits.deBruijn64tab", Rows.laid_math_bits_deBruijn64tab)] w) (fun _ _ _ hh h => h.of_heap hh) own started (by kernel_rfl) Tryd.func4
    (ChangeSpec.witness_shaped (enc := enc) (C := Tryd.checked) (os := os) (X := fun w _ => laidMetH Tryd.prog [("math/bits.deBruijn32tab", Rows.laid_math_bits_deBruijn32tab), ("math/bits.deBruijn64tab", Rows.laid_math_bits_deBruijn64tab)] w) false (World.doorLaid Tryd.prog 400 os) #[.int .u64 0, .int .u64 0, .int .u64 0, .int .u64 0, .int .u64 0, .int .u64 0] 8 rfl (World.shaped_of_RefB (by kernel_rfl) (by kernel_rfl)) (by kernel_rfl) (by kernel_rfl) (by kernel_rfl) (door_met2 os _)) ?_
  intro W base args ds gs before hval0 hW _ _ hL _
  have hval : ∀ (j : Nat) t v, Tryd.f4.params[j]? = some t → args[j]? = some v → Value.okWide Tryd.prog W .any base t v := hval0
  have hW' := hW
  obtain ⟨p, q, hA0, hV, rfl, hfz, hnd⟩ := hW
  have hA : DataW.TrodAll enc Tryd.prog W 0 (fun _ => true) true Tryd.f4.params.toList args.toList ds p := hA0
  rw [Tryd.params4] at hA hval
  obtain ⟨v0, vs0, d0, ds0, p0, q0, hargs, rfl, rfl, h0, r0⟩ := trodAll_cons hA
  obtain ⟨v1, vs1, d1, ds1, p1, q1, rfl, rfl, rfl, h1, r1⟩ := trodAll_cons r0
  obtain ⟨v2, vs2, d2, ds2, p2, q2, rfl, rfl, rfl, h2, r2⟩ := trodAll_cons r1
  obtain ⟨v3, vs3, d3, ds3, p3, q3, rfl, rfl, rfl, h3, r3⟩ := trodAll_cons r2
  obtain ⟨v4, vs4, d4, ds4, p4, q4, rfl, rfl, rfl, h4, r4⟩ := trodAll_cons r3
  obtain ⟨v5, vs5, d5, ds5, p5, q5, rfl, rfl, rfl, h5, r5⟩ := trodAll_cons r4
  obtain ⟨rfl, rfl, rfl⟩ := trodAll_nil r5
  obtain rfl : args = #[v0, v1, v2, v3, v4, v5] := by cases args; simp_all
  obtain ⟨rfl, rfl⟩ := trodVars_none hV
  obtain ⟨a0, rfl, rfl, rfl, w0⟩ := open_int Tryd.underlying22 (hval 0 22 v0 rfl rfl) h0
  obtain ⟨n0, rfl⟩ := Int.eq_ofNat_of_zero_le (bounds_u64 w0).1
  have l0 : n0 < 18446744073709551616 := by have := (bounds_u64 w0).2; omega
  obtain ⟨a1, rfl, rfl, rfl, w1⟩ := open_int Tryd.underlying22 (hval 1 22 v1 rfl rfl) h1
  obtain ⟨n1, rfl⟩ := Int.eq_ofNat_of_zero_le (bounds_u64 w1).1
  have l1 : n1 < 18446744073709551616 := by have := (bounds_u64 w1).2; omega
  obtain ⟨a2, rfl, rfl, rfl, w2⟩ := open_int Tryd.underlying22 (hval 2 22 v2 rfl rfl) h2
  obtain ⟨n2, rfl⟩ := Int.eq_ofNat_of_zero_le (bounds_u64 w2).1
  have l2 : n2 < 18446744073709551616 := by have := (bounds_u64 w2).2; omega
  obtain ⟨a3, rfl, rfl, rfl, w3⟩ := open_int Tryd.underlying22 (hval 3 22 v3 rfl rfl) h3
  obtain ⟨n3, rfl⟩ := Int.eq_ofNat_of_zero_le (bounds_u64 w3).1
  have l3 : n3 < 18446744073709551616 := by have := (bounds_u64 w3).2; omega
  obtain ⟨a4, rfl, rfl, rfl, w4⟩ := open_int Tryd.underlying22 (hval 4 22 v4 rfl rfl) h4
  obtain ⟨n4, rfl⟩ := Int.eq_ofNat_of_zero_le (bounds_u64 w4).1
  have l4 : n4 < 18446744073709551616 := by have := (bounds_u64 w4).2; omega
  obtain ⟨a5, rfl, rfl, rfl, w5⟩ := open_int Tryd.underlying22 (hval 5 22 v5 rfl rfl) h5
  obtain ⟨n5, rfl⟩ := Int.eq_ofNat_of_zero_le (bounds_u64 w5).1
  have l5 : n5 < 18446744073709551616 := by have := (bounds_u64 w5).2; omega
  obtain ⟨⟨hT, hs⟩, hT3, hs3⟩ := tab_of_laid2 hL
  clear hA0 hval0
  simp only [List.append_nil] at hW'
  refine (signs_law n0 n1 n2 n3 n4 n5 W l0 l1 l2 l3 l4 l5 hT hs hT3 hs3).mono fun e W' ⟨he, bel⟩ => ?_
  subst he
  exact ⟨_, rfl, _, _, _, [], [], [], hW', trodAll_mk1 (shut_bool Tryd.underlying4 _), (trodAll_cons_mk (shut_int Tryd.underlying22 w0) (trodAll_cons_mk (shut_int Tryd.underlying22 w1) (trodAll_cons_mk (shut_int Tryd.underlying22 w2) (trodAll_cons_mk (shut_int Tryd.underlying22 w3) (trodAll_cons_mk (shut_int Tryd.underlying22 w4) (trodAll_cons_mk (shut_int Tryd.underlying22 w5) trodAll_mk0)))))), rfl, bel.frame _, fun h => by cases h⟩

theorem eftSigns_row : Rows.EftSignsSaid :=
  OpenClaim.holds_of_wide 4 Tryd.f4 rfl rfl rfl rfl rfl rfl rfl ⟨rfl, rfl, rfl, rfl, rfl⟩ rfl rfl rfl rfl rfl (by kernel_rfl) Tryd.func4 (by kernel_rfl)
    (of_decide_eq_true (by kernel_rfl)) (by unfold Func.isWrapper; first | (rw [if_pos (by decide +kernel)]; kernel_rfl) | (rw [if_neg (by decide +kernel)]; exact ⟨rfl, rfl⟩))
    (fun os started H enc _ => eftSigns_lifted os started H enc)

theorem eftSigns_card : Rows.EftSignsCardSaid :=
  Claim7.holds_tied_plain_at .later [] [.data, .data] true (true, "54f25dfb2edb765a4e8c3a55c2bfff386ba3acff4628ec15c52e8cc25c2b18ff") false
    eftSigns_row (fun _ h => by cases h) (by kernel_rfl) (fun _ h => by cases h) eftSigns_row_tie rfl ⟨rfl, rfl⟩ (by kernel_rfl) rfl
    (fun f fn hf hfn => by
      obtain rfl : f = 4 := Option.some.inj ((show Tryd.prog.funcNamed "binnacle/binnaclelaw04.EftSigns" = some 4 by kernel_rfl).symm.trans hf) |>.symm
      obtain rfl : fn = Tryd.f4 := (Option.some.inj (Tryd.func4.symm.trans hfn)).symm
      exact ⟨by kernel_rfl, fun j t ht => by
        rw [Tryd.params4] at ht
        have hm : t ∈ [22, 22, 22, 22, 22, 22] := by simpa using Array.mem_of_getElem? ht
        have hall : ([22, 22, 22, 22, 22, 22].all fun u => !Tryd.prog.wantsStandIn u) = true := by kernel_rfl
        exact (show Tryd.prog.wantsStandIn t = false by simpa using List.all_eq_true.1 hall t hm)⟩)
    (by kernel_rfl)
#print axioms eftSigns_card
end Go.Proofs.YteidllapjokhlaaDoor
