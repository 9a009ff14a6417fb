
/- Proved: for all bits of two numbers the law EftExact answers true: where both amounts are at most 2^1022, eft's Two answers the sum as the machine rounds it and all that the rounding took away, exactly, and Quick answers the same wherever the first number is nought or has at least the amount of the second; chapter 4's first examples hold. Its condition: the library's two tables of trailing zeros start as the program's text lays them, to which the card ties them. -/
import Derived.Test.YteidllapjokhlaaDoorP47
import Derived.Test.YteidllapjokhlaaDoorP49
import Derived.Test.YteidllapjokhlaaDoorTie
import Derived.Test.YteidllapjokhlaaDoorCards
import Derived.SevenTiedAt
namespace Go.Proofs.YteidllapjokhlaaDoor
open Go.ChangeShapes Go.WideShapes Go.ChangeAt Go.RowKit Go.IntWalk

set_option maxRecDepth 4000 in
set_option maxHeartbeats 4000000 in
theorem exact_law (a b : Nat) (w : World) (ha : a < 18446744073709551616) (hb : b < 18446744073709551616) (hT : Tab w) (hg : 2 < w.heap.size) (hT3 : Tab32 w) (hs : 1 < w.heap.size) :
    Calls Tryd.prog 5 #[.int .u64 a, .int .u64 b] w fun r w' => r = .returned (.bool true) ∧ Below w.heap.size w w' := by
  have HA : Hid (Calls Tryd.prog 7 #[] w fun r w' => r = .returned (.bool true) ∧ Below w.heap.size w w') := awake4_any w hT hg hT3 hs
  have HBA := hid (fun (W : World) => below_any a W ha)
  have HBB := hid (fun (W : World) => below_any b W hb)
  clear hT hg hT3 hs
  by_cases ka : a % 9223372036854775808 ≤ 9209861237972664320
  case neg =>
    rw [decide_eq_false ka] at HBA
    clear ka ha hb HBB
    go_enter Tryd.func5, Tryd.ntmps5
    go_wp2_with fail
    refine HA.out.mono ?_
    rintro r w1 ⟨rfl, hb1⟩
    have HB1 := hid hb1
    clear hb1
    go_wp2_with (first | (go_at_call 9; refine (lawf4 _ _).mono ?_; rintro r w9 ⟨rfl, rfl⟩))
    refine (HBA.out _).mono ?_
    rintro r w2 ⟨rfl, rfl⟩
    go_wp2
    go_ret
    exact ⟨rfl, HB1.out⟩
  by_cases kb : b % 9223372036854775808 ≤ 9209861237972664320
  case neg =>
    rw [decide_eq_true ka] at HBA
    rw [decide_eq_false kb] at HBB
    clear ka kb ha hb
    go_enter Tryd.func5, Tryd.ntmps5
    go_wp2_with fail
    refine HA.out.mono ?_
    rintro r w1 ⟨rfl, hb1⟩
    have HB1 := hid hb1
    clear hb1
    go_wp2_with (first | (go_at_call 9; refine (lawf4 _ _).mono ?_; rintro r w9 ⟨rfl, rfl⟩))
    refine (HBA.out _).mono ?_
    rintro r w2 ⟨rfl, rfl⟩
    go_wp2_with fail
    refine (HBB.out _).mono ?_
    rintro r w2 ⟨rfl, rfl⟩
    go_wp2
    go_ret
    exact ⟨rfl, HB1.out⟩
  obtain ⟨s, e, hTwo, hF1, hF2, hS1, hadd, hss, hQ⟩ := two_all a b ha hb ka kb
  rw [decide_eq_true ka] at HBA
  rw [decide_eq_true kb] at HBB
  have HTwo := hid hTwo
  have HF1 := hid hF1
  have HF2 := hid hF2
  have HS1 := hid hS1
  have HS2 := hid (fun (W : World) => lsum_fin a b W ha hb (by omega) (by omega))
  have HM1 := hid (fun (W : World) => abs_fl a W ha)
  have HM2 := hid (fun (W : World) => abs_fl b W hb)
  have gadd := f_add hadd
  have HL := hid (order_less (a % 9223372036854775808) (b % 9223372036854775808) (by omega) (by omega))
  have HO : Hid (if sv a = 0 then FloatKind.f64.format.order a 0 = some .eq else (FloatKind.f64.format.order a 0 != some .eq) = true) := by
    split
    · rename_i h
      exact order_same a 0 ha (by decide) (by omega) (by decide) (by rw [h]; decide +kernel)
    · rename_i h
      exact order_diff a 0 ha (by decide) (by omega) (by decide) (by rw [show sv 0 = 0 by decide +kernel]; exact h)
  have HQ := hid hQ
  obtain ⟨ma, hma⟩ : ∃ r, Hid (a % 9223372036854775808 = r) := ⟨_, rfl⟩
  obtain ⟨mb, hmb⟩ : ∃ r, Hid (b % 9223372036854775808 = r) := ⟨_, rfl⟩
  rw [hma.out] at HM1 HL HQ
  rw [hmb.out] at HM2 HL HQ
  clear ha hb ka kb hadd hQ hTwo hF1 hF2 hS1
  have h00 : sgnZ (sv a + sv b - (sv a + sv b)) = 0 := by rw [Int.sub_self]; rfl
  go_enter Tryd.func5, Tryd.ntmps5
  go_wp2_with fail
  refine HA.out.mono ?_
  rintro r w1 ⟨rfl, hb1⟩
  have HB1 := hid hb1
  clear hb1
  go_wp2_with (first | (go_at_call 9; refine (lawf4 _ _).mono ?_; rintro r w9 ⟨rfl, rfl⟩))
  refine (HBA.out _).mono ?_
  rintro r w2 ⟨rfl, rfl⟩
  go_wp2_with fail
  refine (HBB.out _).mono ?_
  rintro r w2 ⟨rfl, rfl⟩
  go_wp2_with fail
  refine (HTwo.out _).mono ?_
  rintro r w3 ⟨rfl, hb3⟩
  have HB3 := hid (HB1.out.trans (hb3.mono HB1.out.size))
  clear hb3
  go_wp2_with fail
  refine (HF1.out _).mono ?_
  rintro r w4 ⟨rfl, rfl⟩
  go_wp2_with fail
  refine (HF2.out _).mono ?_
  rintro r w4 ⟨rfl, rfl⟩
  go_wp2_with fail
  refine (HS1.out _).mono ?_
  rintro r w5 ⟨p1, e1, rfl, ⟨b1, b1'⟩, hx1, hb5⟩
  have HX1 := hid hx1
  have HB5 := hid (HB3.out.trans (hb5.mono HB3.out.size))
  clear hx1 hb5
  go_wp2_with fail
  refine (HS2.out _).mono ?_
  rintro r w6 ⟨p2, e2, rfl, ⟨b2, b2'⟩, hx2, hb6⟩
  have HX1 := hid (HX1.out.below hb6)
  have HX2 := hid hx2
  have HB6 := hid (HB5.out.trans (hb6.mono HB5.out.size))
  clear hx2 hb6
  go_wp2_with fail
  refine (xCmp_val p1 p2 _ _ e1 e2 _ _ _ _ HX1.out HX2.out (by decide) (by decide) (by omega) (by omega)).mono ?_
  rw [h00]
  rintro r w7 ⟨rfl, hb7⟩
  have HB7 := hid (HB6.out.trans (hb7.mono HB6.out.size))
  clear hb7 HX1 HX2 b1 b1' b2 b2'
  by_cases c : sv a = 0
  · have ho := HO.out
    rw [if_pos c] at ho
    obtain ⟨q, z, hq, hq1, hq2⟩ := HQ.out (Or.inl c)
    have HQQ := hid hq
    clear hq HQ
    go_wp2_with fail
    refine (HQQ.out _).mono ?_
    rintro r w8 ⟨rfl, hb8⟩
    have HB8 := hid (HB7.out.trans (hb8.mono HB7.out.size))
    clear hb8
    go_wp2_with fail
    refine (alike_any _ _ _ hq1).mono ?_
    rintro r w9 ⟨rfl, rfl⟩
    go_wp2_with fail
    refine (alike_any _ _ _ hq2).mono ?_
    rintro r w9 ⟨rfl, rfl⟩
    go_wp2
    go_ret
    exact ⟨rfl, HB8.out⟩
  · have ho := HO.out
    rw [if_neg c] at ho
    have hl := HL.out
    by_cases d : ma < mb
    · rw [decide_eq_true d] at hl
      clear HQ
      go_wp2_with fail
      refine (HM1.out _).mono ?_
      rintro r w8 ⟨rfl, rfl⟩
      go_wp2_with fail
      refine (HM2.out _).mono ?_
      rintro r w8 ⟨rfl, rfl⟩
      go_wp2
      go_ret
      exact ⟨rfl, HB7.out⟩
    · rw [decide_eq_false d] at hl
      obtain ⟨q, z, hq, hq1, hq2⟩ := HQ.out (Or.inr d)
      have HQQ := hid hq
      clear hq HQ
      go_wp2_with fail
      refine (HM1.out _).mono ?_
      rintro r w8 ⟨rfl, rfl⟩
      go_wp2_with fail
      refine (HM2.out _).mono ?_
      rintro r w8 ⟨rfl, rfl⟩
      go_wp2_with fail
      refine (HQQ.out _).mono ?_
      rintro r w8 ⟨rfl, hb8⟩
      have HB8 := hid (HB7.out.trans (hb8.mono HB7.out.size))
      clear hb8
      go_wp2_with fail
      refine (alike_any _ _ _ hq1).mono ?_
      rintro r w9 ⟨rfl, rfl⟩
      go_wp2_with fail
      refine (alike_any _ _ _ hq2).mono ?_
      rintro r w9 ⟨rfl, rfl⟩
      go_wp2
      go_ret
      exact ⟨rfl, HB8.out⟩

set_option maxRecDepth 100000 in
theorem eftExact_lifted (os : Os) (started : os.Started) (H : Type) (enc : TypeId × Value → H) :
    ReturnsInHanded {} Tryd.checked os 5 .any (fun w args => (Rows.eftExactSpec.pre enc Tryd.prog Tryd.f5 [] false w args ∧ laidMetH Tryd.prog [("math/bits.deBruijn32tab", Rows.laid_math_bits_deBruijn32tab), ("math/bits.deBruijn64tab", Rows.laid_math_bits_deBruijn64tab)] w) ∧ sizedMet enc Tryd.prog Tryd.f5 (OpenSpec.ofChange Rows.eftExactSpec) false w args)
      (Rows.eftExactSpec.post enc Tryd.prog Tryd.f5 false true false false) := by
  refine returnsInHanded_of_change_and (C := Tryd.checked) (X := fun w _ => laidMetH Tryd.prog [("math/bits.deBruijn32tab", Rows.laid_math_bits_deBruijn32tab), ("math/bits.deBruijn64tab", Rows.laid_math_bits_deBruijn64tab)] w) (fun _ _ _ hh h => h.of_heap hh) own started (by kernel_rfl) Tryd.func5
    (ChangeSpec.witness_shaped (enc := enc) (C := Tryd.checked) (os := os) (X := fun w _ => laidMetH Tryd.prog [("math/bits.deBruijn32tab", Rows.laid_math_bits_deBruijn32tab), ("math/bits.deBruijn64tab", Rows.laid_math_bits_deBruijn64tab)] w) false (World.doorLaid Tryd.prog 400 os) #[.int .u64 0, .int .u64 0] 8 rfl (World.shaped_of_RefB (by kernel_rfl) (by kernel_rfl)) (by kernel_rfl) (by kernel_rfl) (by kernel_rfl) (door_met2 os _)) ?_
  intro W base args ds gs before hval0 hW _ _ hL _
  have hval : ∀ (j : Nat) t v, Tryd.f5.params[j]? = some t → args[j]? = some v → Value.okWide Tryd.prog W .any base t v := hval0
  have hW' := hW
  obtain ⟨p, q, hA0, hV, rfl, hfz, hnd⟩ := hW
  have hA : DataW.TrodAll enc Tryd.prog W 0 (fun _ => true) true Tryd.f5.params.toList args.toList ds p := hA0
  rw [Tryd.params5] at hA hval
  obtain ⟨v0, vs0, d0, ds0, p0, q0, hargs, rfl, rfl, h0, r0⟩ := trodAll_cons hA
  obtain ⟨v1, vs1, d1, ds1, p1, q1, rfl, rfl, rfl, h1, r1⟩ := trodAll_cons r0
  obtain ⟨rfl, rfl, rfl⟩ := trodAll_nil r1
  obtain rfl : args = #[v0, v1] := by cases args; simp_all
  obtain ⟨rfl, rfl⟩ := trodVars_none hV
  obtain ⟨a0, rfl, rfl, rfl, w0⟩ := open_int Tryd.underlying22 (hval 0 22 v0 rfl rfl) h0
  obtain ⟨n0, rfl⟩ := Int.eq_ofNat_of_zero_le (bounds_u64 w0).1
  have l0 : n0 < 18446744073709551616 := by have := (bounds_u64 w0).2; omega
  obtain ⟨a1, rfl, rfl, rfl, w1⟩ := open_int Tryd.underlying22 (hval 1 22 v1 rfl rfl) h1
  obtain ⟨n1, rfl⟩ := Int.eq_ofNat_of_zero_le (bounds_u64 w1).1
  have l1 : n1 < 18446744073709551616 := by have := (bounds_u64 w1).2; omega
  obtain ⟨⟨hT, hs⟩, hT3, hs3⟩ := tab_of_laid2 hL
  clear hA0 hval0
  simp only [List.append_nil] at hW'
  refine (exact_law n0 n1 W l0 l1 hT hs hT3 hs3).mono fun e W' ⟨he, bel⟩ => ?_
  subst he
  exact ⟨_, rfl, _, _, _, [], [], [], hW', trodAll_mk1 (shut_bool Tryd.underlying4 _), (trodAll_cons_mk (shut_int Tryd.underlying22 w0) (trodAll_cons_mk (shut_int Tryd.underlying22 w1) trodAll_mk0)), rfl, bel.frame _, fun h => by cases h⟩

theorem eftExact_row : Rows.EftExactSaid :=
  OpenClaim.holds_of_wide 5 Tryd.f5 rfl rfl rfl rfl rfl rfl rfl ⟨rfl, rfl, rfl, rfl, rfl⟩ rfl rfl rfl rfl rfl (by kernel_rfl) Tryd.func5 (by kernel_rfl)
    (of_decide_eq_true (by kernel_rfl)) (by unfold Func.isWrapper; first | (rw [if_pos (by decide +kernel)]; kernel_rfl) | (rw [if_neg (by decide +kernel)]; exact ⟨rfl, rfl⟩))
    (fun os started H enc _ => eftExact_lifted os started H enc)

theorem eftExact_card : Rows.EftExactCardSaid :=
  Claim7.holds_tied_plain_at .later [] [.data, .data] true (true, "54f25dfb2edb765a4e8c3a55c2bfff386ba3acff4628ec15c52e8cc25c2b18ff") false
    eftExact_row (fun _ h => by cases h) (by kernel_rfl) (fun _ h => by cases h) eftExact_row_tie rfl ⟨rfl, rfl⟩ (by kernel_rfl) rfl
    (fun f fn hf hfn => by
      obtain rfl : f = 5 := Option.some.inj ((show Tryd.prog.funcNamed "binnacle/binnaclelaw04.EftExact" = some 5 by kernel_rfl).symm.trans hf) |>.symm
      obtain rfl : fn = Tryd.f5 := (Option.some.inj (Tryd.func5.symm.trans hfn)).symm
      exact ⟨by kernel_rfl, fun j t ht => by
        rw [Tryd.params5] at ht
        have hm : t ∈ [22, 22] := by simpa using Array.mem_of_getElem? ht
        have hall : ([22, 22].all fun u => !Tryd.prog.wantsStandIn u) = true := by kernel_rfl
        exact (show Tryd.prog.wantsStandIn t = false by simpa using List.all_eq_true.1 hall t hm)⟩)
    (by kernel_rfl)
#print axioms eftExact_card
end Go.Proofs.YteidllapjokhlaaDoor
