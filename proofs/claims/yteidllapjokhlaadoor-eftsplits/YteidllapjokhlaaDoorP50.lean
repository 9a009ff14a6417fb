
/- Proved: for all bits of a number the law EftSplits answers true: where its amount is at most 2^995, eft's Split answers two numbers whose exact sum it is, each of at most 26 digits and a multiple of the number's own last digit; chapter 4's first examples hold. Its condition: the library's two tables of trailing zeros start as the program's text lays them, to which the card ties them. -/
import Derived.Test.YteidllapjokhlaaDoorP47
import Derived.Test.YteidllapjokhlaaDoorP49
import Derived.Test.YteidllapjokhlaaDoorTie
import Derived.Test.YteidllapjokhlaaDoorCards
import Derived.SevenTiedAt
namespace Go.Proofs.YteidllapjokhlaaDoor
open Go.ChangeShapes Go.WideShapes Go.ChangeAt Go.RowKit Go.IntWalk

theorem nv_995 : nv 9088264048033660928 = 33554432 * 2 ^ kG := by decide +kernel
theorem sv_995 {x : Nat} (h : x % 9223372036854775808 ≤ 9088264048033660928) : (sv x).natAbs ≤ 33554432 * 2 ^ kG := by
  rw [← nv_995]
  have := nv_le h
  unfold sv
  split <;> omega
/-- All that Split and the sum of it answer. -/
theorem split_all (a : Nat) (ha : a < 18446744073709551616) (ka : a % 9223372036854775808 ≤ 9088264048033660928) :
    ∃ h l, (∀ W, Calls Tryd.prog 21 #[.float .f64 a] W fun r w' => r = .returned (.tuple #[.float .f64 h, .float .f64 l]) ∧ Below W.heap.size W w')
      ∧ (∀ W, Calls Tryd.prog 15 #[.float .f64 h] W fun r w' => r = .returned (.bool true) ∧ w' = W)
      ∧ (∀ W, Calls Tryd.prog 15 #[.float .f64 l] W fun r w' => r = .returned (.bool true) ∧ w' = W)
      ∧ (∀ W, Calls Tryd.prog 16 #[.float .f64 h, .float .f64 l] W fun r w' => ∃ p e, r = .returned (.agg #[.pointer (some ⟨p, 0, none⟩), .int .i64 e]) ∧ (-1074 ≤ e ∧ e ≤ 2000) ∧ ExV w' p e (-1074) (sv a) 4002 ∧ Below W.heap.size W w')
      ∧ (sv a = 0 → FloatKind.f64.format.order h 0 = some .eq ∧ FloatKind.f64.format.order l 0 = some .eq)
      ∧ (∀ (e : Int) (va : Int) (k : Nat), va % 2 = 1 → e = -1074 + k → sv a = va * 2 ^ k → ∀ W, Tab32 W → 1 < W.heap.size →
        (Calls Tryd.prog 24 #[.float .f64 h, .int .i64 e] W fun r w' => r = .returned (.bool true) ∧ Below W.heap.size W w')
        ∧ (Calls Tryd.prog 24 #[.float .f64 l, .int .i64 e] W fun r w' => r = .returned (.bool true) ∧ Below W.heap.size W w')) := by
  have fa : Fin64 a (sv a) := ⟨ha, by omega, rfl⟩
  obtain ⟨c, d, h, l, H, h1, h2, h3, h4, ⟨s1, s2, s3⟩, ⟨r1, r2, r3⟩, hv⟩ := split_vals a _ fa (sv_995 ka)
  refine ⟨h, l, ?_, ?_, ?_, ?_, ?_, ?_⟩
  · intro W
    have := Split_at a c d h l W h1 h2 h3 h4 s1 r1
    rw [canon_fin s2, canon_fin r2] at this
    exact this
  · intro W
    have := rfin4 h W s1
    rw [decide_eq_true s2] at this
    exact this
  · intro W
    have := rfin4 l W r1
    rw [decide_eq_true r2] at this
    exact this
  · intro W
    have := lsum_fin h l W s1 r1 s2 r2
    rw [s3, r3, show H + (sv a - H) = sv a by omega] at this
    exact this
  · intro h0
    have hH : H = 0 := by
      refine gap_zero (hv.dv H.natAbs (by rw [h0]; exact Int.dvd_zero _)) ?_
      exact Nat.lt_two_pow_self
    exact ⟨order_same _ _ s1 (by decide) s2 (by decide) (by rw [s3, hH]; decide +kernel), order_same _ _ r1 (by decide) r2 (by decide) (by rw [r3, hH, h0]; decide +kernel)⟩
  · intro e va k v1 v2 v3 W hT hs
    have hka : ((2 ^ k : Nat) : Int) ∣ sv a := ⟨va, by rw [v3, Int.mul_comm, Int.natCast_pow]; rfl⟩
    have hkh := hv.dv k hka
    refine ⟨digits_at h e W s1 s2 hT hs ?_ ?_, digits_at l e W r1 r2 hT hs ?_ ?_⟩
    · rw [s3]; exact hv.hi
    · intro v j j1 j2
      have := odd_under j1 j2 (by rw [s3]; exact hkh)
      omega
    · rw [r3]; exact hv.lo
    · intro v j j1 j2
      have := odd_under j1 j2 (by rw [r3]; exact Int.dvd_sub hka hkh)
      omega
theorem xfieldE (q : Option Addr) (e : Int) (w : World) : (Instr.field 40 (.agg #[.pointer q, .int .i64 e]) 1).run Tryd.prog w = .ok (.int .i64 e) w := by kernel_rfl
set_option maxRecDepth 4000 in
set_option maxHeartbeats 4000000 in
theorem splits_law (a : Nat) (w : World) (ha : a < 18446744073709551616) (hT : Tab w) (hg : 2 < w.heap.size) (hT3 : Tab32 w) (hs : 1 < w.heap.size) :
    Calls Tryd.prog 6 #[.int .u64 a] w fun r w' => r = .returned (.bool true) ∧ Below w.heap.size w w' := by
  have HA : Hid (Calls Tryd.prog 7 #[] w fun r w' => r = .returned (.bool true) ∧ Below w.heap.size w w') := awake4_any w hT hg hT3 hs
  have HT : Hid (∀ W, Below w.heap.size w W → Tab32 W ∧ 1 < W.heap.size) := fun W hW => ⟨hT3.below hs hW, Nat.lt_of_lt_of_le hs hW.size⟩
  have HBA := hid (fun (W : World) => below_995 a W ha)
  clear hT hg hT3 hs
  by_cases ka : a % 9223372036854775808 ≤ 9088264048033660928
  case neg =>
    rw [decide_eq_false ka] at HBA
    clear ka ha
    go_enter Tryd.func6, Tryd.ntmps6
    go_wp2_with fail
    refine HA.out.mono ?_
    rintro r w1 ⟨rfl, hb1⟩
    have HB1 := hid hb1
    clear hb1
    go_wp2_with (first | (go_at_call 9; refine (lawf4 _ _).mono ?_; rintro r w9 ⟨rfl, rfl⟩))
    refine (HBA.out _).mono ?_
    rintro r w2 ⟨rfl, rfl⟩
    go_wp2
    go_ret
    exact ⟨rfl, HB1.out⟩
  obtain ⟨h, l, hSp, hF1, hF2, hS1, hz, hd⟩ := split_all a ha ka
  rw [decide_eq_true ka] at HBA
  have HSp := hid hSp
  have HF1 := hid hF1
  have HF2 := hid hF2
  have HS1 := hid hS1
  have HD := hid hd
  have HZ := hid hz
  have HO := hid (fun (W : World) => xOf_fin a W ha (by omega))
  have HE : Hid (if sv a = 0 then FloatKind.f64.format.order a 0 = some .eq else (FloatKind.f64.format.order a 0 == some .eq) = false) := by
    split
    · rename_i h
      exact order_same a 0 ha (by decide) (by omega) (by decide) (by rw [h]; decide +kernel)
    · rename_i h
      exact order_diffE a 0 ha (by decide) (by omega) (by decide) (by rw [show sv 0 = 0 by decide +kernel]; exact h)
  clear ha ka hSp hF1 hF2 hS1 hz hd
  have h00 : sgnZ (sv a - sv a) = 0 := by rw [Int.sub_self]; rfl
  have hfl := xfieldE
  go_enter Tryd.func6, Tryd.ntmps6
  go_wp2_with fail
  refine HA.out.mono ?_
  rintro r w1 ⟨rfl, hb1⟩
  have HB1 := hid hb1
  clear hb1
  go_wp2_with (first | (go_at_call 9; refine (lawf4 _ _).mono ?_; rintro r w9 ⟨rfl, rfl⟩))
  refine (HBA.out _).mono ?_
  rintro r w2 ⟨rfl, rfl⟩
  go_wp2_with fail
  refine (HSp.out _).mono ?_
  rintro r w3 ⟨rfl, hb3⟩
  have HB3 := hid (HB1.out.trans (hb3.mono HB1.out.size))
  clear hb3
  go_wp2_with fail
  refine (HF1.out _).mono ?_
  rintro r w4 ⟨rfl, rfl⟩
  go_wp2_with fail
  refine (HF2.out _).mono ?_
  rintro r w4 ⟨rfl, rfl⟩
  go_wp2_with fail
  refine (HS1.out _).mono ?_
  rintro r w5 ⟨p1, e1, rfl, ⟨b1, b1'⟩, hx1, hb5⟩
  have HX1 := hid hx1
  have HB5 := hid (HB3.out.trans (hb5.mono HB3.out.size))
  clear hx1 hb5
  go_wp2_with fail
  refine (HO.out _).mono ?_
  rintro r w6 ⟨p2, e2, rfl, ⟨b2, b2'⟩, hx2, hb6⟩
  have HX1 := hid (HX1.out.below hb6)
  have HX2 := hid hx2
  have HB6 := hid (HB5.out.trans (hb6.mono HB5.out.size))
  clear hx2 hb6
  go_wp2_with fail
  refine (xCmp_val p1 p2 _ _ e1 e2 _ _ _ _ HX1.out HX2.out (by decide) (by decide) (by omega) (by omega)).mono ?_
  rw [h00]
  rintro r w7 ⟨rfl, hb7⟩
  have HB7 := hid (HB6.out.trans (hb7.mono HB6.out.size))
  clear hb7 HX1 HX2 b1 b1' b2 b2'
  go_wp2_with fail
  refine (HO.out _).mono ?_
  rintro r w8 ⟨p3, e3, rfl, ⟨b3, b3'⟩, hx3, hb8⟩
  have HX3 := hid hx3
  have HB8 := hid (HB7.out.trans (hb8.mono HB7.out.size))
  clear hx3 hb8
  go_wp2_with fail
  refine (xOdd_val p3 _ e3 _ _ _ HX3.out (by decide) (by omega) (by omega) (HT.out _ HB8.out).1 (HT.out _ HB8.out).2).mono ?_
  rintro r w9 ⟨q, e4, rfl, ho4, _, hb9⟩
  have HB9 := hid (HB8.out.trans (hb9.mono HB8.out.size))
  have HO4 := hid ho4
  clear hb9 HX3 b3 b3' ho4
  by_cases c : sv a = 0
  · have ho := HE.out
    rw [if_pos c] at ho
    obtain ⟨ho1, ho2⟩ := HZ.out c
    go_wp2
    go_ret
    exact ⟨rfl, HB9.out⟩
  · have ho := HE.out
    rw [if_neg c] at ho
    have HDD : Hid (∀ W, Below w.heap.size w W → _ ∧ _) := fun W hW => by
      rcases HO4.out with ⟨h, _⟩ | ⟨v, k, k1, _, k3, k4⟩
      · exact absurd h c
      · exact HD.out e4 v k k1 k3 k4 W (HT.out W hW).1 (HT.out W hW).2
    go_wp2_with fail
    refine (HDD.out _ HB9.out).1.mono ?_
    rintro r w10 ⟨rfl, hb10⟩
    have HB10 := hid (HB9.out.trans (hb10.mono HB9.out.size))
    clear hb10
    go_wp2_with fail
    refine (HDD.out _ HB10.out).2.mono ?_
    rintro r w11 ⟨rfl, hb11⟩
    have HB11 := hid (HB10.out.trans (hb11.mono HB10.out.size))
    clear hb11
    go_wp2
    go_ret
    exact ⟨rfl, HB11.out⟩

set_option maxRecDepth 100000 in
theorem eftSplits_lifted (os : Os) (started : os.Started) (H : Type) (enc : TypeId × Value → H) :
    ReturnsInHanded {} Tryd.checked os 6 .any (fun w args => (Rows.eftSplitsSpec.pre enc Tryd.prog Tryd.f6 [] false w args ∧ laidMetH Tryd.prog [("math/bits.deBruijn32tab", Rows.laid_math_bits_deBruijn32tab), ("math/bits.deBruijn64tab", Rows.laid_math_bits_deBruijn64tab)] w) ∧ sizedMet enc Tryd.prog Tryd.f6 (OpenSpec.ofChange Rows.eftSplitsSpec) false w args)
      (Rows.eftSplitsSpec.post enc Tryd.prog Tryd.f6 false true false false) := by
  refine returnsInHanded_of_change_and (C := Tryd.checked) (X := fun w _ => laidMetH Tryd.prog [("math/bits.deBruijn32tab", Rows.laid_math_bits_deBruijn32tab), ("math/bits.deBruijn64tab", Rows.laid_math_bits_deBruijn64tab)] w) (fun _ _ _ hh h => h.of_heap hh) own started (by kernel_rfl) Tryd.func6
    (ChangeSpec.witness_shaped (enc := enc) (C := Tryd.checked) (os := os) (X := fun w _ => laidMetH Tryd.prog [("math/bits.deBruijn32tab", Rows.laid_math_bits_deBruijn32tab), ("math/bits.deBruijn64tab", Rows.laid_math_bits_deBruijn64tab)] w) false (World.doorLaid Tryd.prog 400 os) #[.int .u64 0] 8 rfl (World.shaped_of_RefB (by kernel_rfl) (by kernel_rfl)) (by kernel_rfl) (by kernel_rfl) (by kernel_rfl) (door_met2 os _)) ?_
  intro W base args ds gs before hval0 hW _ _ hL _
  have hval : ∀ (j : Nat) t v, Tryd.f6.params[j]? = some t → args[j]? = some v → Value.okWide Tryd.prog W .any base t v := hval0
  have hW' := hW
  obtain ⟨p, q, hA0, hV, rfl, hfz, hnd⟩ := hW
  have hA : DataW.TrodAll enc Tryd.prog W 0 (fun _ => true) true Tryd.f6.params.toList args.toList ds p := hA0
  rw [Tryd.params6] at hA hval
  obtain ⟨v0, vs0, d0, ds0, p0, q0, hargs, rfl, rfl, h0, r0⟩ := trodAll_cons hA
  obtain ⟨rfl, rfl, rfl⟩ := trodAll_nil r0
  obtain rfl : args = #[v0] := by cases args; simp_all
  obtain ⟨rfl, rfl⟩ := trodVars_none hV
  obtain ⟨a0, rfl, rfl, rfl, w0⟩ := open_int Tryd.underlying22 (hval 0 22 v0 rfl rfl) h0
  obtain ⟨n0, rfl⟩ := Int.eq_ofNat_of_zero_le (bounds_u64 w0).1
  have l0 : n0 < 18446744073709551616 := by have := (bounds_u64 w0).2; omega
  obtain ⟨⟨hT, hs⟩, hT3, hs3⟩ := tab_of_laid2 hL
  clear hA0 hval0
  simp only [List.append_nil] at hW'
  refine (splits_law n0 W l0 hT hs hT3 hs3).mono fun e W' ⟨he, bel⟩ => ?_
  subst he
  exact ⟨_, rfl, _, _, _, [], [], [], hW', trodAll_mk1 (shut_bool Tryd.underlying4 _), (trodAll_cons_mk (shut_int Tryd.underlying22 w0) trodAll_mk0), rfl, bel.frame _, fun h => by cases h⟩

theorem eftSplits_row : Rows.EftSplitsSaid :=
  OpenClaim.holds_of_wide 6 Tryd.f6 rfl rfl rfl rfl rfl rfl rfl ⟨rfl, rfl, rfl, rfl, rfl⟩ rfl rfl rfl rfl rfl (by kernel_rfl) Tryd.func6 (by kernel_rfl)
    (of_decide_eq_true (by kernel_rfl)) (by unfold Func.isWrapper; first | (rw [if_pos (by decide +kernel)]; kernel_rfl) | (rw [if_neg (by decide +kernel)]; exact ⟨rfl, rfl⟩))
    (fun os started H enc _ => eftSplits_lifted os started H enc)

theorem eftSplits_card : Rows.EftSplitsCardSaid :=
  Claim7.holds_tied_plain_at .later [] [.data, .data] true (true, "54f25dfb2edb765a4e8c3a55c2bfff386ba3acff4628ec15c52e8cc25c2b18ff") false
    eftSplits_row (fun _ h => by cases h) (by kernel_rfl) (fun _ h => by cases h) eftSplits_row_tie rfl ⟨rfl, rfl⟩ (by kernel_rfl) rfl
    (fun f fn hf hfn => by
      obtain rfl : f = 6 := Option.some.inj ((show Tryd.prog.funcNamed "binnacle/binnaclelaw04.EftSplits" = some 6 by kernel_rfl).symm.trans hf) |>.symm
      obtain rfl : fn = Tryd.f6 := (Option.some.inj (Tryd.func6.symm.trans hfn)).symm
      exact ⟨by kernel_rfl, fun j t ht => by
        rw [Tryd.params6] at ht
        have hm : t ∈ [22] := by simpa using Array.mem_of_getElem? ht
        have hall : ([22].all fun u => !Tryd.prog.wantsStandIn u) = true := by kernel_rfl
        exact (show Tryd.prog.wantsStandIn t = false by simpa using List.all_eq_true.1 hall t hm)⟩)
    (by kernel_rfl)
#print axioms eftSplits_card
end Go.Proofs.YteidllapjokhlaaDoor
