
/- Proved: for all bits x of a number, every width and every mode the law ConvertWholes answers true: Whole, Int and Uint give the number, the flags and the error that the document's own reckoning in whole numbers gives (ErrMode of what is no mode, ErrWidth of what is no width). Its condition: the library's table of trailing zeros starts as the program's text lays it, to which the card ties it. -/
import Derived.Test.YtpgcelbgmpfliaaGreatDoorV50
import Derived.Test.YtpgcelbgmpfliaaGreatDoorV37
import Derived.Test.YtpgcelbgmpfliaaGreatDoorV51
import Derived.Test.YtpgcelbgmpfliaaGreatDoorTie
import Derived.Test.YtpgcelbgmpfliaaGreatDoorCards
import Derived.SevenTiedAt
namespace Go.Proofs.YtpgcelbgmpfliaaGreatDoor
open Go.ChangeShapes Go.WideShapes Go.ChangeAt Go.RowKit

set_option maxHeartbeats 400000 in
theorem wholeOf_mode (x : Nat) (width mode : Int) (w : World) (hm : ¬ (0 ≤ mode ∧ mode ≤ 4)) :
    Calls Tryz.prog 61 #[.float .f64 x, .int .i64 width, .int .i64 mode] w fun r w' => r = .returned (.tuple #[.float .f64 0, .int .i64 0, .int .i64 20]) ∧ Below w.heap.size w w' := by
  have H := hid (fun (w : World) => Whole_bad x mode w hm)
  clear hm
  go_enter Tryz.func61, Tryz.ntmps61
  go_wp2_with fail
  refine (H.out _).mono ?_
  rintro r w1 ⟨rfl, hb⟩
  go_wp2
  go_ret3
  exact ⟨rfl, hb⟩
set_option maxHeartbeats 400000 in
theorem Int_mode (x : Nat) (width mode : Int) (w : World) (hm : ¬ (0 ≤ mode ∧ mode ≤ 4)) :
    Calls Tryz.prog 18 #[.float .f64 x, .int .i64 width, .int .i64 mode] w fun r w' => r = .returned (.tuple #[.int .i64 0, .int .i64 0, .int .i64 20]) ∧ Below w.heap.size w w' := by
  have H := hid (fun (w : World) => wholeOf_mode x width mode w hm)
  clear hm
  go_enter Tryz.func18, Tryz.ntmps18
  go_wp2_with fail
  refine (H.out _).mono ?_
  rintro r w1 ⟨rfl, hb⟩
  go_wp2
  go_ret3
  exact ⟨rfl, hb⟩
set_option maxHeartbeats 400000 in
theorem Uint_mode (x : Nat) (width mode : Int) (w : World) (hm : ¬ (0 ≤ mode ∧ mode ≤ 4)) :
    Calls Tryz.prog 20 #[.float .f64 x, .int .i64 width, .int .i64 mode] w fun r w' => r = .returned (.tuple #[.int .u64 0, .int .i64 0, .int .i64 20]) ∧ Below w.heap.size w w' := by
  have H := hid (fun (w : World) => wholeOf_mode x width mode w hm)
  clear hm
  go_enter Tryz.func20, Tryz.ntmps20
  go_wp2_with fail
  refine (H.out _).mono ?_
  rintro r w1 ⟨rfl, hb⟩
  go_wp2
  go_ret3
  exact ⟨rfl, hb⟩
set_option maxHeartbeats 400000 in
theorem wf_any (x : Nat) (w : World) :
    Calls Tryz.prog 16 #[.int .u64 x] w fun e w' => e = .returned (.float .f64 x) ∧ w' = w := by
  have h2 := f64from
  go_enter Tryz.func16, Tryz.ntmps16
  go_wp2
  go_ret
  exact ⟨rfl, rfl⟩
set_option maxHeartbeats 400000 in
theorem wis_self (a : Nat) (w : World) :
    Calls Tryz.prog 39 #[.float .f64 a, .int .u64 a] w fun e w' => e = .returned (.bool true) ∧ w' = w := by
  have h2 := f64bits
  go_enter Tryz.func39, Tryz.ntmps39
  go_wp2
  go_ret
  exact ⟨by simp, rfl⟩
set_option maxHeartbeats 400000 in
theorem wtold_self (a : Nat) (k e : Int) (w : World) :
    Calls Tryz.prog 8 #[.float .f64 a, .int .i64 k, .int .i64 e, .int .u64 a, .int .i64 k, .int .i64 e] w fun r w' => r = .returned (.bool true) ∧ w' = w := by
  go_enter Tryz.func8, Tryz.ntmps8
  go_wp2_with fail
  refine (wis_self a _).mono ?_
  rintro r w1 ⟨rfl, rfl⟩
  go_wp2
  go_ret
  exact ⟨by simp, rfl⟩
set_option maxHeartbeats 1000000 in
theorem wholes_core (x A : Nat) (width mode K E C K2 E2 P K3 E3 : Int) (w : World) (hT : Tab w) (hs : 1 < w.heap.size)
    (h1 : ∀ w, Tab w → 1 < w.heap.size → Calls Tryz.prog 15 #[.float .f64 x, .int .i64 mode] w fun r w' => r = .returned (.tuple #[.float .f64 A, .int .i64 K, .int .i64 E]) ∧ Below w.heap.size w w')
    (h2 : ∀ w, Calls Tryz.prog 17 #[.int .u64 x, .int .i64 mode] w fun r w' => r = .returned (.tuple #[.int .u64 A, .int .i64 K, .int .i64 E]) ∧ Below w.heap.size w w')
    (h3 : ∀ w, Tab w → 1 < w.heap.size → Calls Tryz.prog 18 #[.float .f64 x, .int .i64 width, .int .i64 mode] w fun r w' => r = .returned (.tuple #[.int .i64 C, .int .i64 K2, .int .i64 E2]) ∧ Below w.heap.size w w')
    (h4 : ∀ w, Calls Tryz.prog 19 #[.int .u64 x, .int .i64 width, .int .i64 mode] w fun r w' => r = .returned (.tuple #[.int .i64 C, .int .i64 K2, .int .i64 E2]) ∧ Below w.heap.size w w')
    (h5 : ∀ w, Tab w → 1 < w.heap.size → Calls Tryz.prog 20 #[.float .f64 x, .int .i64 width, .int .i64 mode] w fun r w' => r = .returned (.tuple #[.int .u64 P, .int .i64 K3, .int .i64 E3]) ∧ Below w.heap.size w w')
    (h6 : ∀ w, Calls Tryz.prog 21 #[.int .u64 x, .int .i64 width, .int .i64 mode] w fun r w' => r = .returned (.tuple #[.int .u64 P, .int .i64 K3, .int .i64 E3]) ∧ Below w.heap.size w w') :
    Calls Tryz.prog 4 #[.int .u64 x, .int .i64 width, .int .i64 mode] w fun r w' => r = .returned (.bool true) ∧ Below w.heap.size w w' := by
  have H1 := hid h1
  have H2 := hid h2
  have H3 := hid h3
  have H4 := hid h4
  have H5 := hid h5
  have H6 := hid h6
  clear h1 h2 h3 h4 h5 h6
  go_enter Tryz.func4, Tryz.ntmps4
  go_wp2_with fail
  refine (wf_any x _).mono ?_
  rintro r w1 ⟨rfl, rfl⟩
  go_wp2_with fail
  refine (H1.out _ hT hs).mono ?_
  rintro r w2 ⟨rfl, b2⟩
  have B2 := hid b2
  clear b2
  go_wp2_with fail
  refine (H2.out _).mono ?_
  rintro r w3 ⟨rfl, b3⟩
  have B3 := hid (bl_then B2.out b3)
  clear b3
  go_wp2_with fail
  refine (wtold_self A K E _).mono ?_
  rintro r w4 ⟨rfl, rfl⟩
  go_wp2_with fail
  refine (wf_any x _).mono ?_
  rintro r w4 ⟨rfl, rfl⟩
  go_wp2_with fail
  refine (H3.out _ (hT.below hs B3.out) (Nat.lt_of_lt_of_le hs B3.out.size)).mono ?_
  rintro r w5 ⟨rfl, b5⟩
  have B5 := hid (bl_then B3.out b5)
  clear b5
  go_wp2_with fail
  refine (H4.out _).mono ?_
  rintro r w6 ⟨rfl, b6⟩
  have B6 := hid (bl_then B5.out b6)
  clear b6
  go_wp2_with fail
  refine (wf_any x _).mono ?_
  rintro r w7 ⟨rfl, rfl⟩
  go_wp2_with fail
  refine (H5.out _ (hT.below hs B6.out) (Nat.lt_of_lt_of_le hs B6.out.size)).mono ?_
  rintro r w8 ⟨rfl, b8⟩
  have B8 := hid (bl_then B6.out b8)
  clear b8
  go_wp2_with fail
  refine (H6.out _).mono ?_
  rintro r w9 ⟨rfl, b9⟩
  have B9 := hid (bl_then B8.out b9)
  clear b9
  go_wp2_with fail
  refine (awake2_any _ (hT.below hs B9.out) (Nat.lt_of_lt_of_le hs B9.out.size)).mono ?_
  rintro r w12 ⟨rfl, b12⟩
  have B12 := hid (bl_then B9.out b12)
  clear b12
  go_wp2
  go_ret
  exact ⟨rfl, B12.out⟩
theorem wholes_law (x : Nat) (width mode : Int) (w : World) (hx : x < 18446744073709551616) (_hk : -9223372036854775808 ≤ width ∧ width ≤ 9223372036854775807) (_hm : -9223372036854775808 ≤ mode ∧ mode ≤ 9223372036854775807) (hT : Tab w) (hs : 1 < w.heap.size) :
    Calls Tryz.prog 4 #[.int .u64 x, .int .i64 width, .int .i64 mode] w fun r w' => r = .returned (.bool true) ∧ Below w.heap.size w w' := by
  by_cases hm : 0 ≤ mode ∧ mode ≤ 4
  · by_cases hv : width = 8 ∨ width = 16 ∨ width = 32 ∨ width = 64
    · rcases hv with rfl | rfl | rfl | rfl
      · exact wholes_core x _ 8 mode _ _ _ _ _ _ _ _ w hT hs (fun w hT hs => Whole_full2 x mode w hx hm.1 hm.2 hT hs) (fun w => rWhole_all x mode w hx hm) (fun w hT hs => Int8_all x mode w hx hm hT hs) (fun w => rInt8_all x mode w hx hm) (fun w hT hs => Uint8_all x mode w hx hm hT hs) (fun w => rUint8_all x mode w hx hm)
      · exact wholes_core x _ 16 mode _ _ _ _ _ _ _ _ w hT hs (fun w hT hs => Whole_full2 x mode w hx hm.1 hm.2 hT hs) (fun w => rWhole_all x mode w hx hm) (fun w hT hs => Int16_all x mode w hx hm hT hs) (fun w => rInt16_all x mode w hx hm) (fun w hT hs => Uint16_all x mode w hx hm hT hs) (fun w => rUint16_all x mode w hx hm)
      · exact wholes_core x _ 32 mode _ _ _ _ _ _ _ _ w hT hs (fun w hT hs => Whole_full2 x mode w hx hm.1 hm.2 hT hs) (fun w => rWhole_all x mode w hx hm) (fun w hT hs => Int32_all x mode w hx hm hT hs) (fun w => rInt32_all x mode w hx hm) (fun w hT hs => Uint32_all x mode w hx hm hT hs) (fun w => rUint32_all x mode w hx hm)
      · exact wholes_core x _ 64 mode _ _ _ _ _ _ _ _ w hT hs (fun w hT hs => Whole_full2 x mode w hx hm.1 hm.2 hT hs) (fun w => rWhole_all x mode w hx hm) (fun w hT hs => Int64_all x mode w hx hm hT hs) (fun w => rInt64_all x mode w hx hm) (fun w hT hs => Uint64_all x mode w hx hm hT hs) (fun w => rUint64_all x mode w hx hm)
    · exact wholes_core x _ width mode _ _ 0 0 21 0 0 21 w hT hs (fun w hT hs => Whole_full2 x mode w hx hm.1 hm.2 hT hs) (fun w => rWhole_all x mode w hx hm) (fun w hT hs => Int_bad x _ width mode _ w hv (Whole_full2 x mode w hx hm.1 hm.2 hT hs)) (fun w => rInt_width x width mode w hm hv) (fun w hT hs => Uint_bad x _ width mode _ w hv (Whole_full2 x mode w hx hm.1 hm.2 hT hs)) (fun w => rUint_width x width mode w hm hv)
  · exact wholes_core x 0 width mode 0 20 0 0 20 0 0 20 w hT hs (fun w _ _ => Whole_bad x mode w hm) (fun w => rWhole_mode x mode w hm) (fun w _ _ => Int_mode x width mode w hm) (fun w => rInt_mode x width mode w hm) (fun w _ _ => Uint_mode x width mode w hm) (fun w => rUint_mode x width mode w hm)

set_option maxRecDepth 100000 in
theorem convertWholes_lifted (os : Os) (started : os.Started) (H : Type) (enc : TypeId × Value → H) :
    ReturnsInHanded {} Tryz.checked os 4 .any (fun w args => (Rows.convertWholesSpec.pre enc Tryz.prog Tryz.f4 [] false w args ∧ laidMetH Tryz.prog [("math/bits.deBruijn64tab", Rows.laid_math_bits_deBruijn64tab)] w) ∧ sizedMet enc Tryz.prog Tryz.f4 (OpenSpec.ofChange Rows.convertWholesSpec) false w args)
      (Rows.convertWholesSpec.post enc Tryz.prog Tryz.f4 false true false false) := by
  refine returnsInHanded_of_change_and (C := Tryz.checked) (X := fun w _ => laidMetH Tryz.prog [("math/bits.deBruijn64tab", Rows.laid_math_bits_deBruijn64tab)] w) (fun _ _ _ hh h => h.of_heap hh) own started (by kernel_rfl) Tryz.func4
    (ChangeSpec.witness_shaped (enc := enc) (C := Tryz.checked) (os := os) (X := fun w _ => laidMetH Tryz.prog [("math/bits.deBruijn64tab", Rows.laid_math_bits_deBruijn64tab)] w) false (World.doorLaid Tryz.prog 400 os) #[.int .u64 0, .int .i64 0, .int .i64 0] 8 rfl (World.shaped_of_RefB (by kernel_rfl) (by kernel_rfl)) (by kernel_rfl) (by kernel_rfl) (by kernel_rfl) (door_met os _)) ?_
  intro W base args ds gs before hval0 hW _ _ hL _
  have hval : ∀ (j : Nat) t v, Tryz.f4.params[j]? = some t → args[j]? = some v → Value.okWide Tryz.prog W .any base t v := hval0
  have hW' := hW
  obtain ⟨p, q, hA0, hV, rfl, hfz, hnd⟩ := hW
  have hA : DataW.TrodAll enc Tryz.prog W 0 (fun _ => true) true Tryz.f4.params.toList args.toList ds p := hA0
  rw [Tryz.params4] at hA hval
  obtain ⟨v0, vs0, d0, ds0, p0, q0, hargs, rfl, rfl, h0, r0⟩ := trodAll_cons hA
  obtain ⟨v1, vs1, d1, ds1, p1, q1, rfl, rfl, rfl, h1, r1⟩ := trodAll_cons r0
  obtain ⟨v2, vs2, d2, ds2, p2, q2, rfl, rfl, rfl, h2, r2⟩ := trodAll_cons r1
  obtain ⟨rfl, rfl, rfl⟩ := trodAll_nil r2
  obtain rfl : args = #[v0, v1, v2] := by cases args; simp_all
  obtain ⟨rfl, rfl⟩ := trodVars_none hV
  obtain ⟨a0, rfl, rfl, rfl, w0⟩ := open_int Tryz.underlying22 (hval 0 22 v0 rfl rfl) h0
  obtain ⟨n0, rfl⟩ := Int.eq_ofNat_of_zero_le (bounds_u64 w0).1
  have l0 : n0 < 18446744073709551616 := by have := (bounds_u64 w0).2; omega
  obtain ⟨a1, rfl, rfl, rfl, w1⟩ := open_int Tryz.underlying3 (hval 1 3 v1 rfl rfl) h1
  obtain ⟨a2, rfl, rfl, rfl, w2⟩ := open_int Tryz.underlying3 (hval 2 3 v2 rfl rfl) h2
  obtain ⟨hT, hs⟩ := tab_of_laid hL
  clear hA0 hval0
  simp only [List.append_nil] at hW'
  refine (wholes_law n0 a1 a2 W l0 (bounds_i64 w1) (bounds_i64 w2) hT hs).mono fun e W' ⟨he, bel⟩ => ?_
  subst he
  exact ⟨_, rfl, _, _, _, [], [], [], hW', trodAll_mk1 (shut_bool Tryz.underlying4 _), (trodAll_cons_mk (shut_int Tryz.underlying22 w0) (trodAll_cons_mk (shut_int Tryz.underlying3 w1) (trodAll_cons_mk (shut_int Tryz.underlying3 w2) trodAll_mk0))), rfl, bel.frame _, fun h => by cases h⟩

theorem convertWholes_row : Rows.ConvertWholesSaid :=
  OpenClaim.holds_of_wide 4 Tryz.f4 rfl rfl rfl rfl rfl rfl rfl ⟨rfl, rfl, rfl, rfl, rfl⟩ rfl rfl rfl rfl rfl (by kernel_rfl) Tryz.func4 (by kernel_rfl)
    (of_decide_eq_true (by kernel_rfl)) (by unfold Func.isWrapper; first | (rw [if_pos (by decide +kernel)]; kernel_rfl) | (rw [if_neg (by decide +kernel)]; exact ⟨rfl, rfl⟩))
    (fun os started H enc _ => convertWholes_lifted os started H enc)

theorem convertWholes_card : Rows.ConvertWholesCardSaid :=
  Claim7.holds_tied_plain_at .later [] [.data] true (true, "c103543678555e16baa3ea70a7d4ae6a5aa49052f23c365a4eb55b330a6baded") false
    convertWholes_row (fun _ h => by cases h) (by kernel_rfl) (fun _ h => by cases h) convertWholes_row_tie rfl ⟨rfl, rfl⟩ (by kernel_rfl) rfl
    (fun f fn hf hfn => by
      obtain rfl : f = 4 := Option.some.inj ((show Tryz.prog.funcNamed "binnacle/binnaclelaw02.ConvertWholes" = some 4 by kernel_rfl).symm.trans hf) |>.symm
      obtain rfl : fn = Tryz.f4 := (Option.some.inj (Tryz.func4.symm.trans hfn)).symm
      exact ⟨by kernel_rfl, fun j t ht => by
        rw [Tryz.params4] at ht
        have hm : t ∈ [22, 3, 3] := by simpa using Array.mem_of_getElem? ht
        have hall : ([22, 3, 3].all fun u => !Tryz.prog.wantsStandIn u) = true := by kernel_rfl
        exact (show Tryz.prog.wantsStandIn t = false by simpa using List.all_eq_true.1 hall t hm)⟩)
    (by kernel_rfl)
#print axioms convertWholes_card
end Go.Proofs.YtpgcelbgmpfliaaGreatDoor
