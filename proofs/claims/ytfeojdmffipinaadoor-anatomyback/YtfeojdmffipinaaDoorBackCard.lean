
/- Proved: for all bits x and all parts p the law AnatomyBack answers true: Join undoes Split, Unkey undoes Key, Of undoes Parts, and Parts of Of has the same value. Its condition: the library's table of trailing zeros starts as the program's text lays it, to which the card ties it. -/
import Derived.Test.YtfeojdmffipinaaDoorBackZero
import Derived.Test.YtfeojdmffipinaaDoorBackGood
import Derived.Test.YtfeojdmffipinaaDoorSeat
import Derived.Test.YtfeojdmffipinaaDoorTie
import Derived.Test.YtfeojdmffipinaaDoorCards
import Derived.SevenTiedAt
import Derived.Lib.SmallJoins
namespace Go.Proofs.YtfeojdmffipinaaDoor
open Go.ChangeShapes Go.WideShapes Go.ChangeAt Go.RowKit

theorem back_law (x : Nat) (neg : Bool) (m : Nat) (e : Int) (w : World) (hx : x < 18446744073709551616) (hm : m < 18446744073709551616) (_he : -9223372036854775808 ≤ e ∧ e ≤ 9223372036854775807) (hT : Tab w) (hs : 1 < w.heap.size) :
    Calls Tryd.prog 3 #[.int .u64 x, .agg #[.bool neg, .int .u64 m, .int .i64 e]] w fun r w' => r = .returned (.bool true) ∧ Below w.heap.size w w' := by
  by_cases hb : wBad m e
  · exact back_bad x m neg e w hx hm hT hs hb
  · by_cases h0 : m = 0
    · exact back_zero x m neg e w hx hm hT hs hb h0
    · exact back_good x m neg e w hx hm hT hs hb h0 _ rfl

set_option maxRecDepth 100000 in
theorem anatomyBack_lifted (os : Os) (started : os.Started) (H : Type) (enc : TypeId × Value → H) :
    ReturnsInHanded {} Tryd.checked os 3 .any (fun w args => (Rows.anatomyBackSpec.pre enc Tryd.prog Tryd.f3 [] false w args ∧ laidMetH Tryd.prog [("math/bits.deBruijn64tab", Rows.laid_math_bits_deBruijn64tab)] w) ∧ sizedMet enc Tryd.prog Tryd.f3 (OpenSpec.ofChange Rows.anatomyBackSpec) false w args)
      (Rows.anatomyBackSpec.post enc Tryd.prog Tryd.f3 false true false false) := by
  refine returnsInHanded_of_change_and (C := Tryd.checked) (X := fun w _ => laidMetH Tryd.prog [("math/bits.deBruijn64tab", Rows.laid_math_bits_deBruijn64tab)] w) (fun _ _ _ hh h => h.of_heap hh) own started (by kernel_rfl) Tryd.func3
    (ChangeSpec.witness_shaped (enc := enc) (C := Tryd.checked) (os := os) (X := fun w _ => laidMetH Tryd.prog [("math/bits.deBruijn64tab", Rows.laid_math_bits_deBruijn64tab)] w) false (World.doorLaid Tryd.prog 400 os) #[.int .u64 0, .agg #[.bool false, .int .u64 0, .int .i64 0]] 8 rfl (World.shaped_of_RefB (by kernel_rfl) (by kernel_rfl)) (by kernel_rfl) (by kernel_rfl) (by kernel_rfl) (door_met os _)) ?_
  intro W base args ds gs before hval0 hW _ _ hL _
  have hval : ∀ (j : Nat) t v, Tryd.f3.params[j]? = some t → args[j]? = some v → Value.okWide Tryd.prog W .any base t v := hval0
  have hW' := hW
  obtain ⟨p, q, hA0, hV, rfl, hfz, hnd⟩ := hW
  have hA : DataW.TrodAll enc Tryd.prog W 0 (fun _ => true) true Tryd.f3.params.toList args.toList ds p := hA0
  rw [Tryd.params3] at hA hval
  obtain ⟨v0, vs0, d0, ds0, p0, q0, hargs, rfl, rfl, h0, r0⟩ := trodAll_cons hA
  obtain ⟨v1, vs1, d1, ds1, p1, q1, rfl, rfl, rfl, h1, r1⟩ := trodAll_cons r0
  obtain ⟨rfl, rfl, rfl⟩ := trodAll_nil r1
  obtain rfl : args = #[v0, v1] := by cases args; simp_all
  obtain ⟨rfl, rfl⟩ := trodVars_none hV
  obtain ⟨a0, rfl, rfl, rfl, w0⟩ := open_int Tryd.underlying22 (hval 0 22 v0 rfl rfl) h0
  obtain ⟨n0, rfl⟩ := Int.eq_ofNat_of_zero_le (bounds_u64 w0).1
  have l0 : n0 < 18446744073709551616 := by have := (bounds_u64 w0).2; omega
  obtain ⟨c1a, c1b, c1c, y1a, y1b, y1c, m1, rfl, rfl, rfl, t1a, t1b, t1c⟩ := Joins.open_agg3 Tryd.underlying24 (by kernel_rfl) (show Tryd.prog.cellsOf 24 = 3 by kernel_rfl) (hval 1 24 v1 rfl rfl) h1
  obtain ⟨b1, e1a, rfl⟩ := DataW.trod_bool Tryd.underlying4 t1a
  obtain ⟨m1x, e1b, rfl, wm1⟩ := DataW.trod_int Tryd.underlying22 t1b
  obtain ⟨x1, e1c, rfl, wx1⟩ := DataW.trod_int Tryd.underlying3 t1c
  simp only [List.cons.injEq, and_true] at e1a e1b e1c
  subst e1a e1b e1c
  obtain ⟨mn1, rfl⟩ := Int.eq_ofNat_of_zero_le (bounds_u64 wm1).1
  have lm1 : mn1 < 18446744073709551616 := by have := (bounds_u64 wm1).2; omega
  obtain ⟨hT, hs⟩ := tab_of_laid hL
  clear hA0 hval0
  simp only [List.append_nil] at hW'
  refine (back_law n0 b1 mn1 x1 W l0 lm1 (bounds_i64 wx1) hT hs).mono fun e W' ⟨he, bel⟩ => ?_
  subst he
  exact ⟨_, rfl, _, _, _, [], [], [], hW', trodAll_mk1 (shut_bool Tryd.underlying4 _), (trodAll_cons_mk (shut_int Tryd.underlying22 w0) (trodAll_cons_mk (Joins.shut_agg3 (y0 := (.lit (.bool b1), [])) (y1 := (.lit (.int .u64 (mn1 : Int)), [])) (y2 := (.lit (.int .i64 x1), [])) Tryd.underlying24 (by kernel_rfl) (show Tryd.prog.cellsOf 24 = 3 by kernel_rfl) ⟨1, by simp [DataW.trod, Tryd.underlying4]⟩ ⟨1, by simp [DataW.trod, Tryd.underlying22, wm1]⟩ ⟨1, by simp [DataW.trod, Tryd.underlying3, wx1]⟩) trodAll_mk0)), rfl, bel.frame _, fun h => by cases h⟩

theorem anatomyBack_row : Rows.AnatomyBackSaid :=
  OpenClaim.holds_of_wide 3 Tryd.f3 rfl rfl rfl rfl rfl rfl rfl ⟨rfl, rfl, rfl, rfl, rfl⟩ rfl rfl rfl rfl rfl (by kernel_rfl) Tryd.func3 (by kernel_rfl)
    (of_decide_eq_true (by kernel_rfl)) (by unfold Func.isWrapper; first | (rw [if_pos (by decide +kernel)]; kernel_rfl) | (rw [if_neg (by decide +kernel)]; exact ⟨rfl, rfl⟩))
    (fun os started H enc _ => anatomyBack_lifted os started H enc)

theorem anatomyBack_card : Rows.AnatomyBackCardSaid :=
  Claim7.holds_tied_plain_at .later [] [.data] true (true, "a32aba356635e8a6eb3eb2178527088e6073dfbbae84cf0375af625bc9adbcca") false
    anatomyBack_row (fun _ h => by cases h) (by kernel_rfl) (fun _ h => by cases h) anatomyBack_row_tie rfl ⟨rfl, rfl⟩ (by kernel_rfl) rfl
    (fun f fn hf hfn => by
      obtain rfl : f = 3 := Option.some.inj ((show Tryd.prog.funcNamed "binnacle/binnaclelaw01.AnatomyBack" = some 3 by kernel_rfl).symm.trans hf) |>.symm
      obtain rfl : fn = Tryd.f3 := (Option.some.inj (Tryd.func3.symm.trans hfn)).symm
      exact ⟨by kernel_rfl, fun j t ht => by
        rw [Tryd.params3] at ht
        have hm : t ∈ [22, 24] := by simpa using Array.mem_of_getElem? ht
        have hall : ([22, 24].all fun u => !Tryd.prog.wantsStandIn u) = true := by kernel_rfl
        exact (show Tryd.prog.wantsStandIn t = false by simpa using List.all_eq_true.1 hall t hm)⟩)
    (by kernel_rfl)
#print axioms anatomyBack_card
end Go.Proofs.YtfeojdmffipinaaDoor
