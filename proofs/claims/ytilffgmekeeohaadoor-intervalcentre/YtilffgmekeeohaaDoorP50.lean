
/- Proved: for all bits of the ends of an interval the law IntervalCentre answers true: of what is no interval Mid, Radius and Width are NaNs; else the middle is in the interval, radius and width are not below 0, both are infinite where an end is, and where they are finite, middle less radius is at most the lower end, middle and radius together at least the upper one, and the width at least the ends' exact difference; chapter 6's first examples hold. Its condition: the library's table of trailing zeros starts as the program's text lays it, to which the card ties it. -/
import Derived.Test.YtilffgmekeeohaaDoorP42
import Derived.Test.YtilffgmekeeohaaDoorP49
import Derived.Test.YtilffgmekeeohaaDoorTie
import Derived.Test.YtilffgmekeeohaaDoorCards
import Derived.SevenTiedAt
import Derived.Lib.SmallJoins
namespace Go.Proofs.YtilffgmekeeohaaDoor
open Go.ChangeShapes Go.WideShapes Go.ChangeAt Go.RowKit Go.IntWalk

theorem centre_law (a b : Nat) (w : World) (ha : a < 18446744073709551616) (hb : b < 18446744073709551616) (hA : ∀ W, Below w.heap.size w W → Calls Tryd.prog 4 #[] W fun r w' => r = .returned (.bool true) ∧ Below W.heap.size W w') : Calls Tryd.prog 3 #[.agg #[.int .u64 a, .int .u64 b]] w fun r w' => r = .returned (.bool true) ∧ Below w.heap.size w w' := by
  rcases hF : fullB a b with _ | _
  · exact centre_not a b w ha hb hA hF
  · obtain ⟨m, r, u, hM, hR, hU, ⟨m1, m2, m3, m4⟩, ⟨r1, r2⟩, ⟨u1, u2⟩, hcase⟩ := centre_full a b ⟨ha, hb⟩ hF
    obtain ⟨n1, n2⟩ := full_nums hF
    have eA : btLo a b = plusOf a := if_pos hF
    have eB : btHi a b = plusOf b := if_pos hF
    have sA := plus_sv a ha n1
    have sB := plus_sv b hb n2
    rw [eA] at m3 hcase
    rw [eB] at m4 hcase
    rw [sA] at m3 hcase
    rw [sB] at m4 hcase
    have hH : hasB a b m = true := by
      unfold hasB
      rw [hF, le_nn ⟨ha, n1⟩ (cn_nn m1), le_nn (cn_nn m1) ⟨hb, n2⟩, decide_eq_true m3, decide_eq_true m4]
      unfold finB
      rw [decide_eq_true m2]
      rfl
    have z : sv 0 = 0 := by decide +kernel
    have hr0 : (FloatKind.f64.format.order r 0 == some .lt) = false := by rw [lt_sv r1 cn_0, decide_eq_false (by omega)]
    have hu0 : (FloatKind.f64.format.order u 0 == some .lt) = false := by rw [lt_sv u1 cn_0, decide_eq_false (by omega)]
    have pinf : ∀ x, x < 18446744073709551616 → x % 9223372036854775808 ≤ 9218868437227405312 → (plusOf x = 9218868437227405312 ∨ plusOf x = 18442240474082181120) → x % 9223372036854775808 = 9218868437227405312 := fun x _ _ h => by
      unfold plusOf at h
      split at h
      · rcases h with h | h <;> exact absurd h (by decide)
      · rcases h with h | h <;> rw [h]
    rcases hcase with ⟨fA, fB, hh⟩ | ⟨hor, ir, iu⟩
    · have ia := plus_fin ha n1 fA
      have ib := plus_fin hb n2 fB
      rcases hh with ⟨ir, iu⟩ | ⟨ir, k1, k2, hu⟩
      · exact centre_f1 a b m r u w ha hb hA hF hM hR hU hH m1.1 hr0 hu0 r1.1 u1.1 ia ib ir iu
      · rcases hu with iu | ⟨iu, k3⟩
        · exact centre_f2 a b m r u w ha hb hA hF hM hR hU hH m1.1 hr0 hu0 r1.1 u1.1 ia ib ir m2 k1 k2 iu
        · exact centre_f3 a b m r u w ha hb hA hF hM hR hU hH m1.1 hr0 hu0 r1.1 u1.1 ia ib ir m2 k1 k2 iu k3
    · by_cases ia : a % 9223372036854775808 = 9218868437227405312
      · exact centre_i1 a b m r u w ha hb hA hF hM hR hU hH m1.1 hr0 hu0 r1.1 u1.1 ia ir iu
      · rcases hor with h | h
        · exact absurd (pinf a ha n1 (Or.inr h)) ia
        · exact centre_i2 a b m r u w ha hb hA hF hM hR hU hH m1.1 hr0 hu0 r1.1 u1.1 (by omega) (pinf b hb n2 (Or.inl h)) ir iu
theorem centre_walk (a b : Nat) (w : World) (ha : a < 18446744073709551616) (hb : b < 18446744073709551616) (hT : Tab w) (hs : 1 < w.heap.size) : Calls Tryd.prog 3 #[.agg #[.int .u64 a, .int .u64 b]] w fun r w' => r = .returned (.bool true) ∧ Below w.heap.size w w' :=
  centre_law a b w ha hb (fun W hW => awake6_any W (hT.below hs hW) (Nat.lt_of_lt_of_le hs hW.size))

set_option maxRecDepth 100000 in
theorem intervalCentre_lifted (os : Os) (started : os.Started) (H : Type) (enc : TypeId × Value → H) :
    ReturnsInHanded {} Tryd.checked os 3 .any (fun w args => (Rows.intervalCentreSpec.pre enc Tryd.prog Tryd.f3 [] false w args ∧ laidMetH Tryd.prog [("math/bits.deBruijn64tab", Rows.laid_math_bits_deBruijn64tab)] w) ∧ sizedMet enc Tryd.prog Tryd.f3 (OpenSpec.ofChange Rows.intervalCentreSpec) false w args)
      (Rows.intervalCentreSpec.post enc Tryd.prog Tryd.f3 false true false false) := by
  refine returnsInHanded_of_change_and (C := Tryd.checked) (X := fun w _ => laidMetH Tryd.prog [("math/bits.deBruijn64tab", Rows.laid_math_bits_deBruijn64tab)] w) (fun _ _ _ hh h => h.of_heap hh) own started (by kernel_rfl) Tryd.func3
    (ChangeSpec.witness_shaped (enc := enc) (C := Tryd.checked) (os := os) (X := fun w _ => laidMetH Tryd.prog [("math/bits.deBruijn64tab", Rows.laid_math_bits_deBruijn64tab)] w) false (World.doorLaid Tryd.prog 400 os) #[.agg #[.int .u64 0, .int .u64 0]] 8 rfl (World.shaped_of_RefB (by kernel_rfl) (by kernel_rfl)) (by kernel_rfl) (by kernel_rfl) (by kernel_rfl) (door_met os _)) ?_
  intro W base args ds gs before hval0 hW _ _ hL _
  have hval : ∀ (j : Nat) t v, Tryd.f3.params[j]? = some t → args[j]? = some v → Value.okWide Tryd.prog W .any base t v := hval0
  have hW' := hW
  obtain ⟨p, q, hA0, hV, rfl, hfz, hnd⟩ := hW
  have hA : DataW.TrodAll enc Tryd.prog W 0 (fun _ => true) true Tryd.f3.params.toList args.toList ds p := hA0
  rw [Tryd.params3] at hA hval
  obtain ⟨v0, vs0, d0, ds0, p0, q0, hargs, rfl, rfl, h0, r0⟩ := trodAll_cons hA
  obtain ⟨rfl, rfl, rfl⟩ := trodAll_nil r0
  obtain rfl : args = #[v0] := by cases args; simp_all
  obtain ⟨rfl, rfl⟩ := trodVars_none hV
  obtain ⟨c0a, c0b, y0a, y0b, m0, rfl, rfl, rfl, t0a, t0b⟩ := Joins.open_agg2 Tryd.underlying24 (by kernel_rfl) (show Tryd.prog.cellsOf 24 = 2 by kernel_rfl) (hval 0 24 v0 rfl rfl) h0
  obtain ⟨x0a, e0a, rfl, wx0a⟩ := DataW.trod_int Tryd.underlying22 t0a
  obtain ⟨x0b, e0b, rfl, wx0b⟩ := DataW.trod_int Tryd.underlying22 t0b
  simp only [List.cons.injEq, and_true] at e0a e0b
  subst e0a e0b
  obtain ⟨mn0a, rfl⟩ := Int.eq_ofNat_of_zero_le (bounds_u64 wx0a).1
  have lm0a : mn0a < 18446744073709551616 := by have := (bounds_u64 wx0a).2; omega
  obtain ⟨mn0b, rfl⟩ := Int.eq_ofNat_of_zero_le (bounds_u64 wx0b).1
  have lm0b : mn0b < 18446744073709551616 := by have := (bounds_u64 wx0b).2; omega
  obtain ⟨hT, hs⟩ := tab_of_laid hL
  clear hA0 hval0
  simp only [List.append_nil] at hW'
  refine (centre_walk mn0a mn0b W lm0a lm0b hT hs).mono fun e W' ⟨he, bel⟩ => ?_
  subst he
  exact ⟨_, rfl, _, _, _, [], [], [], hW', trodAll_mk1 (shut_bool Tryd.underlying4 _), (trodAll_cons_mk (Joins.shut_agg2 (y0 := (.lit (.int .u64 (mn0a : Int)), [])) (y1 := (.lit (.int .u64 (mn0b : Int)), [])) Tryd.underlying24 (by kernel_rfl) (show Tryd.prog.cellsOf 24 = 2 by kernel_rfl) ⟨1, by simp [DataW.trod, Tryd.underlying22, wx0a]⟩ ⟨1, by simp [DataW.trod, Tryd.underlying22, wx0b]⟩) trodAll_mk0), rfl, bel.frame _, fun h => by cases h⟩

theorem intervalCentre_row : Rows.IntervalCentreSaid :=
  OpenClaim.holds_of_wide 3 Tryd.f3 rfl rfl rfl rfl rfl rfl rfl ⟨rfl, rfl, rfl, rfl, rfl⟩ rfl rfl rfl rfl rfl (by kernel_rfl) Tryd.func3 (by kernel_rfl)
    (of_decide_eq_true (by kernel_rfl)) (by unfold Func.isWrapper; first | (rw [if_pos (by decide +kernel)]; kernel_rfl) | (rw [if_neg (by decide +kernel)]; exact ⟨rfl, rfl⟩))
    (fun os started H enc _ => intervalCentre_lifted os started H enc)

theorem intervalCentre_card : Rows.IntervalCentreCardSaid :=
  Claim7.holds_tied_plain_at .later [] [.data] true (true, "e4406a4d0ae6f2332b58e00a42c9e0f20d0cde3b098f34b7cb1d9f902306bc11") false
    intervalCentre_row (fun _ h => by cases h) (by kernel_rfl) (fun _ h => by cases h) intervalCentre_row_tie rfl ⟨rfl, rfl⟩ (by kernel_rfl) rfl
    (fun f fn hf hfn => by
      obtain rfl : f = 3 := Option.some.inj ((show Tryd.prog.funcNamed "binnacle/binnaclelaw06.IntervalCentre" = some 3 by kernel_rfl).symm.trans hf) |>.symm
      obtain rfl : fn = Tryd.f3 := (Option.some.inj (Tryd.func3.symm.trans hfn)).symm
      exact ⟨by kernel_rfl, fun j t ht => by
        rw [Tryd.params3] at ht
        have hm : t ∈ [24] := by simpa using Array.mem_of_getElem? ht
        have hall : ([24].all fun u => !Tryd.prog.wantsStandIn u) = true := by kernel_rfl
        exact (show Tryd.prog.wantsStandIn t = false by simpa using List.all_eq_true.1 hall t hm)⟩)
    (by kernel_rfl)
#print axioms intervalCentre_card
end Go.Proofs.YtilffgmekeeohaaDoor
