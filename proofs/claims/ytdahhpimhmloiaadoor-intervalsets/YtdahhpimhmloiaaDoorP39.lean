
/- Proved: for all bits of the ends of three intervals the law IntervalSets answers true: interval's Hull and Meet are commutative and associative, Meet of an interval with a Hull that it is part of is that interval (what is no interval counts as the empty one), In is transitive and holds of an interval with itself, two that are in one another have the same Hull with themselves, and Meets tells whether Meet is other than the empty one; chapter 6's first examples hold. Its condition: the library's table of trailing zeros starts as the program's text lays it, to which the card ties it. -/
import Derived.Test.YtdahhpimhmloiaaDoorP20
import Derived.Test.YtdahhpimhmloiaaDoorP37
import Derived.Test.YtdahhpimhmloiaaDoorP38
import Derived.Test.YtdahhpimhmloiaaDoorTie
import Derived.Test.YtdahhpimhmloiaaDoorCards
import Derived.SevenTiedAt
import Derived.Lib.SmallJoins
namespace Go.Proofs.YtdahhpimhmloiaaDoor
open Go.ChangeShapes Go.WideShapes Go.ChangeAt Go.RowKit Go.IntWalk

theorem sets_walk (a b c d e f : Nat) (w : World) (ha : a < 18446744073709551616) (hb : b < 18446744073709551616) (hc : c < 18446744073709551616) (hd : d < 18446744073709551616) (he : e < 18446744073709551616) (hf : f < 18446744073709551616) (hT : Tab w) (hs : 1 < w.heap.size) : Calls Tryd.prog 3 #[.agg #[.int .u64 a, .int .u64 b], .agg #[.int .u64 c, .int .u64 d], .agg #[.int .u64 e, .int .u64 f]] w fun r w' => r = .returned (.bool true) ∧ Below w.heap.size w w' :=
  sets_law a b c d e f w ha hb hc hd he hf (fun W hW => awake6_any W (hT.below hs hW) (Nat.lt_of_lt_of_le hs hW.size))

set_option maxRecDepth 100000 in
theorem intervalSets_lifted (os : Os) (started : os.Started) (H : Type) (enc : TypeId × Value → H) :
    ReturnsInHanded {} Tryd.checked os 3 .any (fun w args => (Rows.intervalSetsSpec.pre enc Tryd.prog Tryd.f3 [] false w args ∧ laidMetH Tryd.prog [("math/bits.deBruijn64tab", Rows.laid_math_bits_deBruijn64tab)] w) ∧ sizedMet enc Tryd.prog Tryd.f3 (OpenSpec.ofChange Rows.intervalSetsSpec) false w args)
      (Rows.intervalSetsSpec.post enc Tryd.prog Tryd.f3 false true false false) := by
  refine returnsInHanded_of_change_and (C := Tryd.checked) (X := fun w _ => laidMetH Tryd.prog [("math/bits.deBruijn64tab", Rows.laid_math_bits_deBruijn64tab)] w) (fun _ _ _ hh h => h.of_heap hh) own started (by kernel_rfl) Tryd.func3
    (ChangeSpec.witness_shaped (enc := enc) (C := Tryd.checked) (os := os) (X := fun w _ => laidMetH Tryd.prog [("math/bits.deBruijn64tab", Rows.laid_math_bits_deBruijn64tab)] w) false (World.doorLaid Tryd.prog 400 os) #[.agg #[.int .u64 0, .int .u64 0], .agg #[.int .u64 0, .int .u64 0], .agg #[.int .u64 0, .int .u64 0]] 8 rfl (World.shaped_of_RefB (by kernel_rfl) (by kernel_rfl)) (by kernel_rfl) (by kernel_rfl) (by kernel_rfl) (door_met os _)) ?_
  intro W base args ds gs before hval0 hW _ _ hL _
  have hval : ∀ (j : Nat) t v, Tryd.f3.params[j]? = some t → args[j]? = some v → Value.okWide Tryd.prog W .any base t v := hval0
  have hW' := hW
  obtain ⟨p, q, hA0, hV, rfl, hfz, hnd⟩ := hW
  have hA : DataW.TrodAll enc Tryd.prog W 0 (fun _ => true) true Tryd.f3.params.toList args.toList ds p := hA0
  rw [Tryd.params3] at hA hval
  obtain ⟨v0, vs0, d0, ds0, p0, q0, hargs, rfl, rfl, h0, r0⟩ := trodAll_cons hA
  obtain ⟨v1, vs1, d1, ds1, p1, q1, rfl, rfl, rfl, h1, r1⟩ := trodAll_cons r0
  obtain ⟨v2, vs2, d2, ds2, p2, q2, rfl, rfl, rfl, h2, r2⟩ := trodAll_cons r1
  obtain ⟨rfl, rfl, rfl⟩ := trodAll_nil r2
  obtain rfl : args = #[v0, v1, v2] := by cases args; simp_all
  obtain ⟨rfl, rfl⟩ := trodVars_none hV
  obtain ⟨c0a, c0b, y0a, y0b, m0, rfl, rfl, rfl, t0a, t0b⟩ := Joins.open_agg2 Tryd.underlying24 (by kernel_rfl) (show Tryd.prog.cellsOf 24 = 2 by kernel_rfl) (hval 0 24 v0 rfl rfl) h0
  obtain ⟨x0a, e0a, rfl, wx0a⟩ := DataW.trod_int Tryd.underlying22 t0a
  obtain ⟨x0b, e0b, rfl, wx0b⟩ := DataW.trod_int Tryd.underlying22 t0b
  simp only [List.cons.injEq, and_true] at e0a e0b
  subst e0a e0b
  obtain ⟨mn0a, rfl⟩ := Int.eq_ofNat_of_zero_le (bounds_u64 wx0a).1
  have lm0a : mn0a < 18446744073709551616 := by have := (bounds_u64 wx0a).2; omega
  obtain ⟨mn0b, rfl⟩ := Int.eq_ofNat_of_zero_le (bounds_u64 wx0b).1
  have lm0b : mn0b < 18446744073709551616 := by have := (bounds_u64 wx0b).2; omega
  obtain ⟨c1a, c1b, y1a, y1b, m1, rfl, rfl, rfl, t1a, t1b⟩ := Joins.open_agg2 Tryd.underlying24 (by kernel_rfl) (show Tryd.prog.cellsOf 24 = 2 by kernel_rfl) (hval 1 24 v1 rfl rfl) h1
  obtain ⟨x1a, e1a, rfl, wx1a⟩ := DataW.trod_int Tryd.underlying22 t1a
  obtain ⟨x1b, e1b, rfl, wx1b⟩ := DataW.trod_int Tryd.underlying22 t1b
  simp only [List.cons.injEq, and_true] at e1a e1b
  subst e1a e1b
  obtain ⟨mn1a, rfl⟩ := Int.eq_ofNat_of_zero_le (bounds_u64 wx1a).1
  have lm1a : mn1a < 18446744073709551616 := by have := (bounds_u64 wx1a).2; omega
  obtain ⟨mn1b, rfl⟩ := Int.eq_ofNat_of_zero_le (bounds_u64 wx1b).1
  have lm1b : mn1b < 18446744073709551616 := by have := (bounds_u64 wx1b).2; omega
  obtain ⟨c2a, c2b, y2a, y2b, m2, rfl, rfl, rfl, t2a, t2b⟩ := Joins.open_agg2 Tryd.underlying24 (by kernel_rfl) (show Tryd.prog.cellsOf 24 = 2 by kernel_rfl) (hval 2 24 v2 rfl rfl) h2
  obtain ⟨x2a, e2a, rfl, wx2a⟩ := DataW.trod_int Tryd.underlying22 t2a
  obtain ⟨x2b, e2b, rfl, wx2b⟩ := DataW.trod_int Tryd.underlying22 t2b
  simp only [List.cons.injEq, and_true] at e2a e2b
  subst e2a e2b
  obtain ⟨mn2a, rfl⟩ := Int.eq_ofNat_of_zero_le (bounds_u64 wx2a).1
  have lm2a : mn2a < 18446744073709551616 := by have := (bounds_u64 wx2a).2; omega
  obtain ⟨mn2b, rfl⟩ := Int.eq_ofNat_of_zero_le (bounds_u64 wx2b).1
  have lm2b : mn2b < 18446744073709551616 := by have := (bounds_u64 wx2b).2; omega
  obtain ⟨hT, hs⟩ := tab_of_laid hL
  clear hA0 hval0
  simp only [List.append_nil] at hW'
  refine (sets_walk mn0a mn0b mn1a mn1b mn2a mn2b W lm0a lm0b lm1a lm1b lm2a lm2b hT hs).mono fun e W' ⟨he, bel⟩ => ?_
  subst he
  exact ⟨_, rfl, _, _, _, [], [], [], hW', trodAll_mk1 (shut_bool Tryd.underlying4 _), (trodAll_cons_mk (Joins.shut_agg2 (y0 := (.lit (.int .u64 (mn0a : Int)), [])) (y1 := (.lit (.int .u64 (mn0b : Int)), [])) Tryd.underlying24 (by kernel_rfl) (show Tryd.prog.cellsOf 24 = 2 by kernel_rfl) ⟨1, by simp [DataW.trod, Tryd.underlying22, wx0a]⟩ ⟨1, by simp [DataW.trod, Tryd.underlying22, wx0b]⟩) (trodAll_cons_mk (Joins.shut_agg2 (y0 := (.lit (.int .u64 (mn1a : Int)), [])) (y1 := (.lit (.int .u64 (mn1b : Int)), [])) Tryd.underlying24 (by kernel_rfl) (show Tryd.prog.cellsOf 24 = 2 by kernel_rfl) ⟨1, by simp [DataW.trod, Tryd.underlying22, wx1a]⟩ ⟨1, by simp [DataW.trod, Tryd.underlying22, wx1b]⟩) (trodAll_cons_mk (Joins.shut_agg2 (y0 := (.lit (.int .u64 (mn2a : Int)), [])) (y1 := (.lit (.int .u64 (mn2b : Int)), [])) Tryd.underlying24 (by kernel_rfl) (show Tryd.prog.cellsOf 24 = 2 by kernel_rfl) ⟨1, by simp [DataW.trod, Tryd.underlying22, wx2a]⟩ ⟨1, by simp [DataW.trod, Tryd.underlying22, wx2b]⟩) trodAll_mk0))), rfl, bel.frame _, fun h => by cases h⟩

theorem intervalSets_row : Rows.IntervalSetsSaid :=
  OpenClaim.holds_of_wide 3 Tryd.f3 rfl rfl rfl rfl rfl rfl rfl ⟨rfl, rfl, rfl, rfl, rfl⟩ rfl rfl rfl rfl rfl (by kernel_rfl) Tryd.func3 (by kernel_rfl)
    (of_decide_eq_true (by kernel_rfl)) (by unfold Func.isWrapper; first | (rw [if_pos (by decide +kernel)]; kernel_rfl) | (rw [if_neg (by decide +kernel)]; exact ⟨rfl, rfl⟩))
    (fun os started H enc _ => intervalSets_lifted os started H enc)

theorem intervalSets_card : Rows.IntervalSetsCardSaid :=
  Claim7.holds_tied_plain_at .later [] [.data] true (true, "9f9c9f5d403bdb5b590e588bf265c5d37c9e7369b3ea46a29b7cc445cbd0e48a") false
    intervalSets_row (fun _ h => by cases h) (by kernel_rfl) (fun _ h => by cases h) intervalSets_row_tie rfl ⟨rfl, rfl⟩ (by kernel_rfl) rfl
    (fun f fn hf hfn => by
      obtain rfl : f = 3 := Option.some.inj ((show Tryd.prog.funcNamed "binnacle/binnaclelaw06.IntervalSets" = some 3 by kernel_rfl).symm.trans hf) |>.symm
      obtain rfl : fn = Tryd.f3 := (Option.some.inj (Tryd.func3.symm.trans hfn)).symm
      exact ⟨by kernel_rfl, fun j t ht => by
        rw [Tryd.params3] at ht
        have hm : t ∈ [24, 24, 24] := by simpa using Array.mem_of_getElem? ht
        have hall : ([24, 24, 24].all fun u => !Tryd.prog.wantsStandIn u) = true := by kernel_rfl
        exact (show Tryd.prog.wantsStandIn t = false by simpa using List.all_eq_true.1 hall t hm)⟩)
    (by kernel_rfl)
#print axioms intervalSets_card
end Go.Proofs.YtdahhpimhmloiaaDoor
