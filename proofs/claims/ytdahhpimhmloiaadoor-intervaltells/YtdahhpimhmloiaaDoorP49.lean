
/- Proved: for all bits of the ends of two intervals and of a number the law IntervalTells answers true: interval's New, Point, Empty, All, Is, Has, In, Meets, Below, Hull and Meet answer, bit by bit, as the document's own do; chapter 6's first examples hold. Its condition: the library's table of trailing zeros starts as the program's text lays it, to which the card ties it. -/
import Derived.Test.YtdahhpimhmloiaaDoorP31
import Derived.Test.YtdahhpimhmloiaaDoorP47
import Derived.Test.YtdahhpimhmloiaaDoorP48
import Derived.Test.YtdahhpimhmloiaaDoorTie
import Derived.Test.YtdahhpimhmloiaaDoorCards
import Derived.SevenTiedAt
import Derived.Lib.SmallJoins
namespace Go.Proofs.YtdahhpimhmloiaaDoor
open Go.ChangeShapes Go.WideShapes Go.ChangeAt Go.RowKit Go.IntWalk

theorem tells_walk (a b c d x : Nat) (w : World) (ha : a < 18446744073709551616) (hb : b < 18446744073709551616) (hc : c < 18446744073709551616) (hd : d < 18446744073709551616) (hx : x < 18446744073709551616) (hT : Tab w) (hs : 1 < w.heap.size) : Calls Tryd.prog 4 #[.agg #[.int .u64 a, .int .u64 b], .agg #[.int .u64 c, .int .u64 d], .int .u64 x] w fun r w' => r = .returned (.bool true) ∧ Below w.heap.size w w' :=
  tells_law a b c d x w ha hb hc hd hx (fun W hW => awake6_any W (hT.below hs hW) (Nat.lt_of_lt_of_le hs hW.size))

set_option maxRecDepth 100000 in
theorem intervalTells_lifted (os : Os) (started : os.Started) (H : Type) (enc : TypeId × Value → H) :
    ReturnsInHanded {} Tryd.checked os 4 .any (fun w args => (Rows.intervalTellsSpec.pre enc Tryd.prog Tryd.f4 [] false w args ∧ laidMetH Tryd.prog [("math/bits.deBruijn64tab", Rows.laid_math_bits_deBruijn64tab)] w) ∧ sizedMet enc Tryd.prog Tryd.f4 (OpenSpec.ofChange Rows.intervalTellsSpec) false w args)
      (Rows.intervalTellsSpec.post enc Tryd.prog Tryd.f4 false true false false) := by
  refine returnsInHanded_of_change_and (C := Tryd.checked) (X := fun w _ => laidMetH Tryd.prog [("math/bits.deBruijn64tab", Rows.laid_math_bits_deBruijn64tab)] w) (fun _ _ _ hh h => h.of_heap hh) own started (by kernel_rfl) Tryd.func4
    (ChangeSpec.witness_shaped (enc := enc) (C := Tryd.checked) (os := os) (X := fun w _ => laidMetH Tryd.prog [("math/bits.deBruijn64tab", Rows.laid_math_bits_deBruijn64tab)] w) false (World.doorLaid Tryd.prog 400 os) #[.agg #[.int .u64 0, .int .u64 0], .agg #[.int .u64 0, .int .u64 0], .int .u64 0] 8 rfl (World.shaped_of_RefB (by kernel_rfl) (by kernel_rfl)) (by kernel_rfl) (by kernel_rfl) (by kernel_rfl) (door_met os _)) ?_
  intro W base args ds gs before hval0 hW _ _ hL _
  have hval : ∀ (j : Nat) t v, Tryd.f4.params[j]? = some t → args[j]? = some v → Value.okWide Tryd.prog W .any base t v := hval0
  have hW' := hW
  obtain ⟨p, q, hA0, hV, rfl, hfz, hnd⟩ := hW
  have hA : DataW.TrodAll enc Tryd.prog W 0 (fun _ => true) true Tryd.f4.params.toList args.toList ds p := hA0
  rw [Tryd.params4] at hA hval
  obtain ⟨v0, vs0, d0, ds0, p0, q0, hargs, rfl, rfl, h0, r0⟩ := trodAll_cons hA
  obtain ⟨v1, vs1, d1, ds1, p1, q1, rfl, rfl, rfl, h1, r1⟩ := trodAll_cons r0
  obtain ⟨v2, vs2, d2, ds2, p2, q2, rfl, rfl, rfl, h2, r2⟩ := trodAll_cons r1
  obtain ⟨rfl, rfl, rfl⟩ := trodAll_nil r2
  obtain rfl : args = #[v0, v1, v2] := by cases args; simp_all
  obtain ⟨rfl, rfl⟩ := trodVars_none hV
  obtain ⟨c0a, c0b, y0a, y0b, m0, rfl, rfl, rfl, t0a, t0b⟩ := Joins.open_agg2 Tryd.underlying24 (by kernel_rfl) (show Tryd.prog.cellsOf 24 = 2 by kernel_rfl) (hval 0 24 v0 rfl rfl) h0
  obtain ⟨x0a, e0a, rfl, wx0a⟩ := DataW.trod_int Tryd.underlying22 t0a
  obtain ⟨x0b, e0b, rfl, wx0b⟩ := DataW.trod_int Tryd.underlying22 t0b
  simp only [List.cons.injEq, and_true] at e0a e0b
  subst e0a e0b
  obtain ⟨mn0a, rfl⟩ := Int.eq_ofNat_of_zero_le (bounds_u64 wx0a).1
  have lm0a : mn0a < 18446744073709551616 := by have := (bounds_u64 wx0a).2; omega
  obtain ⟨mn0b, rfl⟩ := Int.eq_ofNat_of_zero_le (bounds_u64 wx0b).1
  have lm0b : mn0b < 18446744073709551616 := by have := (bounds_u64 wx0b).2; omega
  obtain ⟨c1a, c1b, y1a, y1b, m1, rfl, rfl, rfl, t1a, t1b⟩ := Joins.open_agg2 Tryd.underlying24 (by kernel_rfl) (show Tryd.prog.cellsOf 24 = 2 by kernel_rfl) (hval 1 24 v1 rfl rfl) h1
  obtain ⟨x1a, e1a, rfl, wx1a⟩ := DataW.trod_int Tryd.underlying22 t1a
  obtain ⟨x1b, e1b, rfl, wx1b⟩ := DataW.trod_int Tryd.underlying22 t1b
  simp only [List.cons.injEq, and_true] at e1a e1b
  subst e1a e1b
  obtain ⟨mn1a, rfl⟩ := Int.eq_ofNat_of_zero_le (bounds_u64 wx1a).1
  have lm1a : mn1a < 18446744073709551616 := by have := (bounds_u64 wx1a).2; omega
  obtain ⟨mn1b, rfl⟩ := Int.eq_ofNat_of_zero_le (bounds_u64 wx1b).1
  have lm1b : mn1b < 18446744073709551616 := by have := (bounds_u64 wx1b).2; omega
  obtain ⟨a2, rfl, rfl, rfl, w2⟩ := open_int Tryd.underlying22 (hval 2 22 v2 rfl rfl) h2
  obtain ⟨n2, rfl⟩ := Int.eq_ofNat_of_zero_le (bounds_u64 w2).1
  have l2 : n2 < 18446744073709551616 := by have := (bounds_u64 w2).2; omega
  obtain ⟨hT, hs⟩ := tab_of_laid hL
  clear hA0 hval0
  simp only [List.append_nil] at hW'
  refine (tells_walk mn0a mn0b mn1a mn1b n2 W lm0a lm0b lm1a lm1b l2 hT hs).mono fun e W' ⟨he, bel⟩ => ?_
  subst he
  exact ⟨_, rfl, _, _, _, [], [], [], hW', trodAll_mk1 (shut_bool Tryd.underlying4 _), (trodAll_cons_mk (Joins.shut_agg2 (y0 := (.lit (.int .u64 (mn0a : Int)), [])) (y1 := (.lit (.int .u64 (mn0b : Int)), [])) Tryd.underlying24 (by kernel_rfl) (show Tryd.prog.cellsOf 24 = 2 by kernel_rfl) ⟨1, by simp [DataW.trod, Tryd.underlying22, wx0a]⟩ ⟨1, by simp [DataW.trod, Tryd.underlying22, wx0b]⟩) (trodAll_cons_mk (Joins.shut_agg2 (y0 := (.lit (.int .u64 (mn1a : Int)), [])) (y1 := (.lit (.int .u64 (mn1b : Int)), [])) Tryd.underlying24 (by kernel_rfl) (show Tryd.prog.cellsOf 24 = 2 by kernel_rfl) ⟨1, by simp [DataW.trod, Tryd.underlying22, wx1a]⟩ ⟨1, by simp [DataW.trod, Tryd.underlying22, wx1b]⟩) (trodAll_cons_mk (shut_int Tryd.underlying22 w2) trodAll_mk0))), rfl, bel.frame _, fun h => by cases h⟩

theorem intervalTells_row : Rows.IntervalTellsSaid :=
  OpenClaim.holds_of_wide 4 Tryd.f4 rfl rfl rfl rfl rfl rfl rfl ⟨rfl, rfl, rfl, rfl, rfl⟩ rfl rfl rfl rfl rfl (by kernel_rfl) Tryd.func4 (by kernel_rfl)
    (of_decide_eq_true (by kernel_rfl)) (by unfold Func.isWrapper; first | (rw [if_pos (by decide +kernel)]; kernel_rfl) | (rw [if_neg (by decide +kernel)]; exact ⟨rfl, rfl⟩))
    (fun os started H enc _ => intervalTells_lifted os started H enc)

theorem intervalTells_card : Rows.IntervalTellsCardSaid :=
  Claim7.holds_tied_plain_at .later [] [.data] true (true, "9f9c9f5d403bdb5b590e588bf265c5d37c9e7369b3ea46a29b7cc445cbd0e48a") false
    intervalTells_row (fun _ h => by cases h) (by kernel_rfl) (fun _ h => by cases h) intervalTells_row_tie rfl ⟨rfl, rfl⟩ (by kernel_rfl) rfl
    (fun f fn hf hfn => by
      obtain rfl : f = 4 := Option.some.inj ((show Tryd.prog.funcNamed "binnacle/binnaclelaw06.IntervalTells" = some 4 by kernel_rfl).symm.trans hf) |>.symm
      obtain rfl : fn = Tryd.f4 := (Option.some.inj (Tryd.func4.symm.trans hfn)).symm
      exact ⟨by kernel_rfl, fun j t ht => by
        rw [Tryd.params4] at ht
        have hm : t ∈ [24, 24, 22] := by simpa using Array.mem_of_getElem? ht
        have hall : ([24, 24, 22].all fun u => !Tryd.prog.wantsStandIn u) = true := by kernel_rfl
        exact (show Tryd.prog.wantsStandIn t = false by simpa using List.all_eq_true.1 hall t hm)⟩)
    (by kernel_rfl)
#print axioms intervalTells_card
end Go.Proofs.YtdahhpimhmloiaaDoor
