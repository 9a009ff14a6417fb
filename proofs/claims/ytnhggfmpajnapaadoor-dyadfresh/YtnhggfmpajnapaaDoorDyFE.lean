
/- Proved: for all bits x, y of numbers the law DyadFresh answers true: where one of them is not finite it asks chapter 3's first examples alone, which hold; else the sum with 0, the other sign and the sum of two dyads are made without an error, in memory of their own: whatever is written into the first two, the number that was handed in and the third stay as they were. Its condition: the library's two tables of trailing zeros start as the program's text lays them, to which the card ties them. -/
import Derived.Test.YtnhggfmpajnapaaDoorDyFF
import Derived.Test.YtnhggfmpajnapaaDoorSeat2
import Derived.Test.YtnhggfmpajnapaaDoorTie
import Derived.Test.YtnhggfmpajnapaaDoorCards
import Derived.SevenTiedAt
namespace Go.Proofs.YtnhggfmpajnapaaDoor
open Go.ChangeShapes Go.WideShapes Go.ChangeAt Go.RowKit

theorem pErr_is (x : Nat) : (pErr x = 4 ∧ expOf x = 2047) ∨ (pErr x = 0 ∧ x % 9223372036854775808 < 9218868437227405312) := by
  unfold pErr
  by_cases h : expOf x = 2047
  · rw [if_pos h]; exact Or.inl ⟨rfl, h⟩
  · rw [if_neg h]
    refine Or.inr ⟨rfl, ?_⟩
    have := h
    unfold expOf canonOf at this
    split at this <;> omega
/-- dyad's Of of any number: some dyad, and its error. -/
theorem Of_some (x : Nat) (w : World) (hx : x < 18446744073709551616) (hT : Tab w) (hg : 2 < w.heap.size) (hT3 : Tab32 w) (hs : 1 < w.heap.size) :
    Calls Tryd.prog 9 #[.float .f64 x] w fun r w' => (∃ n a l c e, r = .returned (.tuple #[.agg #[.bool n, .slice a l c, .int .i64 e], .int .i64 (pErr x)])) ∧ Below w.heap.size w w' := by
  rcases pErr_is x with ⟨he, _⟩ | ⟨he, hf⟩
  · refine (Of_not x w hx he hT hg).mono ?_
    rintro r w' ⟨rfl, hb⟩
    rw [he]
    exact ⟨⟨_, _, _, _, _, rfl⟩, hb⟩
  · refine (Of_fin x w hx hf hT hg hT3 hs).mono ?_
    rintro r w' ⟨ho, hb⟩
    obtain ⟨n, a, l, c, e, rfl, _⟩ := ho.ret
    rw [he]
    exact ⟨⟨_, _, _, _, _, rfl⟩, hb⟩
set_option maxRecDepth 4000 in
set_option maxHeartbeats 4000000 in
theorem fresh_bad (x y : Nat) (E1 E2 : Int) (w : World) (h1 : E1 = 0 ∨ E1 = 4) (h2 : E2 = 0 ∨ E2 = 4) (hbad : ¬ (E1 = 0 ∧ E2 = 0))
    (HO1 : ∀ W, Below w.heap.size w W → Calls Tryd.prog 9 #[.float .f64 x] W fun r w' => (∃ n a l c e, r = .returned (.tuple #[.agg #[.bool n, .slice a l c, .int .i64 e], .int .i64 E1])) ∧ Below W.heap.size W w')
    (HO2 : ∀ W, Below w.heap.size w W → Calls Tryd.prog 9 #[.float .f64 y] W fun r w' => (∃ n a l c e, r = .returned (.tuple #[.agg #[.bool n, .slice a l c, .int .i64 e], .int .i64 E2])) ∧ Below W.heap.size W w')
    (HAW : ∀ W, Below w.heap.size w W → Calls Tryd.prog 11 #[] W fun r w' => r = .returned (.bool true) ∧ Below W.heap.size W w') :
    Calls Tryd.prog 4 #[.int .u64 x, .int .u64 y] w fun r w' => r = .returned (.bool true) ∧ Below w.heap.size w w' := by
  have h64 := f64from
  have H1 := hid HO1
  have H2 := hid HO2
  have HA := hid HAW
  clear HO1 HO2 HAW
  rcases h1 with rfl | rfl <;> rcases h2 with rfl | rfl
  · exact absurd ⟨rfl, rfl⟩ hbad
  all_goals
    clear hbad
    go_enter Tryd.func4, Tryd.ntmps4
    go_wp2_with fail
    refine (H1.out _ (Below.refl _ _)).mono ?_
    rintro r w1 ⟨⟨n1, a1, l1, c1, e1, rfl⟩, hb1⟩
    have HB1 : Hid (Below w.heap.size w (w1.alloc (DyBox n1 a1 l1 c1 e1))) := hb1.alloc hb1.size _
    unfold DyBox at HB1
    clear hb1
    go_wp2_with fail
    refine (H2.out _ HB1.out).mono ?_
    rintro r w2 ⟨⟨n2, a2, l2, c2, e2, rfl⟩, hb2⟩
    have HB2' : Hid (Below w.heap.size w w2) := HB1.out.trans (hb2.mono HB1.out.size)
    have HB2 : Hid (Below w.heap.size w (w2.alloc (DyBox n2 a2 l2 c2 e2))) := HB2'.out.alloc HB2'.out.size _
    unfold DyBox at HB2
    clear hb2 HB2'
    go_wp2_with fail
    refine (HA.out _ HB2.out).mono ?_
    rintro r w4 ⟨rfl, hb4⟩
    have HB4 : Hid (Below w.heap.size w w4) := HB2.out.trans (hb4.mono HB2.out.size)
    clear hb4
    go_wp2
    go_ret
    exact ⟨rfl, HB4.out⟩
theorem fresh_law (x y : Nat) (w : World) (hx : x < 18446744073709551616) (hy : y < 18446744073709551616) (hT : Tab w) (hg : 2 < w.heap.size) (hT3 : Tab32 w) (hs : 1 < w.heap.size) :
    Calls Tryd.prog 4 #[.int .u64 x, .int .u64 y] w fun r w' => r = .returned (.bool true) ∧ Below w.heap.size w w' := by
  have tabs : ∀ W, Below w.heap.size w W → Tab W ∧ 2 < W.heap.size ∧ Tab32 W ∧ 1 < W.heap.size := fun W hW => ⟨hT.below hg hW, Nat.lt_of_lt_of_le hg hW.size, hT3.below hs hW, Nat.lt_of_lt_of_le hs hW.size⟩
  by_cases hb : pErr x = 0 ∧ pErr y = 0
  · have fin : ∀ t, pErr t = 0 → t % 9223372036854775808 < 9218868437227405312 := fun t ht => by
      rcases pErr_is t with ⟨h, _⟩ | ⟨_, h⟩
      · rw [ht] at h; exact absurd h (by decide)
      · exact h
    exact fresh_good x y w hx hy (fin x hb.1) (fin y hb.2) hT hg hT3 hs
  · have ei : ∀ t, pErr t = 0 ∨ pErr t = 4 := fun t => by
      rcases pErr_is t with ⟨h, _⟩ | ⟨h, _⟩
      · exact Or.inr h
      · exact Or.inl h
    exact fresh_bad x y _ _ w (ei x) (ei y) hb
      (fun W hW => Of_some x W hx (tabs W hW).1 (tabs W hW).2.1 (tabs W hW).2.2.1 (tabs W hW).2.2.2)
      (fun W hW => Of_some y W hy (tabs W hW).1 (tabs W hW).2.1 (tabs W hW).2.2.1 (tabs W hW).2.2.2)
      (fun W hW => awake3_any W (tabs W hW).1 (tabs W hW).2.1 (tabs W hW).2.2.1 (tabs W hW).2.2.2)

set_option maxRecDepth 100000 in
theorem dyadFresh_lifted (os : Os) (started : os.Started) (H : Type) (enc : TypeId × Value → H) :
    ReturnsInHanded {} Tryd.checked os 4 .any (fun w args => (Rows.dyadFreshSpec.pre enc Tryd.prog Tryd.f4 [] false w args ∧ laidMetH Tryd.prog [("math/bits.deBruijn32tab", Rows.laid_math_bits_deBruijn32tab), ("math/bits.deBruijn64tab", Rows.laid_math_bits_deBruijn64tab)] w) ∧ sizedMet enc Tryd.prog Tryd.f4 (OpenSpec.ofChange Rows.dyadFreshSpec) false w args)
      (Rows.dyadFreshSpec.post enc Tryd.prog Tryd.f4 false true false false) := by
  refine returnsInHanded_of_change_and (C := Tryd.checked) (X := fun w _ => laidMetH Tryd.prog [("math/bits.deBruijn32tab", Rows.laid_math_bits_deBruijn32tab), ("math/bits.deBruijn64tab", Rows.laid_math_bits_deBruijn64tab)] w) (fun _ _ _ hh h => h.of_heap hh) own started (by kernel_rfl) Tryd.func4
    (ChangeSpec.witness_shaped (enc := enc) (C := Tryd.checked) (os := os) (X := fun w _ => laidMetH Tryd.prog [("math/bits.deBruijn32tab", Rows.laid_math_bits_deBruijn32tab), ("math/bits.deBruijn64tab", Rows.laid_math_bits_deBruijn64tab)] w) false (World.doorLaid Tryd.prog 400 os) #[.int .u64 0, .int .u64 0] 8 rfl (World.shaped_of_RefB (by kernel_rfl) (by kernel_rfl)) (by kernel_rfl) (by kernel_rfl) (by kernel_rfl) (door_met2 os _)) ?_
  intro W base args ds gs before hval0 hW _ _ hL _
  have hval : ∀ (j : Nat) t v, Tryd.f4.params[j]? = some t → args[j]? = some v → Value.okWide Tryd.prog W .any base t v := hval0
  have hW' := hW
  obtain ⟨p, q, hA0, hV, rfl, hfz, hnd⟩ := hW
  have hA : DataW.TrodAll enc Tryd.prog W 0 (fun _ => true) true Tryd.f4.params.toList args.toList ds p := hA0
  rw [Tryd.params4] at hA hval
  obtain ⟨v0, vs0, d0, ds0, p0, q0, hargs, rfl, rfl, h0, r0⟩ := trodAll_cons hA
  obtain ⟨v1, vs1, d1, ds1, p1, q1, rfl, rfl, rfl, h1, r1⟩ := trodAll_cons r0
  obtain ⟨rfl, rfl, rfl⟩ := trodAll_nil r1
  obtain rfl : args = #[v0, v1] := by cases args; simp_all
  obtain ⟨rfl, rfl⟩ := trodVars_none hV
  obtain ⟨a0, rfl, rfl, rfl, w0⟩ := open_int Tryd.underlying22 (hval 0 22 v0 rfl rfl) h0
  obtain ⟨n0, rfl⟩ := Int.eq_ofNat_of_zero_le (bounds_u64 w0).1
  have l0 : n0 < 18446744073709551616 := by have := (bounds_u64 w0).2; omega
  obtain ⟨a1, rfl, rfl, rfl, w1⟩ := open_int Tryd.underlying22 (hval 1 22 v1 rfl rfl) h1
  obtain ⟨n1, rfl⟩ := Int.eq_ofNat_of_zero_le (bounds_u64 w1).1
  have l1 : n1 < 18446744073709551616 := by have := (bounds_u64 w1).2; omega
  obtain ⟨⟨hT, hs⟩, hT3, hs3⟩ := tab_of_laid2 hL
  clear hA0 hval0
  simp only [List.append_nil] at hW'
  refine (fresh_law n0 n1 W l0 l1 hT hs hT3 hs3).mono fun e W' ⟨he, bel⟩ => ?_
  subst he
  exact ⟨_, rfl, _, _, _, [], [], [], hW', trodAll_mk1 (shut_bool Tryd.underlying4 _), (trodAll_cons_mk (shut_int Tryd.underlying22 w0) (trodAll_cons_mk (shut_int Tryd.underlying22 w1) trodAll_mk0)), rfl, bel.frame _, fun h => by cases h⟩

theorem dyadFresh_row : Rows.DyadFreshSaid :=
  OpenClaim.holds_of_wide 4 Tryd.f4 rfl rfl rfl rfl rfl rfl rfl ⟨rfl, rfl, rfl, rfl, rfl⟩ rfl rfl rfl rfl rfl (by kernel_rfl) Tryd.func4 (by kernel_rfl)
    (of_decide_eq_true (by kernel_rfl)) (by unfold Func.isWrapper; first | (rw [if_pos (by decide +kernel)]; kernel_rfl) | (rw [if_neg (by decide +kernel)]; exact ⟨rfl, rfl⟩))
    (fun os started H enc _ => dyadFresh_lifted os started H enc)

theorem dyadFresh_card : Rows.DyadFreshCardSaid :=
  Claim7.holds_tied_plain_at .later [] [.data, .data] true (true, "03c1add7f3c1617474199218daecfc8a03c7e5e6027b4883f638aaabe21e3c22") false
    dyadFresh_row (fun _ h => by cases h) (by kernel_rfl) (fun _ h => by cases h) dyadFresh_row_tie rfl ⟨rfl, rfl⟩ (by kernel_rfl) rfl
    (fun f fn hf hfn => by
      obtain rfl : f = 4 := Option.some.inj ((show Tryd.prog.funcNamed "binnacle/binnaclelaw03.DyadFresh" = some 4 by kernel_rfl).symm.trans hf) |>.symm
      obtain rfl : fn = Tryd.f4 := (Option.some.inj (Tryd.func4.symm.trans hfn)).symm
      exact ⟨by kernel_rfl, fun j t ht => by
        rw [Tryd.params4] at ht
        have hm : t ∈ [22, 22] := by simpa using Array.mem_of_getElem? ht
        have hall : ([22, 22].all fun u => !Tryd.prog.wantsStandIn u) = true := by kernel_rfl
        exact (show Tryd.prog.wantsStandIn t = false by simpa using List.all_eq_true.1 hall t hm)⟩)
    (by kernel_rfl)
#print axioms dyadFresh_card
end Go.Proofs.YtnhggfmpajnapaaDoor
