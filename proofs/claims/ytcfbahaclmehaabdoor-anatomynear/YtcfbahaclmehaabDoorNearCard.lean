/- Proved: for all bits x and y the law AnatomyNear answers true: between a number and its Next there is none but the other zero, Prev undoes Next, and the step between them is Ulp of the lesser magnitude. Its condition: the library's table of trailing zeros starts as the program's text lays it, to which the card ties it. -/
import Derived.Test.YtcfbahaclmehaabDoorNearLaw
import Derived.Test.YtcfbahaclmehaabDoorSeat
import Derived.Test.YtcfbahaclmehaabDoorTie
import Derived.Test.YtcfbahaclmehaabDoorCards
import Derived.SevenTiedAt
namespace Go.Proofs.YtcfbahaclmehaabDoor
open Go.ChangeShapes Go.WideShapes Go.ChangeAt Go.RowKit

theorem step_le (r : Nat) (h : r % 9223372036854775808 < 9218868437227405312) : stepOf r ≤ 2045 := by unfold stepOf; omega
theorem abs_neg (a b P : Nat) (h : b = a + P) : (-(a : Int) - -(b : Int)).natAbs = P := by omega
theorem abs_pos (a b P : Nat) (h : b = a + P) : ((b : Int) - (a : Int)).natAbs = P := by omega
theorem step_eq (r : Nat) (h : r < 9223372036854775808) : stepOf r = max (r / 4503599627370496) 1 - 1 := by
  unfold stepOf
  rw [Nat.mod_eq_of_lt h]
theorem near_law (x y : Nat) (w : World) (hx : x < 18446744073709551616) (hy : y < 18446744073709551616) (hT : Tab w) (hs : 1 < w.heap.size) :
    Calls Tryd.prog 3 #[.int .u64 x, .int .u64 y] w fun r w' => r = .returned (.bool true) ∧ Below w.heap.size w w' := by
  by_cases hn : 9218868437227405312 < x % 9223372036854775808
  · exact near_nan x y w hx hT hs hn
  by_cases hi : x = 9218868437227405312
  · exact near_inf x y w hT hs hi
  have nx : x % 9223372036854775808 ≤ 9218868437227405312 := by omega
  have ho := order_self x hx
  rw [decide_eq_false hn] at ho
  have hi' := inf_test x hx nx
  rw [decide_eq_false hi] at hi'
  have hz := order_zero x hx
  by_cases h0 : x % 9223372036854775808 = 0
  · rw [decide_eq_true h0] at hz
    have hN : nextOf x = 1 := by
      rcases (show x = 0 ∨ x = 9223372036854775808 by omega) with h | h
      · rw [h]; decide
      · rw [h]; exact next_nzero
    have hsv : sv x = 0 := by unfold sv; rw [h0, nv_zero]; split <;> rfl
    refine near_core x y 1 0 w hx (by omega) hT hs hN prev_one ho hi' ?_ ?_ ?_ (Or.inl hz) (Or.inr (Or.inr (Or.inl hz)))
    · rw [order_gt 1 x (by omega) hx (by omega) nx, hsv]; decide
    · rw [← hN]; exact none_between x y hx hy nx hi
    · rw [order_eq' 0 x (by omega) hx (by omega) nx, hsv, sv_zero]; decide
  · rw [decide_eq_false h0] at hz
    by_cases hsg : 9223372036854775808 ≤ x
    · have hN := next_neg x (by omega) (by omega)
      have hB := prev_neg x (by omega) (by omega)
      have hst := nv_step (x - 1 - 9223372036854775808)
      have e1 : x - 1 - 9223372036854775808 + 1 = x - 9223372036854775808 := by omega
      rw [e1] at hst
      have s1 := sv_neg x hsg hx
      have s2 := sv_neg (x - 1) (by omega) (by omega)
      have hp := Nat.two_pow_pos (max ((x - 1 - 9223372036854775808) / 4503599627370496) 1 - 1)
      refine near_core x y (x - 1) x w hx (by omega) hT hs hN hB ho hi' ?_ ?_ (order_refl x hx nx) (Or.inr ⟨hz, ?_⟩) ?_
      · rw [order_gt (x - 1) x (by omega) hx (by omega) nx, s1, s2]; exact decide_eq_true (by omega)
      · rw [← hN]; exact none_between x y hx hy nx hi
      · rw [beq_iff_eq]; unfold canonOf; rw [if_neg hn]
      · by_cases hm : x = 18442240474082181120
        · refine Or.inr (Or.inl ?_)
          rw [xor_flip x hx, inf_test _ (flip_lt hx) (by unfold flipOf; rw [if_pos hsg]; omega)]
          refine decide_eq_true ?_
          unfold flipOf; rw [if_pos hsg]; omega
        · refine Or.inr (Or.inr (Or.inr ⟨x - 1 - 9223372036854775808, stepOf (x - 1 - 9223372036854775808), powN (stepOf (x - 1 - 9223372036854775808)), ?_, ?_, by omega, (step_exp _ (by omega)).2, (step_exp _ (by omega)).1, rfl, ?_⟩))
          · have hk : stepOf (x - 1 - 9223372036854775808) ≤ 2045 := step_le _ (by omega)
            intro t w
            refine run_float_arith w .sub t .f64 _ _ _ ?_
            refine sub_exact (x - 1) x _ (by omega) hx (by omega) (by omega) (pow_lt_inf _ hk) (by omega) ?_
            rw [nv_pow, s1, s2, step_eq _ (by omega)]
            exact abs_neg _ _ _ hst
          · intro w
            have e2 : x % 9223372036854775808 = x - 9223372036854775808 := by omega
            have e3 : (x - 1) % 9223372036854775808 = x - 1 - 9223372036854775808 := by omega
            rw [e2, e3]
            exact min_hi _ _ w (by omega) (by omega)
          · have hk : stepOf (x - 1 - 9223372036854775808) ≤ 2045 := step_le _ (by omega)
            have := pow_lt_inf _ hk
            exact order_refl _ (by omega) (by omega)
    · have hN := next_pos x (by omega)
      have hB := prev_pos x (by omega) (by omega)
      have hst := nv_step x
      have s1 := sv_pos x (by omega)
      have s2 := sv_pos (x + 1) (by omega)
      have hp := Nat.two_pow_pos (max (x / 4503599627370496) 1 - 1)
      refine near_core x y (x + 1) x w hx (by omega) hT hs hN hB ho hi' ?_ ?_ (order_refl x hx nx) (Or.inr ⟨hz, ?_⟩) ?_
      · rw [order_gt (x + 1) x (by omega) hx (by omega) nx, s1, s2]; exact decide_eq_true (by omega)
      · rw [← hN]; exact none_between x y hx hy nx hi
      · rw [beq_iff_eq]; unfold canonOf; rw [if_neg hn]
      · by_cases hm : x + 1 = 9218868437227405312
        · refine Or.inl ?_
          rw [inf_test _ (by omega) (by omega)]
          exact decide_eq_true hm
        · refine Or.inr (Or.inr (Or.inr ⟨x, stepOf x, powN (stepOf x), ?_, ?_, by omega, (step_exp _ (by omega)).2, (step_exp _ (by omega)).1, rfl, ?_⟩))
          · have hk : stepOf x ≤ 2045 := step_le _ (by omega)
            intro t w
            refine run_float_arith w .sub t .f64 _ _ _ ?_
            refine sub_exact (x + 1) x _ (by omega) hx (by omega) (by omega) (pow_lt_inf _ hk) (by omega) ?_
            rw [nv_pow, s1, s2, step_eq _ (by omega)]
            exact abs_pos _ _ _ hst
          · intro w
            have e2 : x % 9223372036854775808 = x := by omega
            have e3 : (x + 1) % 9223372036854775808 = x + 1 := by omega
            rw [e2, e3]
            exact min_lo _ _ w (by omega) (by omega)
          · have hk : stepOf x ≤ 2045 := step_le _ (by omega)
            have := pow_lt_inf _ hk
            exact order_refl _ (by omega) (by omega)

set_option maxRecDepth 100000 in
theorem anatomyNear_lifted (os : Os) (started : os.Started) (H : Type) (enc : TypeId × Value → H) :
    ReturnsInHanded {} Tryd.checked os 3 .any (fun w args => (Rows.anatomyNearSpec.pre enc Tryd.prog Tryd.f3 [] false w args ∧ laidMetH Tryd.prog [("math/bits.deBruijn64tab", Rows.laid_math_bits_deBruijn64tab)] w) ∧ sizedMet enc Tryd.prog Tryd.f3 (OpenSpec.ofChange Rows.anatomyNearSpec) false w args)
      (Rows.anatomyNearSpec.post enc Tryd.prog Tryd.f3 false true false false) := by
  refine returnsInHanded_of_change_and (C := Tryd.checked) (X := fun w _ => laidMetH Tryd.prog [("math/bits.deBruijn64tab", Rows.laid_math_bits_deBruijn64tab)] w) (fun _ _ _ hh h => h.of_heap hh) own started (by kernel_rfl) Tryd.func3
    (ChangeSpec.witness_shaped (enc := enc) (C := Tryd.checked) (os := os) (X := fun w _ => laidMetH Tryd.prog [("math/bits.deBruijn64tab", Rows.laid_math_bits_deBruijn64tab)] w) false (World.doorLaid Tryd.prog 400 os) #[.int .u64 0, .int .u64 0] 8 rfl (World.shaped_of_RefB (by kernel_rfl) (by kernel_rfl)) (by kernel_rfl) (by kernel_rfl) (by kernel_rfl) (door_met os _)) ?_
  intro W base args ds gs before hval0 hW _ _ hL _
  have hval : ∀ (j : Nat) t v, Tryd.f3.params[j]? = some t → args[j]? = some v → Value.okWide Tryd.prog W .any base t v := hval0
  have hW' := hW
  obtain ⟨p, q, hA0, hV, rfl, hfz, hnd⟩ := hW
  have hA : DataW.TrodAll enc Tryd.prog W 0 (fun _ => true) true Tryd.f3.params.toList args.toList ds p := hA0
  rw [Tryd.params3] at hA hval
  obtain ⟨v0, vs0, d0, ds0, p0, q0, hargs, rfl, rfl, h0, r0⟩ := trodAll_cons hA
  obtain ⟨v1, vs1, d1, ds1, p1, q1, rfl, rfl, rfl, h1, r1⟩ := trodAll_cons r0
  obtain ⟨rfl, rfl, rfl⟩ := trodAll_nil r1
  obtain rfl : args = #[v0, v1] := by cases args; simp_all
  obtain ⟨rfl, rfl⟩ := trodVars_none hV
  obtain ⟨a0, rfl, rfl, rfl, w0⟩ := open_int Tryd.underlying22 (hval 0 22 v0 rfl rfl) h0
  obtain ⟨n0, rfl⟩ := Int.eq_ofNat_of_zero_le (bounds_u64 w0).1
  have l0 : n0 < 18446744073709551616 := by have := (bounds_u64 w0).2; omega
  obtain ⟨a1, rfl, rfl, rfl, w1⟩ := open_int Tryd.underlying22 (hval 1 22 v1 rfl rfl) h1
  obtain ⟨n1, rfl⟩ := Int.eq_ofNat_of_zero_le (bounds_u64 w1).1
  have l1 : n1 < 18446744073709551616 := by have := (bounds_u64 w1).2; omega
  obtain ⟨hT, hs⟩ := tab_of_laid hL
  clear hA0 hval0
  simp only [List.append_nil] at hW'
  refine (near_law n0 n1 W l0 l1 hT hs).mono fun e W' ⟨he, bel⟩ => ?_
  subst he
  exact ⟨_, rfl, _, _, _, [], [], [], hW', trodAll_mk1 (shut_bool Tryd.underlying4 _), (trodAll_cons_mk (shut_int Tryd.underlying22 w0) (trodAll_cons_mk (shut_int Tryd.underlying22 w1) trodAll_mk0)), rfl, bel.frame _, fun h => by cases h⟩

theorem anatomyNear_row : Rows.AnatomyNearSaid :=
  OpenClaim.holds_of_wide 3 Tryd.f3 rfl rfl rfl rfl rfl rfl rfl ⟨rfl, rfl, rfl, rfl, rfl⟩ rfl rfl rfl rfl rfl (by kernel_rfl) Tryd.func3 (by kernel_rfl)
    (of_decide_eq_true (by kernel_rfl)) (by unfold Func.isWrapper; first | (rw [if_pos (by decide +kernel)]; kernel_rfl) | (rw [if_neg (by decide +kernel)]; exact ⟨rfl, rfl⟩))
    (fun os started H enc _ => anatomyNear_lifted os started H enc)

theorem anatomyNear_card : Rows.AnatomyNearCardSaid :=
  Claim7.holds_tied_plain_at .later [] [.data] true (true, "feb1fefd8719da80745dbf3a69ac49ea5c8d9302789d116f30fe1b8c89e9e7c4") false
    anatomyNear_row (fun _ h => by cases h) (by kernel_rfl) (fun _ h => by cases h) anatomyNear_row_tie rfl ⟨rfl, rfl⟩ (by kernel_rfl) rfl
    (fun f fn hf hfn => by
      obtain rfl : f = 3 := Option.some.inj ((show Tryd.prog.funcNamed "binnacle/binnaclelaw01.AnatomyNear" = some 3 by kernel_rfl).symm.trans hf) |>.symm
      obtain rfl : fn = Tryd.f3 := (Option.some.inj (Tryd.func3.symm.trans hfn)).symm
      exact ⟨by kernel_rfl, fun j t ht => by
        rw [Tryd.params3] at ht
        have hm : t ∈ [22, 22] := by simpa using Array.mem_of_getElem? ht
        have hall : ([22, 22].all fun u => !Tryd.prog.wantsStandIn u) = true := by kernel_rfl
        exact (show Tryd.prog.wantsStandIn t = false by simpa using List.all_eq_true.1 hall t hm)⟩)
    (by kernel_rfl)
#print axioms anatomyNear_card
end Go.Proofs.YtcfbahaclmehaabDoor
