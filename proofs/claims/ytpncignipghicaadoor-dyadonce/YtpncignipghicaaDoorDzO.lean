
/- Proved: for all bits x, y of numbers the law DyadOnce answers true: where one of them is not finite the exact sum and product are refused with ErrNumber, and chapter 3's first examples hold; else the exact sum, rounded to the nearest, is the machine's +, the exact product its * (of a product that is not 0 the very bits), and a number's dyad by each of the five modes is that number. Its condition: the library's two tables of trailing zeros start as the program's text lays them, to which the card ties them. -/
import Derived.Test.YtpncignipghicaaDoorDzN
import Derived.Test.YtpncignipghicaaDoorSeat2
import Derived.Test.YtpncignipghicaaDoorTie
import Derived.Test.YtpncignipghicaaDoorCards
import Derived.SevenTiedAt
namespace Go.Proofs.YtpncignipghicaaDoor
open Go.ChangeShapes Go.WideShapes Go.ChangeAt Go.RowKit

theorem exp_is (x : Nat) (h : (!(expOf x == 2047)) = true) : x % 9223372036854775808 < 9218868437227405312 := by
  have h1 : expOf x ≠ 2047 := by simpa using h
  unfold expOf canonOf at h1
  split at h1 <;> omega
theorem once_law (x y : Nat) (w : World) (hx : x < 18446744073709551616) (hy : y < 18446744073709551616) (hT : Tab w) (hg : 2 < w.heap.size) (hT3 : Tab32 w) (hs : 1 < w.heap.size) :
    Calls Tryd.prog 5 #[.int .u64 x, .int .u64 y] w fun r w' => r = .returned (.bool true) ∧ Below w.heap.size w w' := by
  by_cases hb : (!(expOf x == 2047) && !(expOf y == 2047)) = false
  · exact once_bad x y w hx hy hb (fun W hW => awake3_any W (hT.below hg hW) (Nat.lt_of_lt_of_le hg hW.size) (hT3.below hs hW) (Nat.lt_of_lt_of_le hs hW.size))
  · have hb : (!(expOf x == 2047) && !(expOf y == 2047)) = true := by
      cases h : (!(expOf x == 2047) && !(expOf y == 2047))
      · exact absurd h hb
      · rfl
    rw [Bool.and_eq_true] at hb
    exact once_good x y w hx hy (exp_is x hb.1) (exp_is y hb.2) hT hg hT3 hs

set_option maxRecDepth 100000 in
theorem dyadOnce_lifted (os : Os) (started : os.Started) (H : Type) (enc : TypeId × Value → H) :
    ReturnsInHanded {} Tryd.checked os 5 .any (fun w args => (Rows.dyadOnceSpec.pre enc Tryd.prog Tryd.f5 [] false w args ∧ laidMetH Tryd.prog [("math/bits.deBruijn32tab", Rows.laid_math_bits_deBruijn32tab), ("math/bits.deBruijn64tab", Rows.laid_math_bits_deBruijn64tab)] w) ∧ sizedMet enc Tryd.prog Tryd.f5 (OpenSpec.ofChange Rows.dyadOnceSpec) false w args)
      (Rows.dyadOnceSpec.post enc Tryd.prog Tryd.f5 false true false false) := by
  refine returnsInHanded_of_change_and (C := Tryd.checked) (X := fun w _ => laidMetH Tryd.prog [("math/bits.deBruijn32tab", Rows.laid_math_bits_deBruijn32tab), ("math/bits.deBruijn64tab", Rows.laid_math_bits_deBruijn64tab)] w) (fun _ _ _ hh h => h.of_heap hh) own started (by kernel_rfl) Tryd.func5
    (ChangeSpec.witness_shaped (enc := enc) (C := Tryd.checked) (os := os) (X := fun w _ => laidMetH Tryd.prog [("math/bits.deBruijn32tab", Rows.laid_math_bits_deBruijn32tab), ("math/bits.deBruijn64tab", Rows.laid_math_bits_deBruijn64tab)] w) false (World.doorLaid Tryd.prog 400 os) #[.int .u64 0, .int .u64 0] 8 rfl (World.shaped_of_RefB (by kernel_rfl) (by kernel_rfl)) (by kernel_rfl) (by kernel_rfl) (by kernel_rfl) (door_met2 os _)) ?_
  intro W base args ds gs before hval0 hW _ _ hL _
  have hval : ∀ (j : Nat) t v, Tryd.f5.params[j]? = some t → args[j]? = some v → Value.okWide Tryd.prog W .any base t v := hval0
  have hW' := hW
  obtain ⟨p, q, hA0, hV, rfl, hfz, hnd⟩ := hW
  have hA : DataW.TrodAll enc Tryd.prog W 0 (fun _ => true) true Tryd.f5.params.toList args.toList ds p := hA0
  rw [Tryd.params5] at hA hval
  obtain ⟨v0, vs0, d0, ds0, p0, q0, hargs, rfl, rfl, h0, r0⟩ := trodAll_cons hA
  obtain ⟨v1, vs1, d1, ds1, p1, q1, rfl, rfl, rfl, h1, r1⟩ := trodAll_cons r0
  obtain ⟨rfl, rfl, rfl⟩ := trodAll_nil r1
  obtain rfl : args = #[v0, v1] := by cases args; simp_all
  obtain ⟨rfl, rfl⟩ := trodVars_none hV
  obtain ⟨a0, rfl, rfl, rfl, w0⟩ := open_int Tryd.underlying22 (hval 0 22 v0 rfl rfl) h0
  obtain ⟨n0, rfl⟩ := Int.eq_ofNat_of_zero_le (bounds_u64 w0).1
  have l0 : n0 < 18446744073709551616 := by have := (bounds_u64 w0).2; omega
  obtain ⟨a1, rfl, rfl, rfl, w1⟩ := open_int Tryd.underlying22 (hval 1 22 v1 rfl rfl) h1
  obtain ⟨n1, rfl⟩ := Int.eq_ofNat_of_zero_le (bounds_u64 w1).1
  have l1 : n1 < 18446744073709551616 := by have := (bounds_u64 w1).2; omega
  obtain ⟨⟨hT, hs⟩, hT3, hs3⟩ := tab_of_laid2 hL
  clear hA0 hval0
  simp only [List.append_nil] at hW'
  refine (once_law n0 n1 W l0 l1 hT hs hT3 hs3).mono fun e W' ⟨he, bel⟩ => ?_
  subst he
  exact ⟨_, rfl, _, _, _, [], [], [], hW', trodAll_mk1 (shut_bool Tryd.underlying4 _), (trodAll_cons_mk (shut_int Tryd.underlying22 w0) (trodAll_cons_mk (shut_int Tryd.underlying22 w1) trodAll_mk0)), rfl, bel.frame _, fun h => by cases h⟩

theorem dyadOnce_row : Rows.DyadOnceSaid :=
  OpenClaim.holds_of_wide 5 Tryd.f5 rfl rfl rfl rfl rfl rfl rfl ⟨rfl, rfl, rfl, rfl, rfl⟩ rfl rfl rfl rfl rfl (by kernel_rfl) Tryd.func5 (by kernel_rfl)
    (of_decide_eq_true (by kernel_rfl)) (by unfold Func.isWrapper; first | (rw [if_pos (by decide +kernel)]; kernel_rfl) | (rw [if_neg (by decide +kernel)]; exact ⟨rfl, rfl⟩))
    (fun os started H enc _ => dyadOnce_lifted os started H enc)

theorem dyadOnce_card : Rows.DyadOnceCardSaid :=
  Claim7.holds_tied_plain_at .later [] [.data, .data] true (true, "03c1add7f3c1617474199218daecfc8a03c7e5e6027b4883f638aaabe21e3c22") false
    dyadOnce_row (fun _ h => by cases h) (by kernel_rfl) (fun _ h => by cases h) dyadOnce_row_tie rfl ⟨rfl, rfl⟩ (by kernel_rfl) rfl
    (fun f fn hf hfn => by
      obtain rfl : f = 5 := Option.some.inj ((show Tryd.prog.funcNamed "binnacle/binnaclelaw03.DyadOnce" = some 5 by kernel_rfl).symm.trans hf) |>.symm
      obtain rfl : fn = Tryd.f5 := (Option.some.inj (Tryd.func5.symm.trans hfn)).symm
      exact ⟨by kernel_rfl, fun j t ht => by
        rw [Tryd.params5] at ht
        have hm : t ∈ [22, 22] := by simpa using Array.mem_of_getElem? ht
        have hall : ([22, 22].all fun u => !Tryd.prog.wantsStandIn u) = true := by kernel_rfl
        exact (show Tryd.prog.wantsStandIn t = false by simpa using List.all_eq_true.1 hall t hm)⟩)
    (by kernel_rfl)
#print axioms dyadOnce_card
end Go.Proofs.YtpncignipghicaaDoor
