
/- What the document's Parts does: what anatomy's does. -/
import Derived.Test.YtehnkgonhgjeiaaGreatDoorP20
import Derived.Test.YtehnkgonhgjeiaaGreatDoorP25
import Derived.Test.YtehnkgonhgjeiaaGreatDoorP15
namespace Go.Proofs.YtehnkgonhgjeiaaGreatDoor
open Go.RowKit Go.IntWalk

set_option maxRecDepth 4000 in
set_option maxHeartbeats 1000000 in
/-- From the fields to the parts, by odd's answer. -/
theorem rParts_core (x : Nat) (neg : Bool) (E F G e' m k : Int) (w : World) (hS : ∀ W, Calls Tryz.prog 152 #[.float .f64 x] W fun e w' => e = .returned (.tuple #[.bool neg, .int .i64 E, .int .u64 F]) ∧ w' = W) (hE0 : 0 ≤ E) (hE : E ≤ 2046) (hF0 : 0 ≤ F) (hF : F ≤ 4503599627370495) (hG : G = if 0 < E then F + 4503599627370496 else F) (he : e' = (if 0 < E then E - 1 else E) - 1074)
    (hO : ∀ W, Calls Tryz.prog 154 #[.int .u64 G, .int .i64 e'] W fun r w' => r = .returned (.tuple #[.int .u64 m, .int .i64 k]) ∧ w' = W) :
    Calls Tryz.prog 116 #[.float .f64 x] w fun r w' => r = .returned (.tuple #[.agg #[.bool neg, .int .u64 m, .int .i64 k], .int .i64 0]) ∧ Below w.heap.size w w' := by
  have HS := hid hS
  have HO := hid hO
  clear hS hO
  have hEn : ¬ E = 2047 := by omega
  by_cases h0 : 0 < E
  · rw [if_pos h0] at hG he
    have hw1 : IntKind.u64.wrap (F + 4503599627370496) = G := by rw [IntKind.wrap_u64]; omega
    have hw2 : F + 4503599627370496 = G := by omega
    have hw2' : IntKind.u64.wrap G = G := by rw [IntKind.wrap_u64]; omega
    have hw3 : IntKind.i64.wrap (E - 1) = E - 1 := by rw [IntWalk.i64_in _ (by omega)]
    have hw4 : IntKind.i64.wrap (E - 1 - 1074) = e' := by rw [IntWalk.i64_in _ (by omega)]; omega
    have hw5 : E - 1 - 1074 = e' := by omega
    have hw6 : wrap64 e' = e' := by unfold wrap64; omega
    have hw7 : IntKind.i64.wrap e' = e' := by rw [IntWalk.i64_in _ (by omega)]
    clear hG he hF hE hF0 hE0
    go_enter Tryz.func116, Tryz.ntmps116
    go_wp2_with fail
    refine (HS.out _).mono ?_
    rintro r w1 ⟨rfl, rfl⟩
    go_wp2_with fail
    refine (HO.out _).mono ?_
    rintro r w2 ⟨rfl, rfl⟩
    go_wp2
    exact bodyPost_ret (v := .tuple #[.agg #[.bool neg, .int .u64 m, .int .i64 k], .int .i64 0]) (by simp [results, Tryz.results116, go_sem]) rfl ⟨rfl, (Below.refl _ _).alloc (Nat.le_refl _) _⟩
  · rw [if_neg h0] at hG he
    have hE1 : E = 0 := by omega
    subst hE1
    subst hG
    have he2 : e' = -1074 := by omega
    subst he2
    clear he hF hE hF0 hE0 h0
    go_enter Tryz.func116, Tryz.ntmps116
    go_wp2_with fail
    refine (HS.out _).mono ?_
    rintro r w1 ⟨rfl, rfl⟩
    go_wp2_with fail
    refine (HO.out _).mono ?_
    rintro r w2 ⟨rfl, rfl⟩
    go_wp2
    exact bodyPost_ret (v := .tuple #[.agg #[.bool neg, .int .u64 m, .int .i64 k], .int .i64 0]) (by simp [results, Tryz.results116, go_sem]) rfl ⟨rfl, (Below.refl _ _).alloc (Nat.le_refl _) _⟩
set_option maxHeartbeats 1000000 in
theorem rParts_bad (x : Nat) (neg : Bool) (F : Int) (w : World) (hS : ∀ W, Calls Tryz.prog 152 #[.float .f64 x] W fun e w' => e = .returned (.tuple #[.bool neg, .int .i64 2047, .int .u64 F]) ∧ w' = W) :
    Calls Tryz.prog 116 #[.float .f64 x] w fun r w' => r = .returned (.tuple #[.agg #[.bool false, .int .u64 0, .int .i64 0], .int .i64 4]) ∧ Below w.heap.size w w' := by
  have HS := hid hS
  clear hS
  go_enter Tryz.func116, Tryz.ntmps116
  go_wp2_with fail
  refine (HS.out _).mono ?_
  rintro r w1 ⟨rfl, rfl⟩
  go_wp2
  exact bodyPost_ret (v := .tuple #[.agg #[.bool false, .int .u64 0, .int .i64 0], .int .i64 4]) (by simp [results, Tryz.results116, go_sem]) rfl ⟨rfl, (Below.refl _ _).alloc (Nat.le_refl _) _⟩
theorem rParts_any (x : Nat) (w : World) (hx : x < 18446744073709551616) :
    Calls Tryz.prog 116 #[.float .f64 x] w fun r w' => r = .returned (.tuple #[.agg #[.bool (pNeg x), .int .u64 (pMant x), .int .i64 (pExp x)], .int .i64 (pErr x)]) ∧ Below w.heap.size w w' := by
  have hS := fun (W : World) => rsplit_any x W hx
  have hel := exp_lt x
  have hfl := frac_lt x
  by_cases h : expOf x = 2047
  · have e1 : pNeg x = false := by unfold pNeg; rw [if_pos h]
    have e2 : pMant x = 0 := by unfold pMant; rw [if_pos h]
    have e3 : pExp x = 0 := by unfold pExp; rw [if_pos (Or.inl h)]
    have e4 : pErr x = 4 := by unfold pErr; rw [if_pos h]
    rw [h] at hS
    rw [e1, e2, e3, e4]
    exact rParts_bad x _ _ w hS
  · have e1 : pNeg x = negOf x := by unfold pNeg; rw [if_neg h]
    have e2 : pMant x = oddOf (mantOf x) := by unfold pMant; rw [if_neg h]
    have e4 : pErr x = 0 := by unfold pErr; rw [if_neg h]
    have hml := mant_lt x
    rw [e1, e2, e4]
    have hG : (mantOf x : Int) = if (0 : Int) < (expOf x : Int) then (fracOf x : Int) + 4503599627370496 else (fracOf x : Int) := by
      unfold mantOf
      split <;> split <;> omega
    by_cases h0 : mantOf x = 0
    · have e3 : pExp x = 0 := by unfold pExp; rw [if_pos (Or.inr h0)]
      have e5 : oddOf (mantOf x) = 0 := by rw [h0]; exact Nat.zero_div _
      rw [e3, e5]
      refine rParts_core x _ (expOf x) (fracOf x) (mantOf x) _ 0 0 w hS (by omega) (by omega) (by omega) (by omega) hG rfl (fun W => ?_)
      rw [h0]
      exact rodd_zero _ W
    · have e3 : pExp x = (if (0 : Int) < (expOf x : Int) then (expOf x : Int) - 1 else (expOf x : Int)) - 1074 + (tzOf (mantOf x) : Int) := by
        unfold pExp
        rw [if_neg (by omega)]
        split <;> omega
      rw [e3]
      exact rParts_core x _ (expOf x) (fracOf x) (mantOf x) _ _ _ w hS (by omega) (by omega) (by omega) (by omega) hG rfl (fun W => rodd_any (mantOf x) _ W (by omega) h0 (by split <;> omega) (by split <;> omega))
end Go.Proofs.YtehnkgonhgjeiaaGreatDoor
