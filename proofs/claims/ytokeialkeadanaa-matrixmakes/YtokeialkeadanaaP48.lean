
/- What MatrixPlaces wants besides: First of two, If, same; the errors told alike. -/
import Derived.Test.YtokeialkeadanaaP44
import Derived.Deep.Cut
namespace Go.Proofs.Ytokeialkeadanaa
open Go.RowKit Go.IntWalk

def I2 (a b : Int) : Obj := .cells #[.int .i64 a, .int .i64 b] 3
theorem If_yes (E : Int) (w : World) : Calls Try.prog 65 #[.bool true, .int .i64 E] w fun e w' => e = .returned (.int .i64 E) ∧ w' = w := If_any true E w
theorem If_no (E : Int) (w : World) : Calls Try.prog 65 #[.bool false, .int .i64 E] w fun e w' => e = .returned (.int .i64 0) ∧ w' = w := If_any false E w
theorem finB_exp (x : Nat) (hx : x < 18446744073709551616) : (!(expOf x == 2047)) = finB x := by
  unfold finB
  by_cases h : x % 9223372036854775808 < 9218868437227405312
  · rw [decide_eq_true h]
    unfold expOf
    rw [canq_fin h, expq_fin h]
    rfl
  · rw [decide_eq_false h]
    cases hc : (expOf x == 2047) with
    | true => rfl
    | false => exact absurd (fin_exp hx hc) h
theorem f2 (a b : Int) : firstL [a, b] = if a = 0 then b else a := by
  unfold firstL
  by_cases h : a = 0
  · rw [if_pos h, if_pos h]
    unfold firstL
    by_cases h2 : b = 0
    · rw [if_pos h2]; exact h2.symm
    · rw [if_neg h2]
  · rw [if_neg h, if_neg h]
def outE (i r : Int) : Int := if i < 0 ∨ r ≤ i then 1 else 0
theorem row_span {r c i : Int} {n : Nat} {xs : List Nat} : spanE (chkM r c n xs) r c i 0 1 0 = firstL [chkM r c n xs, outE i r] := by
  rw [f2]
  unfold spanE outE
  by_cases hE : chkM r c n xs = 0
  · obtain ⟨R, C, rfl, rfl, h1, h2, _, _⟩ := chk_some hE
    rw [if_neg (fun h => h hE), if_pos hE]
    by_cases h : i < 0 ∨ (R : Int) ≤ i
    · rw [if_pos h, if_pos (by omega)]
    · rw [if_neg h, if_neg (by omega)]
  · rw [if_pos hE, if_neg hE]
theorem col_span {r c j : Int} {n : Nat} {xs : List Nat} : spanE (chkM r c n xs) r c 0 j 0 1 = firstL [chkM r c n xs, outE j c] := by
  rw [f2]
  unfold spanE outE
  by_cases hE : chkM r c n xs = 0
  · obtain ⟨R, C, rfl, rfl, h1, h2, _, _⟩ := chk_some hE
    rw [if_neg (fun h => h hE), if_pos hE]
    by_cases h : j < 0 ∨ (C : Int) ≤ j
    · rw [if_pos h, if_pos (by omega)]
    · rw [if_neg h, if_neg (by omega)]
  · rw [if_pos hE, if_neg hE]
theorem both_span {r c i j : Int} {n : Nat} {xs : List Nat} : spanE (chkM r c n xs) r c i j 1 1 = firstL [firstL [chkM r c n xs, outE i r], firstL [chkM r c n xs, outE j c]] := by
  rw [f2, f2, f2]
  unfold spanE outE
  by_cases hE : chkM r c n xs = 0
  · obtain ⟨R, C, rfl, rfl, h1, h2, _, _⟩ := chk_some hE
    rw [if_neg (fun h => h hE), if_pos hE, if_pos hE]
    by_cases h : i < 0 ∨ (R : Int) ≤ i
    · rw [if_pos h, if_pos (by omega), if_neg (by decide)]
    · rw [if_neg h, if_pos rfl]
      by_cases h3 : j < 0 ∨ (C : Int) ≤ j
      · rw [if_pos h3, if_pos (by omega)]
      · rw [if_neg h3, if_neg (by omega)]
  · rw [if_pos hE, if_neg hE, if_neg hE]
theorem with_first (F : Int) (x : Nat) : withE F x = firstL [F, if finB x = true then 0 else 4] := by
  rw [f2]
  unfold withE
  by_cases h : F = 0
  · rw [if_neg (fun hc => hc h), if_pos h]
  · rw [if_pos h, if_neg h]
theorem zero_both {E a b : Int} (h : firstL [firstL [E, a], firstL [E, b]] = 0) : firstL [E, a] = 0 ∧ firstL [E, b] = 0 := by
  rw [f2] at h
  by_cases h1 : firstL [E, a] = 0
  · rw [if_pos h1] at h; exact ⟨h1, h⟩
  · rw [if_neg h1] at h; exact absurd h h1
theorem with_zero {F : Int} {x : Nat} (h : withE F x = 0) : F = 0 ∧ finB x = true := by
  unfold withE at h
  by_cases hF : F = 0
  · rw [if_neg (fun hc => hc hF)] at h
    cases hc : finB x with
    | true => exact ⟨hF, rfl⟩
    | false => rw [hc, if_neg (by decide)] at h; cases h
  · rw [if_pos hF] at h; exact absurd h hF
end Go.Proofs.Ytokeialkeadanaa
