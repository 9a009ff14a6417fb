
/- What the document's within, near and Unwrap of layer 13 do. -/
import Derived.Test.YtfdphegiafccpaaP41
import Derived.Test.YtfdphegiafccpaaP32
namespace Go.Proofs.Ytfdphegiafccpaa
open Go.RowKit Go.IntWalk

def wiE (v m : Int) : Int := if m < (v.natAbs : Int) then 1 else 0
def wiV (v m : Int) : Int := if m < (v.natAbs : Int) then 0 else v
theorem wi_cmp (v m : Int) : (0 < cmpZ (v.natAbs : Int) m) = (m < (v.natAbs : Int)) := by
  unfold cmpZ
  by_cases h1 : (v.natAbs : Int) < m
  · rw [if_pos h1]
    simp only [eq_iff_iff]
    omega
  · rw [if_neg h1]
    by_cases h2 : m < (v.natAbs : Int)
    · rw [if_pos h2]
      simp [h2]
    · rw [if_neg h2]
      simp [h2]
set_option maxHeartbeats 2000000 in
theorem within_any (p bd : Nat) (v m : Int) (w : World) (h : NumAt w p v bd) (hb : bd ≤ 100) (h1 : 0 ≤ m) (h2 : m ≤ 4611686018427387904) :
    Calls Try.prog 19 #[.pointer (some ⟨p, 0, none⟩), .int .i64 m] w fun r w' => r = .returned (.tuple #[.int .i64 (wiV v m), .int .i64 (wiE v m)]) ∧ Below w.heap.size w w' := by
  have hpl := h.lt
  have HZ0 := hid (fresh_zok w)
  have HN0 := hid (h.al (.cells #[.bool false, .slice none 0 0] 53))
  have HAB := hid (NAbs w.heap.size p v bd (w.alloc (.cells #[.bool false, .slice none 0 0] 53)) (fresh_zok w) HN0.out (by omega))
  have HNW := hid (fun W => NNewC m W (by omega) (by omega))
  have HI : Hid (∀ W, NumAt W p v bd → ¬ m < (v.natAbs : Int) → Calls Try.prog 31 #[.pointer (some ⟨p, 0, none⟩)] W fun r w' => r = .returned (.int .i64 v) ∧ w' = W) := fun W hW hm => NInt64 p v bd W hW (by omega) (by omega)
  have HC := hid (wi_cmp v m)
  clear HN0
  unfold wiV wiE
  by_cases hc : m < (v.natAbs : Int)
  · rw [if_pos hc, if_pos hc]
    have hc2 : 0 < cmpZ (v.natAbs : Int) m := by rw [HC.out]; exact hc
    clear HC HI hc
    go_enter Try.func19, Try.ntmps19
    go_wp2_with fail
    refine HAB.out.mono ?_
    rintro e w1 ⟨rfl, n1, b1⟩
    have HB1 := hid (fresh_below b1)
    have HP1 := hid ((h.al (.cells #[.bool false, .slice none 0 0] 53)).but b1 (by omega) HZ0.out)
    have HN1 := hid n1
    have hlt1 := n1.lt
    clear n1 b1 HZ0 HAB
    go_wp2_with fail
    refine (HNW.out _).mono ?_
    rintro e w2 ⟨rfl, n2, b2⟩
    have HB2 := hid (HB1.out.trans (b2.mono HB1.out.size))
    have HP2 := hid (HP1.out.below b2)
    have HN2 := hid (HN1.out.below b2)
    have HM2 := hid n2
    have HCM := hid (NCmp w.heap.size w1.heap.size (v.natAbs : Int) m bd 2 w2 HN2.out HM2.out (by omega) (by omega))
    clear n2 b2 HP1 HN1
    generalize cmpZ (v.natAbs : Int) m = c at *
    go_wp2_with fail
    refine HCM.out.mono ?_
    rintro e w3 ⟨rfl, b3⟩
    have HB3 := hid (HB2.out.trans (b3.mono HB2.out.size))
    have HP3 := hid (HP2.out.below b3)
    clear b3 HP2 HN2 HM2 HCM
    go_wp2
    go_ret2
    exact ⟨rfl, HB3.out⟩
  · rw [if_neg hc, if_neg hc]
    have hc2 : ¬ 0 < cmpZ (v.natAbs : Int) m := by rw [HC.out]; exact hc
    have HHC := hid hc
    clear HC hc
    go_enter Try.func19, Try.ntmps19
    go_wp2_with fail
    refine HAB.out.mono ?_
    rintro e w1 ⟨rfl, n1, b1⟩
    have HB1 := hid (fresh_below b1)
    have HP1 := hid ((h.al (.cells #[.bool false, .slice none 0 0] 53)).but b1 (by omega) HZ0.out)
    have HN1 := hid n1
    have hlt1 := n1.lt
    clear n1 b1 HZ0 HAB
    go_wp2_with fail
    refine (HNW.out _).mono ?_
    rintro e w2 ⟨rfl, n2, b2⟩
    have HB2 := hid (HB1.out.trans (b2.mono HB1.out.size))
    have HP2 := hid (HP1.out.below b2)
    have HN2 := hid (HN1.out.below b2)
    have HM2 := hid n2
    have HCM := hid (NCmp w.heap.size w1.heap.size (v.natAbs : Int) m bd 2 w2 HN2.out HM2.out (by omega) (by omega))
    clear n2 b2 HP1 HN1
    generalize cmpZ (v.natAbs : Int) m = c at *
    go_wp2_with fail
    refine HCM.out.mono ?_
    rintro e w3 ⟨rfl, b3⟩
    have HB3 := hid (HB2.out.trans (b3.mono HB2.out.size))
    have HP3 := hid (HP2.out.below b3)
    clear b3 HP2 HN2 HM2 HCM
    go_wp2_with fail
    refine (HI.out _ HP3.out HHC.out).mono ?_
    rintro e w4 ⟨rfl, hw⟩
    rw [hw]
    clear hw
    go_wp2
    go_ret2
    exact ⟨rfl, HB3.out⟩
def nrV (a b : Int) : Int := if a < b then b - a else a - b
set_option maxHeartbeats 400000 in
theorem near_any (a b : Int) (w : World) (h1 : -2251799813685248 ≤ a ∧ a ≤ 2251799813685248) (h2 : -2251799813685248 ≤ b ∧ b ≤ 2251799813685248) :
    Calls Try.prog 26 #[.int .i64 a, .int .i64 b] w fun r w' => r = .returned (.int .i64 (nrV a b)) ∧ w' = w := by
  unfold nrV
  by_cases h : a < b
  · rw [if_pos h]
    go_enter Try.func26, Try.ntmps26
    go_wp2
    go_ret
    exact ⟨ret_int (by first | rfl | (rw [wrap64_in _ (by omega)])), rfl⟩
  · rw [if_neg h]
    go_enter Try.func26, Try.ntmps26
    go_wp2
    go_ret
    exact ⟨ret_int (by first | rfl | (rw [wrap64_in _ (by omega)])), rfl⟩
/-- The numbers that the document looks at, and the best of the first ones. -/
def nnV (l s k : Int) : Int := (l / 4294967296 + k) * 4294967296 + s
def pickB (l b n : Int) : Bool := decide (nrV n l < nrV b l) || (decide (nrV n l = nrV b l) && decide (b < n))
def bst (l s : Int) : Nat → Int
  | 0 => 0
  | 1 => nnV l s (-2)
  | j + 2 => if pickB l (bst l s (j + 1)) (nnV l s ((j : Int) - 1)) = true then nnV l s ((j : Int) - 1) else bst l s (j + 1)
theorem pick_is (l b n : Int) : pickB l b n = true ↔ (nrV n l < nrV b l ∨ (nrV n l = nrV b l ∧ b < n)) := by
  unfold pickB
  simp
theorem nr_cases (a b : Int) : (a < b ∧ nrV a b = b - a) ∨ (b ≤ a ∧ nrV a b = a - b) := by
  unfold nrV
  split <;> omega
theorem bst_two (l s : Int) (h1 : 0 ≤ s) (h2 : s ≤ 4294967295) : bst l s 2 = nnV l s (-1) := by
  show (if pickB l (nnV l s (-2)) (nnV l s ((0 : Nat) - 1 : Int)) = true then nnV l s ((0 : Nat) - 1 : Int) else nnV l s (-2)) = _
  have e : ((0 : Nat) - 1 : Int) = -1 := rfl
  rw [e]
  by_cases h : pickB l (nnV l s (-2)) (nnV l s (-1)) = true
  · rw [if_pos h]
  · exfalso
    apply h
    rw [pick_is]
    have a1 := nr_cases (nnV l s (-1)) l
    have a2 := nr_cases (nnV l s (-2)) l
    unfold nnV at *
    omega
theorem bst_three (l s : Int) (h1 : 0 ≤ s) (h2 : s ≤ 4294967295) : bst l s 3 = if s - l % 4294967296 ≤ 2147483648 then nnV l s 0 else nnV l s (-1) := by
  show (if pickB l (bst l s 2) (nnV l s ((1 : Nat) - 1 : Int)) = true then nnV l s ((1 : Nat) - 1 : Int) else bst l s 2) = _
  have e : ((1 : Nat) - 1 : Int) = 0 := rfl
  rw [e, bst_two l s h1 h2]
  have a1 := nr_cases (nnV l s 0) l
  have a2 := nr_cases (nnV l s (-1)) l
  have hp := pick_is l (nnV l s (-1)) (nnV l s 0)
  by_cases h : pickB l (nnV l s (-1)) (nnV l s 0) = true
  · rw [if_pos h, if_pos]
    have := hp.1 h
    unfold nnV at *
    omega
  · rw [if_neg h, if_neg]
    have := mt hp.2 h
    unfold nnV at *
    omega
theorem bst_four (l s : Int) (h1 : 0 ≤ s) (h2 : s ≤ 4294967295) : bst l s 4 = if s - l % 4294967296 ≤ -2147483648 then nnV l s 1 else if s - l % 4294967296 ≤ 2147483648 then nnV l s 0 else nnV l s (-1) := by
  show (if pickB l (bst l s 3) (nnV l s ((2 : Nat) - 1 : Int)) = true then nnV l s ((2 : Nat) - 1 : Int) else bst l s 3) = _
  have e : ((2 : Nat) - 1 : Int) = 1 := rfl
  rw [e, bst_three l s h1 h2]
  have a0 := nr_cases (nnV l s 1) l
  have a1 := nr_cases (nnV l s 0) l
  have a2 := nr_cases (nnV l s (-1)) l
  by_cases hm : s - l % 4294967296 ≤ 2147483648
  · rw [if_pos hm]
    have hp := pick_is l (nnV l s 0) (nnV l s 1)
    by_cases h : pickB l (nnV l s 0) (nnV l s 1) = true
    · rw [if_pos h, if_pos]
      have := hp.1 h
      unfold nnV at *
      omega
    · rw [if_neg h, if_neg]
      have := mt hp.2 h
      unfold nnV at *
      omega
  · rw [if_neg hm]
    have hp := pick_is l (nnV l s (-1)) (nnV l s 1)
    rw [if_neg (c := s - l % 4294967296 ≤ -2147483648) (by omega), if_neg]
    intro h
    have := hp.1 h
    unfold nnV at *
    omega
theorem bst_five (l s : Int) (h1 : 0 ≤ s) (h2 : s ≤ 4294967295) : bst l s 5 = unN l s := by
  show (if pickB l (bst l s 4) (nnV l s ((3 : Nat) - 1 : Int)) = true then nnV l s ((3 : Nat) - 1 : Int) else bst l s 4) = _
  have e : ((3 : Nat) - 1 : Int) = 2 := rfl
  rw [e, bst_four l s h1 h2]
  have a3 := nr_cases (nnV l s 2) l
  have a0 := nr_cases (nnV l s 1) l
  have a1 := nr_cases (nnV l s 0) l
  have a2 := nr_cases (nnV l s (-1)) l
  have hu : unN l s = if s - l % 4294967296 ≤ -2147483648 then nnV l s 1 else if s - l % 4294967296 ≤ 2147483648 then nnV l s 0 else nnV l s (-1) := by
    unfold unN stepV nnV
    by_cases c1 : s - l % 4294967296 ≤ -2147483648
    · rw [if_pos c1, if_pos (by omega)]
      omega
    · rw [if_neg c1]
      by_cases c2 : s - l % 4294967296 ≤ 2147483648
      · rw [if_pos c2]
        by_cases c3 : 0 ≤ s - l % 4294967296
        · rw [if_pos (by omega)]
          omega
        · rw [if_neg (by omega)]
          omega
      · rw [if_neg c2, if_neg (by omega)]
        omega
  rw [hu]
  refine if_neg ?_
  rw [pick_is]
  by_cases c1 : s - l % 4294967296 ≤ -2147483648
  · rw [if_pos c1]
    unfold nnV at *
    omega
  · rw [if_neg c1]
    by_cases c2 : s - l % 4294967296 ≤ 2147483648
    · rw [if_pos c2]
      unfold nnV at *
      omega
    · rw [if_neg c2]
      unfold nnV at *
      omega
end Go.Proofs.Ytfdphegiafccpaa
