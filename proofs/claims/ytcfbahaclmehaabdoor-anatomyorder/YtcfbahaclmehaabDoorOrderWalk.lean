/- What the law AnatomyOrder answers. -/
import Derived.Test.YtcfbahaclmehaabDoorAwake
import Derived.Test.YtcfbahaclmehaabDoorFloats
namespace Go.Proofs.YtcfbahaclmehaabDoor
open Go.RowKit

theorem cmp_neg (a b : Int) : cmpOf a b = wrap64 (-cmpOf b a) := by
  unfold cmpOf
  rcases Int.lt_trichotomy a b with h | h | h
  · rw [if_pos h, if_neg (by omega), if_pos h]; unfold wrap64; omega
  · rw [if_neg (by omega), if_neg (by omega), if_neg (by omega), if_neg (by omega)]; unfold wrap64; omega
  · rw [if_neg (by omega), if_pos h, if_pos h]; unfold wrap64; omega
theorem cmp_self (a : Int) : cmpOf a a = 0 := by unfold cmpOf; rw [if_neg (by omega), if_neg (by omega)]
theorem cmp_le (a b : Int) : cmpOf a b ≤ 0 ↔ a ≤ b := by unfold cmpOf; split <;> (try split) <;> omega
theorem cmp_neg_lt (a b : Int) : wrap64 (-cmpOf b a) < 0 ↔ a < b := by rw [← cmp_neg]; unfold cmpOf; split <;> (try split) <;> omega
theorem cmp_neg_gt (a b : Int) : 0 < wrap64 (-cmpOf b a) ↔ b < a := by rw [← cmp_neg]; unfold cmpOf; split <;> (try split) <;> omega
theorem cmp_neg_eq (a b : Int) : wrap64 (-cmpOf b a) = 0 ↔ a = b := by rw [← cmp_neg]; unfold cmpOf; split <;> (try split) <;> omega
theorem cmp_f4 (x y : Nat) (hx : x < 18446744073709551616) (hy : y < 18446744073709551616) : (wrap64 (-cmpOf (keyOf y) (keyOf x)) == 0) = (canonOf x == canonOf y) := by
  rw [Bool.eq_iff_iff, beq_iff_eq, beq_iff_eq, cmp_neg_eq, canon_key x y hx hy]
theorem cmp_f5 (a b : Int) : (!decide (wrap64 (-cmpOf b a) < 0) == decide (a < b)) = false := by
  have := cmp_neg_lt a b
  by_cases h : a < b
  · rw [decide_eq_true (this.2 h), decide_eq_true h]; rfl
  · rw [decide_eq_false (fun h2 => h (this.1 h2)), decide_eq_false h]; rfl

set_option maxHeartbeats 1000000 in
theorem order_law (x y z : Nat) (w : World) (hx : x < 18446744073709551616) (hy : y < 18446744073709551616) (hz : z < 18446744073709551616) (hT : Tab w) (hs : 1 < w.heap.size) :
    Calls Tryd.prog 4 #[.int .u64 x, .int .u64 y, .int .u64 z] w fun r w' => r = .returned (.bool true) ∧ Below w.heap.size w w' := by
  have F1 : Hid (cmpOf (keyOf x) (keyOf y) = wrap64 (-cmpOf (keyOf y) (keyOf x))) := cmp_neg _ _
  have F2 : Hid (cmpOf (keyOf x) (keyOf x) = 0) := cmp_self _
  have F3 : Hid (wrap64 (-cmpOf (keyOf y) (keyOf x)) ≤ 0 → cmpOf (keyOf y) (keyOf z) ≤ 0 → cmpOf (keyOf x) (keyOf z) ≤ 0) := fun h1 h2 => by
    rw [← cmp_neg, cmp_le] at h1
    rw [cmp_le] at h2
    exact (cmp_le (keyOf x) (keyOf z)).2 (by omega)
  have F4 : Hid ((wrap64 (-cmpOf (keyOf y) (keyOf x)) == 0) = (canonOf x == canonOf y)) := cmp_f4 x y hx hy
  have F5 : Hid ((!decide (wrap64 (-cmpOf (keyOf y) (keyOf x)) < 0) == decide (keyOf x < keyOf y)) = false) := cmp_f5 _ _
  have F6 : Hid (FloatKind.f64.format.order x y = some Ordering.lt → wrap64 (-cmpOf (keyOf y) (keyOf x)) < 0) := fun h => (cmp_neg_lt (keyOf x) (keyOf y)).2 (lt_key x y hx hy h)
  have F7 : Hid (FloatKind.f64.format.order x y = some Ordering.gt → 0 < wrap64 (-cmpOf (keyOf y) (keyOf x))) := fun h => (cmp_neg_gt (keyOf x) (keyOf y)).2 (gt_key x y hx hy h)
  go_enter Tryd.func4, Tryd.ntmps4
  go_wp2_with (first
    | (go_at_call 6; refine (f_any _ _).mono ?_; rintro e w' ⟨rfl, rfl⟩)
    | (go_at_call 15; refine (compare_any _ _ _ ?_ ?_).mono ?_; assumption; assumption; rintro e w' ⟨rfl, rfl⟩)
    | (go_at_call 17; refine (key_any _ _ ?_).mono ?_; assumption; rintro e w' ⟨rfl, rfl⟩)
    | (go_at_call 8; refine (awake_any _ hT hs).mono ?_; rintro e w2 ⟨rfl, hb2⟩)
    | (go_at_call 16; refine (Same_any _ _ _ ?_ ?_).mono ?_; assumption; assumption; rintro e w3 ⟨rfl, hb3⟩))
  all_goals first
    | exact absurd F1.out ‹¬ cmpOf (keyOf x) (keyOf y) = wrap64 (-cmpOf (keyOf y) (keyOf x))›
    | exact absurd F2.out ‹¬ cmpOf (keyOf x) (keyOf x) = 0›
    | exact absurd ‹0 < cmpOf (keyOf x) (keyOf z)› (Int.not_lt.2 (F3.out ‹_› ‹_›))
    | exact absurd F4.out ‹¬ (wrap64 (-cmpOf (keyOf y) (keyOf x)) == 0) = (canonOf x == canonOf y)›
    | exact Bool.noConfusion (F5.out.symm.trans ‹(!decide (wrap64 (-cmpOf (keyOf y) (keyOf x)) < 0) == decide (keyOf x < keyOf y)) = true›)
    | exact absurd ‹0 ≤ wrap64 (-cmpOf (keyOf y) (keyOf x))› (Int.not_le.2 (F6.out ‹_›))
    | (go_ret; exact ⟨rfl, bl_then hb2 hb3⟩)
    | (go_ret; exact ⟨ret_bool (decide_eq_true (F7.out ‹_›)), bl_then hb2 hb3⟩)
    | (go_ret; exact ⟨ret_bool (decide_eq_true (F6.out ‹_›)), bl_then hb2 hb3⟩)
end Go.Proofs.YtcfbahaclmehaabDoor
