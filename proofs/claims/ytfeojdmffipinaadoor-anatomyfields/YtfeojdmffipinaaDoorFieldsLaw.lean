
/- What the law AnatomyFields answers. -/
import Derived.Test.YtfeojdmffipinaaDoorFieldsWalk
namespace Go.Proofs.YtfeojdmffipinaaDoor
open Go.RowKit Go.IntWalk

theorem canon_canon (x : Nat) : canonOf (canonOf x) = canonOf x := by
  unfold canonOf
  by_cases h : 9218868437227405312 < x % 9223372036854775808
  · rw [if_pos h]; rfl
  · rw [if_neg h, if_neg h]
theorem join_canon (neg : Bool) (e : Int) (f : Nat) : (joinOf neg e f == canonOf (joinOf neg e f)) = true := by
  rw [beq_iff_eq]
  unfold joinOf
  split
  · rfl
  · rw [canon_canon]
theorem join_lt (neg : Bool) (e : Int) (f : Nat) : joinOf neg e f < 18446744073709551616 := by
  unfold joinOf
  by_cases h : joinBad e f
  · rw [if_pos h]; omega
  · rw [if_neg h]
    unfold joinBad at h
    exact canon_lt (sign_lt (pack_lt _ _ (by omega) (by omega)))
theorem two_cells (W : World) (x y : Nat) (t : TypeId) : ∀ i, i < [x, y].length → (W.alloc (.cells #[.float .f64 x, .float .f64 y] t)).cell? ⟨W.heap.size, 0 + i, none⟩ = some (.float .f64 ([x, y].getD i 0)) := by
  intro i hi
  rw [Nat.zero_add, World.cell?_alloc_new]
  match i, hi with
  | 0, _ => rfl
  | 1, _ => rfl
theorem two_lt (x y : Nat) (hx : x < 18446744073709551616) (hy : y < 18446744073709551616) : ∀ i, i < [x, y].length → [x, y].getD i 0 < 18446744073709551616 := by
  intro i hi
  match i, hi with
  | 0, _ => exact hx
  | 1, _ => exact hy

set_option maxHeartbeats 1000000 in
theorem fields_law (x y : Nat) (neg : Bool) (e : Int) (f : Nat) (w : World) (hx : x < 18446744073709551616) (hy : y < 18446744073709551616) (_he : -9223372036854775808 ≤ e ∧ e ≤ 9223372036854775807) (_hf : f < 18446744073709551616) (hT : Tab w) (hs : 1 < w.heap.size) :
    Calls Tryd.prog 4 #[.int .u64 x, .int .u64 y, .bool neg, .int .i64 e, .int .u64 f] w fun r w' => r = .returned (.bool true) ∧ Below w.heap.size w w' := by
  have hJ := join_canon neg e f
  have hJL := join_lt neg e f
  clear _he
  go_enter Tryd.func4, Tryd.ntmps4
  go_wp2_with (first
    | (go_at_call 9; refine (f_any _ _).mono ?_; rintro e w' ⟨rfl, rfl⟩)
    | (go_at_call 11; refine (Split_any x _ hx).mono ?_; rintro e w1 ⟨rfl, hb1⟩)
    | (go_at_call 18; refine (rsplit_any x _ hx).mono ?_; rintro e w' ⟨rfl, rfl⟩)
    | (go_at_call 10; refine (Join_any neg e f _).mono ?_; rintro r w2 ⟨rfl, hb2⟩)
    | (go_at_call 19; refine (rjoin_any neg e f _).mono ?_; rintro r w' ⟨rfl, rfl⟩)
    | (go_at_call 20; refine (Class_any x _ hx).mono ?_; rintro r w3 ⟨rfl, hb3⟩)
    | (go_at_call 21; refine (rclass_any x _ hx).mono ?_; rintro r w' ⟨rfl, rfl⟩)
    | (go_at_call 14; refine (same_any _ _ _ ?_).mono ?_; assumption; rintro r w' ⟨rfl, rfl⟩)
    | (go_at_call 22; refine (Same_any x y _ hx hy).mono ?_; rintro r w4 ⟨rfl, hb4⟩)
    | (go_at_call 23; refine (rsame_any x y _ hx hy).mono ?_; rintro r w' ⟨rfl, rfl⟩)
    | (go_at_call 24; refine (Canon_any x _ hx).mono ?_; rintro r w5 ⟨rfl, hb5⟩))
  have HB5 : Hid (Below _ _ _) := bl_then (bl_then (bl_then (bl_then hb1 hb2) hb3) hb4) hb5
  refine (Finite_any [x, y] _ 0 2 _ (by simp) (two_cells _ x y _) (two_lt x y hx hy) (by simp)).mono ?_
  rintro r w6 ⟨rfl, hb6⟩
  have HB6 : Hid (Below _ _ _) := bl_then HB5.out (bl_alloc hb6)
  go_wp2_with fail
  refine (rallfin_any [x, y] _ 0 2 _ (two_cells _ x y _) (two_lt x y hx hy) (by simp)).mono ?_
  rintro r w7 ⟨rfl, rfl⟩
  go_wp2_with fail
  refine (Finite_nil _).mono ?_
  rintro r w8 ⟨rfl, rfl⟩
  go_wp2_with fail
  refine (awake_any _ (hT.below hs (bl_al HB6.out _)) (Nat.lt_of_lt_of_le hs (bl_al HB6.out _).size)).mono ?_
  rintro r w9 ⟨rfl, hb9⟩
  go_wp2_with fail
  go_ret
  exact ⟨rfl, bl_then (bl_al HB6.out _) hb9⟩
end Go.Proofs.YtfeojdmffipinaaDoor
