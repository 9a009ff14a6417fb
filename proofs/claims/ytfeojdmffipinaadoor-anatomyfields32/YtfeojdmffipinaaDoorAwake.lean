
/- What awake answers: chapter 1's first examples hold. -/
import Derived.Test.YtfeojdmffipinaaDoorParts
import Derived.Test.YtfeojdmffipinaaDoorUlp
namespace Go.Proofs.YtfeojdmffipinaaDoor
open Go.RowKit

theorem at_15 : negOf 4609434218613702656 = false ∧ expOf 4609434218613702656 = 1023 ∧ fracOf 4609434218613702656 = 2251799813685248 ∧ mantOf 4609434218613702656 / 2 ^ tzOf (mantOf 4609434218613702656) = 3 ∧ tzOf (mantOf 4609434218613702656) = 51 := by decide +kernel
theorem at_1 : expOf 4607182418800017408 = 1023 ∧ classN 4607182418800017408 = 5 ∧ powN 1022 = 4372995238176751616 := by decide +kernel

theorem Parts_15 (w : World) (hT : Tab w) (hs : 1 < w.heap.size) :
    Calls Tryd.prog 16 #[.float .f64 4609434218613702656] w fun r w' => r = .returned (.tuple #[.agg #[.bool false, .int .u64 3, .int .i64 (-1)], .int .i64 0]) ∧ Below w.heap.size w w' := by
  obtain ⟨a1, a2, a3, a4, a5⟩ := at_15
  refine (Parts_norm 4609434218613702656 w (by decide) (by rw [a2]; decide) (by rw [a2]; decide) hT hs).mono ?_
  rintro r w' ⟨rfl, hb⟩
  exact ⟨ret_parts a1 (by rw [a4]; rfl) (by rw [a2, a5]; rfl) rfl, hb⟩
theorem Split_15 (w : World) :
    Calls Tryd.prog 11 #[.float .f64 4609434218613702656] w fun r w' => r = .returned (.tuple #[.bool false, .int .i64 1023, .int .u64 2251799813685248]) ∧ Below w.heap.size w w' := by
  obtain ⟨a1, a2, a3, a4, a5⟩ := at_15
  refine (Split_any 4609434218613702656 w (by decide)).mono ?_
  rintro r w' ⟨rfl, hb⟩
  exact ⟨ret_bii a1 (by rw [a2]; rfl) (by rw [a3]; rfl), hb⟩
theorem Class_1 (w : World) :
    Calls Tryd.prog 20 #[.float .f64 4607182418800017408] w fun r w' => r = .returned (.int .i64 5) ∧ Below w.heap.size w w' := by
  obtain ⟨a1, a2, a3⟩ := at_1
  refine (Class_any 4607182418800017408 w (by decide)).mono ?_
  rintro r w' ⟨rfl, hb⟩
  exact ⟨ret_int (by rw [a2]; rfl), hb⟩
theorem Ulp_1 (w : World) (hT : Tab w) (hs : 1 < w.heap.size) :
    Calls Tryd.prog 42 #[.float .f64 4607182418800017408] w fun r w' => r = .returned (.float .f64 4372995238176751616) ∧ Below w.heap.size w w' := by
  obtain ⟨a1, a2, a3⟩ := at_1
  refine (Ulp_fin 4607182418800017408 1022 w (by decide) (by rw [a1]; decide) (by rw [a1]; rfl) hT hs).mono ?_
  rintro r w' ⟨rfl, hb⟩
  exact ⟨by rw [a3], hb⟩
theorem ord_ulp : (FloatKind.f64.format.order 4372995238176751616 4372995238176751616 == some .eq) = true := by decide +kernel

set_option maxHeartbeats 400000 in
theorem awake_any (w : World) (hT : Tab w) (hs : 1 < w.heap.size) :
    Calls Tryd.prog 15 #[] w fun r w' => r = .returned (.bool true) ∧ Below w.heap.size w w' := by
  have ho := ord_ulp
  go_enter Tryd.func15, Tryd.ntmps15
  go_wp2_with fail
  refine (Split_15 _).mono ?_
  rintro r w1 ⟨rfl, hb1⟩
  go_wp2_with fail
  refine (Parts_15 _ (hT.below hs hb1) (Nat.lt_of_lt_of_le hs hb1.size)).mono ?_
  rintro r w2 ⟨rfl, hb2⟩
  go_wp2_with fail
  refine (Class_1 _).mono ?_
  rintro r w3 ⟨rfl, hb3⟩
  go_wp2_with fail
  have hB : Below w.heap.size w w3 := bl_then (bl_then hb1 hb2) (bl_alloc hb3)
  refine (Ulp_1 _ (hT.below hs hB) (Nat.lt_of_lt_of_le hs hB.size)).mono ?_
  rintro r w4 ⟨rfl, hb4⟩
  go_wp2_with fail
  go_ret
  exact ⟨rfl, bl_then hB hb4⟩
end Go.Proofs.YtfeojdmffipinaaDoor
