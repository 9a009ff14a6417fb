
/- The law ClockRises. -/
import Derived.Test.YtfdphegiafccpabP16
namespace Go.Proofs.Ytfdphegiafccpab
open Go.RowKit Go.IntWalk

theorem ret_tt {x : Bool} (h : x = true) : Ending.returned (.bool x) = Ending.returned (.bool true) := by rw [h]
theorem tm_rises (o n d a b : Int) (ha : tmE o n d a = 0) (hb : tmE o n d b = 0) (hab : a ≤ b) : tmV o n d a ≤ tmV o n d b ∧ (a = b ∨ n < d ∨ tmV o n d a < tmV o n d b) := by
  obtain ⟨k, _⟩ := (tmE_zero _ _ _ _).1 ha
  obtain ⟨_, ⟨k1, k2⟩, k3, k4⟩ := ckB_yes k
  unfold tmV
  rw [if_pos ha, if_pos hb]
  have h1 : a * n ≤ b * n := Int.mul_le_mul_of_nonneg_right hab (by omega)
  have h2 := Int.ediv_le_ediv (show 0 < d by omega) h1
  refine ⟨by omega, ?_⟩
  by_cases he : a = b
  · exact .inl he
  · by_cases hn : n < d
    · exact .inr (.inl hn)
    · refine .inr (.inr ?_)
      have h3 : (a + 1) * n ≤ b * n := Int.mul_le_mul_of_nonneg_right (by omega) (by omega)
      have h4 : a * n + 1 * d ≤ b * n := by rw [Int.add_mul, Int.one_mul] at h3; omega
      have h5 := Int.ediv_le_ediv (show 0 < d by omega) h4
      rw [Int.add_mul_ediv_right _ _ (by omega)] at h5
      omega
end Go.Proofs.Ytfdphegiafccpab
