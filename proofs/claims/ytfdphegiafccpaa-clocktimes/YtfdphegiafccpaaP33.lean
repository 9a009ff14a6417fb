
/- What the document's BitLen and Bit(0) do. -/
import Derived.Test.YtfdphegiafccpaaP23
import Derived.Test.YtfdphegiafccpaaP24
namespace Go.Proofs.Ytfdphegiafccpaa
open Go.RowKit Go.IntWalk

set_option maxHeartbeats 1000000 in
set_option maxRecDepth 100000 in
theorem len32_int (x : Int) (w : World) (h0 : 0 ≤ x) (h1 : x ≤ 4294967295) :
    Calls Try.prog 58 #[.int .u32 x] w fun r w' => r = .returned (.int .i64 (bitLen x.toNat)) ∧ w' = w := by
  go_enter Try.func58, Try.ntmps58
  rw [fold_len]
  go_wp2
  all_goals first
    | (exfalso; rename_i hno; apply hno; rw [len8_size]; omega)
    | (go_ret; refine ⟨ret_int ?_, rfl⟩; first | exact len_close x _ 24 (by omega) (by simp only [Nat.reducePow]; omega) (by omega) (by omega) _ | exact len_close x _ 16 (by omega) (by simp only [Nat.reducePow]; omega) (by omega) (by omega) _ | exact len_close x _ 8 (by omega) (by simp only [Nat.reducePow]; omega) (by omega) (by omega) _ | exact len_close0 x (by omega) (by omega) _ | exact len_close00 x (by omega) (by omega) _)
theorem len32_any (x : Nat) (w : World) (hx : x < 4294967296) :
    Calls Try.prog 58 #[.int .u32 x] w fun r w' => r = .returned (.int .i64 (bitLen x)) ∧ w' = w :=
  len32_int (x : Int) w (by omega) (by omega)
/-- How many bits a list of words has. -/
theorem bitLen_words (L : List Nat) (k : Nat) (hk : L.length = k + 1) (hD : DigL L) (h0 : L.getD k 0 ≠ 0) : bitLen (natL L) = 32 * k + bitLen (L.getD k 0) := by
  have e := natL_take_succ L k (by omega)
  rw [← hk, List.take_length] at e
  have hl := natL_lt (L.take k) (hD.take k)
  rw [List.length_take, Nat.min_eq_left (by omega)] at hl
  obtain ⟨d, hd⟩ : ∃ d, L.getD k 0 = d := ⟨_, rfl⟩
  rw [hd] at e h0 ⊢
  have hs := bitLen_shift (natL L) (32 * k) (by
    rw [e, ← pow32]
    have : 4294967296 ^ k * 1 ≤ 4294967296 ^ k * d := Nat.mul_le_mul_left _ (by omega)
    have hp := Nat.pow_pos (n := k) (show 0 < 4294967296 by decide)
    rw [Nat.add_mul_div_left _ _ hp, Nat.div_eq_of_lt hl]
    omega)
  rw [hs, e, ← pow32]
  have hp := Nat.pow_pos (n := k) (show 0 < 4294967296 by decide)
  rw [Nat.add_mul_div_left _ _ hp, Nat.div_eq_of_lt hl, Nat.zero_add]
end Go.Proofs.Ytfdphegiafccpaa
