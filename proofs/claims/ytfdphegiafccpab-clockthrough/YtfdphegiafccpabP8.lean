
/- What math/bits.TrailingZeros64, Len64, and layer 1's signed and lowestBit do. -/
import Derived.Test.YtfdphegiafccpabP2
import Derived.Test.YtfdphegiafccpabP6
import Derived.Lib.Walk
import Derived.Lib.BitFns
import Derived.Lib.Strings
import Derived.Lib.Slices
import Derived.Lib.Small
namespace Go.Proofs.Ytfdphegiafccpab
open Go.RowKit

theorem fold_len : (⟨((([0, 1, 2, 2, 3, 3, 3, 3, 4, 4, 4, 4, 4, 4, 4, 4, 5, 5, 5, 5, 5, 5, 5, 5, 5, 5, 5, 5, 5, 5, 5, 5, 6, 6, 6, 6, 6, 6, 6, 6, 6, 6, 6, 6, 6, 6, 6, 6, 6, 6, 6, 6, 6, 6, 6, 6, 6, 6, 6, 6, 6, 6, 6, 6] : List UInt8).append [7, 7, 7, 7, 7, 7, 7, 7, 7, 7, 7, 7, 7, 7, 7, 7, 7, 7, 7, 7, 7, 7, 7, 7, 7, 7, 7, 7, 7, 7, 7, 7, 7, 7, 7, 7, 7, 7, 7, 7, 7, 7, 7, 7, 7, 7, 7, 7, 7, 7, 7, 7, 7, 7, 7, 7, 7, 7, 7, 7, 7, 7, 7, 7]).append (([8, 8, 8, 8, 8, 8, 8, 8, 8, 8, 8, 8, 8, 8, 8, 8, 8, 8, 8, 8, 8, 8, 8, 8, 8, 8, 8, 8, 8, 8, 8, 8, 8, 8, 8, 8, 8, 8, 8, 8, 8, 8, 8, 8, 8, 8, 8, 8, 8, 8, 8, 8, 8, 8, 8, 8, 8, 8, 8, 8, 8, 8, 8, 8] : List UInt8).append [8, 8, 8, 8, 8, 8, 8, 8, 8, 8, 8, 8, 8, 8, 8, 8, 8, 8, 8, 8, 8, 8, 8, 8, 8, 8, 8, 8, 8, 8, 8, 8, 8, 8, 8, 8, 8, 8, 8, 8, 8, 8, 8, 8, 8, 8, 8, 8, 8, 8, 8, 8, 8, 8, 8, 8, 8, 8, 8, 8, 8, 8, 8, 8])).toArray⟩ : ByteArray) = Lib.len8tab := by kernel_rfl
set_option maxHeartbeats 1000000 in
set_option maxRecDepth 100000 in
theorem len_int (x : Int) (w : World) (h0 : 0 ≤ x) (h1 : x ≤ 18446744073709551615) :
    Calls Try.prog 29 #[.int .u64 x] w fun r w' => r = .returned (.int .i64 (bitLen x.toNat)) ∧ w' = w := by
  go_enter Try.func29, Try.ntmps29
  rw [fold_len]
  go_wp2
  all_goals first
    | (exfalso; rename_i hno; apply hno; rw [len8_size]; omega)
    | (go_ret; refine ⟨ret_int ?_, rfl⟩; first | exact len_close x _ 56 (by omega) (by simp only [Nat.reducePow]; omega) (by omega) (by omega) _ | exact len_close x _ 48 (by omega) (by simp only [Nat.reducePow]; omega) (by omega) (by omega) _ | exact len_close x _ 40 (by omega) (by simp only [Nat.reducePow]; omega) (by omega) (by omega) _ | exact len_close x _ 32 (by omega) (by simp only [Nat.reducePow]; omega) (by omega) (by omega) _ | exact len_close x _ 24 (by omega) (by simp only [Nat.reducePow]; omega) (by omega) (by omega) _ | exact len_close x _ 16 (by omega) (by simp only [Nat.reducePow]; omega) (by omega) (by omega) _ | exact len_close x _ 8 (by omega) (by simp only [Nat.reducePow]; omega) (by omega) (by omega) _ | exact len_close00 x h0 (by omega) _)
theorem len_any (x : Nat) (w : World) (hx : x < 18446744073709551616) :
    Calls Try.prog 29 #[.int .u64 x] w fun r w' => r = .returned (.int .i64 (bitLen x)) ∧ w' = w :=
  len_int (x : Int) w (by omega) (by omega)
end Go.Proofs.Ytfdphegiafccpab
