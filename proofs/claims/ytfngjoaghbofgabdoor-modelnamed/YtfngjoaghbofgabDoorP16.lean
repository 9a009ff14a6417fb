
/- What math/bits.TrailingZeros64, Len64, and layer 1's signed and lowestBit do. -/
import Derived.Test.YtfngjoaghbofgabDoorP4
import Derived.Test.YtfngjoaghbofgabDoorP5
import Derived.Lib.Walk
import Derived.Lib.BitFns
import Derived.Lib.Strings
import Derived.Lib.Slices
import Derived.Lib.Small
namespace Go.Proofs.YtfngjoaghbofgabDoor
open Go.RowKit

/-- The library's table stands in its variable. -/
def Tab (w : World) : Prop := ∀ j, j < 64 → w.cell? ⟨3, j, none⟩ = some (.int .u8 (Lib.deBruijn64tab.getD j 0))
theorem Tab.below {w w' : World} (h : Tab w) (hs : 3 < w.heap.size) (hb : Below w.heap.size w w') : Tab w' := fun j hj => by rw [hb.cell (p := ⟨3, j, none⟩) hs]; exact h j hj

set_option maxHeartbeats 400000 in
theorem tz_core (x k idx : Nat) (w : World) (hx0 : ((x : Int) == 0) = false)
    (key : IntKind.u64.wrap (bits BinOp.and IntKind.u64 (x : Int) (IntKind.u64.wrap (-(x : Int))) * 285870213051353865) / 288230376151711744 = (idx : Int))
    (hi : idx < 64) (hk : k < 64) (hcell : w.cell? ⟨3, idx, none⟩ = some (.int .u8 k)) :
    Calls Tryd.prog 86 #[.int .u64 x] w fun e w' => e = .returned (.int .i64 k) ∧ w' = w := by
  go_enter Tryd.func86, Tryd.ntmps86
  go_wp2_with (simp only [key])
  go_ret
  exact ⟨rfl, rfl⟩
set_option maxHeartbeats 400000 in
theorem tz_zero (w : World) :
    Calls Tryd.prog 86 #[.int .u64 0] w fun e w' => e = .returned (.int .i64 64) ∧ w' = w := by
  go_enter Tryd.func86, Tryd.ntmps86
  go_wp2
  go_ret
  exact ⟨rfl, rfl⟩
theorem tz_any (x : Nat) (w : World) (hx : x < 18446744073709551616) (hT : Tab w) :
    Calls Tryd.prog 86 #[.int .u64 x] w fun e w' => e = .returned (.int .i64 (tzOf x)) ∧ w' = w := by
  by_cases hx0 : x = 0
  · subst hx0
    exact tz_zero w
  · obtain ⟨hlow, hk⟩ := Lib.lowest_bit 64 x hx0 hx
    obtain ⟨hi, htab⟩ := Lib.deBruijn64_at _ hk
    have hcell := hT _ hi
    rw [htab] at hcell
    exact tz_core x (Lib.ctz 64 x) _ w (by simpa using hx0) (tz_key x _ hx hx0 hlow) hi hk hcell

theorem fold_len : (⟨((([0, 1, 2, 2, 3, 3, 3, 3, 4, 4, 4, 4, 4, 4, 4, 4, 5, 5, 5, 5, 5, 5, 5, 5, 5, 5, 5, 5, 5, 5, 5, 5, 6, 6, 6, 6, 6, 6, 6, 6, 6, 6, 6, 6, 6, 6, 6, 6, 6, 6, 6, 6, 6, 6, 6, 6, 6, 6, 6, 6, 6, 6, 6, 6] : List UInt8).append [7, 7, 7, 7, 7, 7, 7, 7, 7, 7, 7, 7, 7, 7, 7, 7, 7, 7, 7, 7, 7, 7, 7, 7, 7, 7, 7, 7, 7, 7, 7, 7, 7, 7, 7, 7, 7, 7, 7, 7, 7, 7, 7, 7, 7, 7, 7, 7, 7, 7, 7, 7, 7, 7, 7, 7, 7, 7, 7, 7, 7, 7, 7, 7]).append (([8, 8, 8, 8, 8, 8, 8, 8, 8, 8, 8, 8, 8, 8, 8, 8, 8, 8, 8, 8, 8, 8, 8, 8, 8, 8, 8, 8, 8, 8, 8, 8, 8, 8, 8, 8, 8, 8, 8, 8, 8, 8, 8, 8, 8, 8, 8, 8, 8, 8, 8, 8, 8, 8, 8, 8, 8, 8, 8, 8, 8, 8, 8, 8] : List UInt8).append [8, 8, 8, 8, 8, 8, 8, 8, 8, 8, 8, 8, 8, 8, 8, 8, 8, 8, 8, 8, 8, 8, 8, 8, 8, 8, 8, 8, 8, 8, 8, 8, 8, 8, 8, 8, 8, 8, 8, 8, 8, 8, 8, 8, 8, 8, 8, 8, 8, 8, 8, 8, 8, 8, 8, 8, 8, 8, 8, 8, 8, 8, 8, 8])).toArray⟩ : ByteArray) = Lib.len8tab := by kernel_rfl
set_option maxHeartbeats 1000000 in
set_option maxRecDepth 100000 in
theorem len_int (x : Int) (w : World) (h0 : 0 ≤ x) (h1 : x ≤ 18446744073709551615) :
    Calls Tryd.prog 80 #[.int .u64 x] w fun r w' => r = .returned (.int .i64 (bitLen x.toNat)) ∧ w' = w := by
  go_enter Tryd.func80, Tryd.ntmps80
  rw [fold_len]
  go_wp2
  all_goals first
    | (exfalso; rename_i hno; apply hno; rw [len8_size]; omega)
    | (go_ret; refine ⟨ret_int ?_, rfl⟩; first | exact len_close x _ 56 (by omega) (by simp only [Nat.reducePow]; omega) (by omega) (by omega) _ | exact len_close x _ 48 (by omega) (by simp only [Nat.reducePow]; omega) (by omega) (by omega) _ | exact len_close x _ 40 (by omega) (by simp only [Nat.reducePow]; omega) (by omega) (by omega) _ | exact len_close x _ 32 (by omega) (by simp only [Nat.reducePow]; omega) (by omega) (by omega) _ | exact len_close x _ 24 (by omega) (by simp only [Nat.reducePow]; omega) (by omega) (by omega) _ | exact len_close x _ 16 (by omega) (by simp only [Nat.reducePow]; omega) (by omega) (by omega) _ | exact len_close x _ 8 (by omega) (by simp only [Nat.reducePow]; omega) (by omega) (by omega) _ | exact len_close00 x h0 (by omega) _)
theorem len_any (x : Nat) (w : World) (hx : x < 18446744073709551616) :
    Calls Tryd.prog 80 #[.int .u64 x] w fun r w' => r = .returned (.int .i64 (bitLen x)) ∧ w' = w :=
  len_int (x : Int) w (by omega) (by omega)
end Go.Proofs.YtfngjoaghbofgabDoor
