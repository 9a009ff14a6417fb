
/- What anatomy's Canon does with numbers and singles, and the bit views. -/
import Derived.Test.YtdhifmkfdpbpcaaGreatDoorSplit
import Derived.Test.YtdhifmkfdpbpcaaGreatDoorWordAll
import Derived.Test.YtdhifmkfdpbpcaaGreatDoorPartsAll
import Derived.Test.YtdhifmkfdpbpcaaGreatDoorExact
namespace Go.Proofs.YtdhifmkfdpbpcaaGreatDoor
open Go.RowKit Go.IntWalk

set_option maxHeartbeats 400000 in
theorem Canon_any (x : Nat) (w : World) (hx : x < 18446744073709551616) :
    Calls Tryz.prog 49 #[.float .f64 x] w fun r w' => r = .returned (.float .f64 (canonOf x)) ∧ Below w.heap.size w w' := by
  have h1 := f64bits
  have h2 := f64from
  go_enter Tryz.func49, Tryz.ntmps49
  go_wp2_with fail
  refine (layout64_any _).mono ?_
  rintro r w1 ⟨rfl, hb⟩
  go_wp2_with fail
  refine (canon_any x _ hx).mono ?_
  rintro r w2 ⟨rfl, hb2⟩
  go_wp2_with fail
  go_ret
  exact ⟨rfl, bl_then hb hb2⟩

theorem f64bits32 (b : Nat) (w : World) : (callFunc 90 #[.float .f32 b]).run Tryz.prog w = .ok (.value (.int .u32 b)) w := by
  rw [run_callFunc_extern Tryz.func90 (by kernel_rfl) (by kernel_rfl) (by kernel_rfl) (e := Extern.MathFloatBits.float32bits) (by kernel_rfl)]; rfl
theorem f64from32 (b : Nat) (w : World) : (callFunc 71 #[.int .u32 b]).run Tryz.prog w = .ok (.value (.float .f32 b)) w := by
  rw [run_callFunc_extern Tryz.func71 (by kernel_rfl) (by kernel_rfl) (by kernel_rfl) (e := Extern.MathFloatBits.float32frombits) (by kernel_rfl)]; rfl

set_option maxHeartbeats 400000 in
theorem f_any32 (x : Nat) (w : World) :
    Calls Tryz.prog 23 #[.int .u32 x] w fun e w' => e = .returned (.float .f32 x) ∧ w' = w := by
  have h2 := f64from32
  go_enter Tryz.func23, Tryz.ntmps23
  go_wp2
  go_ret
  exact ⟨rfl, rfl⟩

set_option maxHeartbeats 400000 in
theorem layout64_any32 (w : World) :
    Calls Tryz.prog 120 #[] w fun e w' => e = .returned (.agg #[.int .i64 23, .int .u32 8388607, .int .u32 255, .int .u32 2147483648, .int .u32 2139095040, .int .u32 2143289344, .int .i64 150]) ∧ Below w.heap.size w w' := by
  go_enter Tryz.func120, Tryz.ntmps120
  go_wp2
  exact bodyPost_ret (v := .agg #[.int .i64 23, .int .u32 8388607, .int .u32 255, .int .u32 2147483648, .int .u32 2139095040, .int .u32 2143289344, .int .i64 150]) (by simp [results, Tryz.results120, go_sem]) rfl ⟨rfl, (Below.refl _ _).alloc (Nat.le_refl _) _⟩

set_option maxHeartbeats 400000 in
theorem canon_eq32 (x : Nat) (w : World) (hx : x < 4294967296) :
    Calls Tryz.prog 122 #[.agg #[.int .i64 23, .int .u32 8388607, .int .u32 255, .int .u32 2147483648, .int .u32 2139095040, .int .u32 2143289344, .int .i64 150], .int .u32 x] w fun e w' => e = .returned (.int .u32 (canonOf32 x)) ∧ w' = w.alloc (.cells #[.int .i64 23, .int .u32 8388607, .int .u32 255, .int .u32 2147483648, .int .u32 2139095040, .int .u32 2143289344, .int .i64 150] 150) := by
  go_enter Tryz.func122, Tryz.ntmps122
  go_wp2
  · go_ret
    exact ⟨ret_int (canon_w132 hx ‹_›), rfl⟩
  · go_ret
    exact ⟨ret_int (canon_w232 hx ‹_›), rfl⟩
theorem canon_any32 (x : Nat) (w : World) (hx : x < 4294967296) :
    Calls Tryz.prog 122 #[.agg #[.int .i64 23, .int .u32 8388607, .int .u32 255, .int .u32 2147483648, .int .u32 2139095040, .int .u32 2143289344, .int .i64 150], .int .u32 x] w fun e w' => e = .returned (.int .u32 (canonOf32 x)) ∧ Below w.heap.size w w' :=
  (canon_eq32 x w hx).mono fun _ _ h => ⟨h.1, by rw [h.2]; exact (Below.refl _ _).alloc (Nat.le_refl _) _⟩
set_option maxHeartbeats 400000 in
theorem Canon_any32 (x : Nat) (w : World) (hx : x < 4294967296) :
    Calls Tryz.prog 81 #[.float .f32 x] w fun r w' => r = .returned (.float .f32 (canonOf32 x)) ∧ Below w.heap.size w w' := by
  have h1 := f64bits32
  have h2 := f64from32
  go_enter Tryz.func81, Tryz.ntmps81
  go_wp2_with fail
  refine (layout64_any32 _).mono ?_
  rintro r w1 ⟨rfl, hb⟩
  go_wp2_with fail
  refine (canon_any32 x _ hx).mono ?_
  rintro r w2 ⟨rfl, hb2⟩
  go_wp2_with fail
  go_ret
  exact ⟨rfl, bl_then hb hb2⟩

end Go.Proofs.YtdhifmkfdpbpcaaGreatDoor
