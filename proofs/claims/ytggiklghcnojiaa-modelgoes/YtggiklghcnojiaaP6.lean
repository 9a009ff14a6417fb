
/- What split, Split, classOf, Class and Same do. -/
import Derived.Test.YtggiklghcnojiaaP4
import Derived.Deep.QuietTactic
import Derived.BigQuiet
namespace Go.Proofs.Ytggiklghcnojiaa
open Go.RowKit

set_option maxHeartbeats 400000 in
theorem split64_any (x : Nat) (w : World) (hx : x < 18446744073709551616) :
    Calls Try.prog 39 #[.agg #[.int .i64 52, .int .u64 4503599627370495, .int .u64 2047, .int .u64 9223372036854775808, .int .u64 9218868437227405312, .int .u64 9221120237041090561, .int .i64 1075], .int .u64 x] w fun e w' => e = .returned (.tuple #[.bool (negOf x), .int .i64 (expOf x), .int .u64 (fracOf x)]) ∧ Below w.heap.size w w' := by
  go_enter Try.func39, Try.ntmps39
  go_wp2_with fail
  refine (canon_any x _ hx).mono ?_
  rintro e w1 ⟨rfl, hb⟩
  obtain ⟨hc, hf⟩ := bcell hb
  go_wp2_with fail
  go_quiet (fail)
  go_wp2
  go_ret3
  exact ⟨ret_bii (neg_w hx) (exp_w hx) (frac_w hx), bl_drewN _ (bl_alloc hb)⟩

set_option maxHeartbeats 400000 in
theorem Split_any (x : Nat) (w : World) (hx : x < 18446744073709551616) :
    Calls Try.prog 36 #[.float .f64 x] w fun e w' => e = .returned (.tuple #[.bool (negOf x), .int .i64 (expOf x), .int .u64 (fracOf x)]) ∧ Below w.heap.size w w' := by
  have h1 := f64bits
  go_enter Try.func36, Try.ntmps36
  go_wp2_with fail
  refine (layout64_any _).mono ?_
  rintro e w1 ⟨rfl, hb⟩
  go_wp2_with fail
  refine (split64_any x _ hx).mono ?_
  rintro e w2 ⟨rfl, hb2⟩
  go_wp2_with fail
  go_ret3
  exact ⟨rfl, bl_then hb hb2⟩

/-- The class that the fields tell. -/
def classN (x : Nat) : Nat := if expOf x = 2047 then (if fracOf x = 0 then 2 else 1) else if expOf x = 0 then (if fracOf x = 0 then 3 else 4) else 5
end Go.Proofs.Ytggiklghcnojiaa
