
/- What the small calls of layer 1 do: math's bit views, Key, Compare, canon, Same. -/
import Derived.Test.YteidllapjokhlaaDoorRows
import Derived.Test.YteidllapjokhlaaDoorPlain
import Derived.WalkKit
import Derived.WalkSpells
import Derived.WalkLawsBesides
import Derived.Deep.RegionHeld3
import Derived.Deep.QuietTactic
import Derived.BigQuiet
namespace Go.Proofs.YteidllapjokhlaaDoor
open Go.RowKit

theorem f64bits (b : Nat) (w : World) : (callFunc 40 #[.float .f64 b]).run Tryd.prog w = .ok (.value (.int .u64 b)) w := by
  rw [run_callFunc_extern Tryd.func40 (by kernel_rfl) (by kernel_rfl) (by kernel_rfl) (e := Extern.MathFloatBits.float64bits) (by kernel_rfl)]; rfl
theorem f64from (b : Nat) (w : World) : (callFunc 30 #[.int .u64 b]).run Tryd.prog w = .ok (.value (.float .f64 b)) w := by
  rw [run_callFunc_extern Tryd.func30 (by kernel_rfl) (by kernel_rfl) (by kernel_rfl) (e := Extern.MathFloatBits.float64frombits) (by kernel_rfl)]; rfl

theorem bcell {W w1 : World} (hb : Below W.heap.size W w1) : (∀ b o, b < W.heap.size → w1.cell? ⟨b, o, none⟩ = W.cell? ⟨b, o, none⟩) ∧ (∀ b o, b < W.heap.size → w1.frozen? ⟨b, o, none⟩ = W.frozen? ⟨b, o, none⟩) :=
  ⟨fun b o h => hb.cell (p := ⟨b, o, none⟩) h, fun b o h => hb.frozen (p := ⟨b, o, none⟩) h⟩

set_option maxHeartbeats 400000 in
theorem f_any (x : Nat) (w : World) :
    Calls Tryd.prog 9 #[.int .u64 x] w fun e w' => e = .returned (.float .f64 x) ∧ w' = w := by
  have h2 := f64from
  go_enter Tryd.func9, Tryd.ntmps9
  go_wp2
  go_ret
  exact ⟨rfl, rfl⟩

def cmpOf (a b : Int) : Int := if a < b then -1 else if b < a then 1 else 0
set_option maxHeartbeats 400000 in
theorem layout64_any (w : World) :
    Calls Tryd.prog 61 #[] w fun e w' => e = .returned (.agg #[.int .i64 52, .int .u64 4503599627370495, .int .u64 2047, .int .u64 9223372036854775808, .int .u64 9218868437227405312, .int .u64 9221120237041090561, .int .i64 1075]) ∧ Below w.heap.size w w' := by
  go_enter Tryd.func61, Tryd.ntmps61
  go_wp2
  exact bodyPost_ret (v := .agg #[.int .i64 52, .int .u64 4503599627370495, .int .u64 2047, .int .u64 9223372036854775808, .int .u64 9218868437227405312, .int .u64 9221120237041090561, .int .i64 1075]) (by simp [results, Tryd.results61, go_sem]) rfl ⟨rfl, (Below.refl _ _).alloc (Nat.le_refl _) _⟩

set_option maxHeartbeats 400000 in
theorem canon_eq (x : Nat) (w : World) (hx : x < 18446744073709551616) :
    Calls Tryd.prog 60 #[.agg #[.int .i64 52, .int .u64 4503599627370495, .int .u64 2047, .int .u64 9223372036854775808, .int .u64 9218868437227405312, .int .u64 9221120237041090561, .int .i64 1075], .int .u64 x] w fun e w' => e = .returned (.int .u64 (canonOf x)) ∧ w' = w.alloc (.cells #[.int .i64 52, .int .u64 4503599627370495, .int .u64 2047, .int .u64 9223372036854775808, .int .u64 9218868437227405312, .int .u64 9221120237041090561, .int .i64 1075] 91) := by
  go_enter Tryd.func60, Tryd.ntmps60
  go_wp2
  · go_ret
    exact ⟨ret_int (canon_w1 hx ‹_›), rfl⟩
  · go_ret
    exact ⟨ret_int (canon_w2 hx ‹_›), rfl⟩
theorem canon_any (x : Nat) (w : World) (hx : x < 18446744073709551616) :
    Calls Tryd.prog 60 #[.agg #[.int .i64 52, .int .u64 4503599627370495, .int .u64 2047, .int .u64 9223372036854775808, .int .u64 9218868437227405312, .int .u64 9221120237041090561, .int .i64 1075], .int .u64 x] w fun e w' => e = .returned (.int .u64 (canonOf x)) ∧ Below w.heap.size w w' :=
  (canon_eq x w hx).mono fun _ _ h => ⟨h.1, by rw [h.2]; exact (Below.refl _ _).alloc (Nat.le_refl _) _⟩
end Go.Proofs.YteidllapjokhlaaDoor

namespace Go.Proofs.YteidllapjokhlaaDoor
open Go.RowKit

set_option maxHeartbeats 400000 in
theorem split64_any (x : Nat) (w : World) (hx : x < 18446744073709551616) :
    Calls Tryd.prog 91 #[.agg #[.int .i64 52, .int .u64 4503599627370495, .int .u64 2047, .int .u64 9223372036854775808, .int .u64 9218868437227405312, .int .u64 9221120237041090561, .int .i64 1075], .int .u64 x] w fun e w' => e = .returned (.tuple #[.bool (negOf x), .int .i64 (expOf x), .int .u64 (fracOf x)]) ∧ Below w.heap.size w w' := by
  go_enter Tryd.func91, Tryd.ntmps91
  go_wp2_with fail
  refine (canon_any x _ hx).mono ?_
  rintro e w1 ⟨rfl, hb⟩
  obtain ⟨hc, hf⟩ := bcell hb
  go_wp2_with fail
  go_quiet (fail)
  go_wp2
  go_ret3
  exact ⟨ret_bii (neg_w hx) (exp_w hx) (frac_w hx), bl_drewN _ (bl_alloc hb)⟩

set_option maxHeartbeats 400000 in
theorem Split_any (x : Nat) (w : World) (hx : x < 18446744073709551616) :
    Calls Tryd.prog 74 #[.float .f64 x] w fun e w' => e = .returned (.tuple #[.bool (negOf x), .int .i64 (expOf x), .int .u64 (fracOf x)]) ∧ Below w.heap.size w w' := by
  have h1 := f64bits
  go_enter Tryd.func74, Tryd.ntmps74
  go_wp2_with fail
  refine (layout64_any _).mono ?_
  rintro e w1 ⟨rfl, hb⟩
  go_wp2_with fail
  refine (split64_any x _ hx).mono ?_
  rintro e w2 ⟨rfl, hb2⟩
  go_wp2_with fail
  go_ret3
  exact ⟨rfl, bl_then hb hb2⟩

/-- The class that the fields tell. -/
def classN (x : Nat) : Nat := if expOf x = 2047 then (if fracOf x = 0 then 2 else 1) else if expOf x = 0 then (if fracOf x = 0 then 3 else 4) else 5
end Go.Proofs.YteidllapjokhlaaDoor
