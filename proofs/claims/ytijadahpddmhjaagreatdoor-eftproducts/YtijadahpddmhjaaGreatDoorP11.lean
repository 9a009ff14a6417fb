
/- What the small calls of layer 1 do: math's bit views, Key, Compare, canon, Same. -/
import Derived.Test.YtijadahpddmhjaaGreatDoorRows
import Derived.Test.YtijadahpddmhjaaGreatDoorP1
import Derived.WalkKit
import Derived.WalkSpells
import Derived.WalkLawsBesides
import Derived.Deep.RegionHeld3
import Derived.Deep.QuietTactic
import Derived.BigQuiet
import Derived.Test.YtijadahpddmhjaaGreatDoorP6
namespace Go.Proofs.YtijadahpddmhjaaGreatDoor
open Go.RowKit

theorem f64bits (b : Nat) (w : World) : (callFunc 29 #[.float .f64 b]).run Tryz.prog w = .ok (.value (.int .u64 b)) w := by
  rw [run_callFunc_extern Tryz.func29 (by kernel_rfl) (by kernel_rfl) (by kernel_rfl) (e := Extern.MathFloatBits.float64bits) (by kernel_rfl)]; rfl
theorem f64from (b : Nat) (w : World) : (callFunc 30 #[.int .u64 b]).run Tryz.prog w = .ok (.value (.float .f64 b)) w := by
  rw [run_callFunc_extern Tryz.func30 (by kernel_rfl) (by kernel_rfl) (by kernel_rfl) (e := Extern.MathFloatBits.float64frombits) (by kernel_rfl)]; rfl

theorem bcell {W w1 : World} (hb : Below W.heap.size W w1) : (∀ b o, b < W.heap.size → w1.cell? ⟨b, o, none⟩ = W.cell? ⟨b, o, none⟩) ∧ (∀ b o, b < W.heap.size → w1.frozen? ⟨b, o, none⟩ = W.frozen? ⟨b, o, none⟩) :=
  ⟨fun b o h => hb.cell (p := ⟨b, o, none⟩) h, fun b o h => hb.frozen (p := ⟨b, o, none⟩) h⟩

set_option maxHeartbeats 400000 in
theorem f_any (x : Nat) (w : World) :
    Calls Tryz.prog 5 #[.int .u64 x] w fun e w' => e = .returned (.float .f64 x) ∧ w' = w := by
  have h2 := f64from
  go_enter Tryz.func5, Tryz.ntmps5
  go_wp2
  go_ret
  exact ⟨rfl, rfl⟩

def cmpOf (a b : Int) : Int := if a < b then -1 else if b < a then 1 else 0
set_option maxHeartbeats 400000 in
theorem layout64_any (w : World) :
    Calls Tryz.prog 56 #[] w fun e w' => e = .returned (.agg #[.int .i64 52, .int .u64 4503599627370495, .int .u64 2047, .int .u64 9223372036854775808, .int .u64 9218868437227405312, .int .u64 9221120237041090561, .int .i64 1075]) ∧ Below w.heap.size w w' := by
  go_enter Tryz.func56, Tryz.ntmps56
  go_wp2
  exact bodyPost_ret (v := .agg #[.int .i64 52, .int .u64 4503599627370495, .int .u64 2047, .int .u64 9223372036854775808, .int .u64 9218868437227405312, .int .u64 9221120237041090561, .int .i64 1075]) (by simp [results, Tryz.results56, go_sem]) rfl ⟨rfl, (Below.refl _ _).alloc (Nat.le_refl _) _⟩

set_option maxHeartbeats 400000 in
theorem canon_eq (x : Nat) (w : World) (hx : x < 18446744073709551616) :
    Calls Tryz.prog 55 #[.agg #[.int .i64 52, .int .u64 4503599627370495, .int .u64 2047, .int .u64 9223372036854775808, .int .u64 9218868437227405312, .int .u64 9221120237041090561, .int .i64 1075], .int .u64 x] w fun e w' => e = .returned (.int .u64 (canonOf x)) ∧ w' = w.alloc (.cells #[.int .i64 52, .int .u64 4503599627370495, .int .u64 2047, .int .u64 9223372036854775808, .int .u64 9218868437227405312, .int .u64 9221120237041090561, .int .i64 1075] 73) := by
  go_enter Tryz.func55, Tryz.ntmps55
  go_wp2
  · go_ret
    exact ⟨ret_int (canon_w1 hx ‹_›), rfl⟩
  · go_ret
    exact ⟨ret_int (canon_w2 hx ‹_›), rfl⟩
theorem canon_any (x : Nat) (w : World) (hx : x < 18446744073709551616) :
    Calls Tryz.prog 55 #[.agg #[.int .i64 52, .int .u64 4503599627370495, .int .u64 2047, .int .u64 9223372036854775808, .int .u64 9218868437227405312, .int .u64 9221120237041090561, .int .i64 1075], .int .u64 x] w fun e w' => e = .returned (.int .u64 (canonOf x)) ∧ Below w.heap.size w w' :=
  (canon_eq x w hx).mono fun _ _ h => ⟨h.1, by rw [h.2]; exact (Below.refl _ _).alloc (Nat.le_refl _) _⟩
end Go.Proofs.YtijadahpddmhjaaGreatDoor

namespace Go.Proofs.YtijadahpddmhjaaGreatDoor
open Go.RowKit

set_option maxHeartbeats 400000 in
theorem split64_any (x : Nat) (w : World) (hx : x < 18446744073709551616) :
    Calls Tryz.prog 85 #[.agg #[.int .i64 52, .int .u64 4503599627370495, .int .u64 2047, .int .u64 9223372036854775808, .int .u64 9218868437227405312, .int .u64 9221120237041090561, .int .i64 1075], .int .u64 x] w fun e w' => e = .returned (.tuple #[.bool (negOf x), .int .i64 (expOf x), .int .u64 (fracOf x)]) ∧ Below w.heap.size w w' := by
  go_enter Tryz.func85, Tryz.ntmps85
  go_wp2_with fail
  refine (canon_any x _ hx).mono ?_
  rintro e w1 ⟨rfl, hb⟩
  obtain ⟨hc, hf⟩ := bcell hb
  go_wp2_with fail
  go_quiet (fail)
  go_wp2
  go_ret3
  exact ⟨ret_bii (neg_w hx) (exp_w hx) (frac_w hx), bl_drewN _ (bl_alloc hb)⟩

set_option maxHeartbeats 400000 in
theorem Split_any (x : Nat) (w : World) (hx : x < 18446744073709551616) :
    Calls Tryz.prog 58 #[.float .f64 x] w fun e w' => e = .returned (.tuple #[.bool (negOf x), .int .i64 (expOf x), .int .u64 (fracOf x)]) ∧ Below w.heap.size w w' := by
  have h1 := f64bits
  go_enter Tryz.func58, Tryz.ntmps58
  go_wp2_with fail
  refine (layout64_any _).mono ?_
  rintro e w1 ⟨rfl, hb⟩
  go_wp2_with fail
  refine (split64_any x _ hx).mono ?_
  rintro e w2 ⟨rfl, hb2⟩
  go_wp2_with fail
  go_ret3
  exact ⟨rfl, bl_then hb hb2⟩

/-- The class that the fields tell. -/
def classN (x : Nat) : Nat := if expOf x = 2047 then (if fracOf x = 0 then 2 else 1) else if expOf x = 0 then (if fracOf x = 0 then 3 else 4) else 5
end Go.Proofs.YtijadahpddmhjaaGreatDoor

namespace Go.Proofs.YtijadahpddmhjaaGreatDoor
open Go.RowKit Go.IntWalk

set_option maxHeartbeats 400000 in
theorem Canon_any (x : Nat) (w : World) (hx : x < 18446744073709551616) :
    Calls Tryz.prog 31 #[.float .f64 x] w fun r w' => r = .returned (.float .f64 (canonOf x)) ∧ Below w.heap.size w w' := by
  have h1 := f64bits
  have h2 := f64from
  go_enter Tryz.func31, Tryz.ntmps31
  go_wp2_with fail
  refine (layout64_any _).mono ?_
  rintro r w1 ⟨rfl, hb⟩
  go_wp2_with fail
  refine (canon_any x _ hx).mono ?_
  rintro r w2 ⟨rfl, hb2⟩
  go_wp2_with fail
  go_ret
  exact ⟨rfl, bl_then hb hb2⟩
theorem f_add {x y z : Nat} (h : FloatKind.f64.format.add x y = some z) (w : World) : (binOp .add 23 (.float .f64 x) (.float .f64 y)).run Tryz.prog w = .ok (.float .f64 z) w := run_float_arith w .add _ .f64 x y z h
theorem f_sub {x y z : Nat} (h : FloatKind.f64.format.sub x y = some z) (w : World) : (binOp .sub 23 (.float .f64 x) (.float .f64 y)).run Tryz.prog w = .ok (.float .f64 z) w := run_float_arith w .sub _ .f64 x y z h
theorem f_mul {x y z : Nat} (h : FloatKind.f64.format.mul x y = some z) (w : World) : (binOp .mul 23 (.float .f64 x) (.float .f64 y)).run Tryz.prog w = .ok (.float .f64 z) w := run_float_arith w .mul _ .f64 x y z h
set_option maxHeartbeats 1000000 in
theorem Two_at (a b s t e1 e2 e3 e : Nat) (w : World) (h1 : FloatKind.f64.format.add a b = some s) (h2 : FloatKind.f64.format.sub s a = some t) (h3 : FloatKind.f64.format.sub s t = some e1) (h4 : FloatKind.f64.format.sub a e1 = some e2) (h5 : FloatKind.f64.format.sub b t = some e3) (h6 : FloatKind.f64.format.add e2 e3 = some e) (hs : s < 18446744073709551616) (he : e < 18446744073709551616) :
    Calls Tryz.prog 6 #[.float .f64 a, .float .f64 b] w fun r w' => r = .returned (.tuple #[.float .f64 (canonOf s), .float .f64 (canonOf e)]) ∧ Below w.heap.size w w' := by
  have g1 := f_add h1
  have g2 := f_sub h2
  have g3 := f_sub h3
  have g4 := f_sub h4
  have g5 := f_sub h5
  have g6 := f_add h6
  have HC1 := hid (fun (W : World) => Canon_any s W hs)
  have HC2 := hid (fun (W : World) => Canon_any e W he)
  obtain ⟨S, hS⟩ : ∃ S, Hid (canonOf s = S) := ⟨_, rfl⟩
  obtain ⟨E, hE⟩ : ∃ E, Hid (canonOf e = E) := ⟨_, rfl⟩
  rw [hS.out] at HC1 ⊢
  rw [hE.out] at HC2 ⊢
  clear h1 h2 h3 h4 h5 h6 hs he
  go_enter Tryz.func6, Tryz.ntmps6
  go_wp2_with fail
  refine (HC1.out _).mono ?_
  rintro r w1 ⟨rfl, hb1⟩
  have HB1 := hid hb1
  clear hb1
  go_wp2_with fail
  refine (HC2.out _).mono ?_
  rintro r w2 ⟨rfl, hb2⟩
  have HB2 := hid (HB1.out.trans (hb2.mono HB1.out.size))
  clear hb2
  go_wp2
  go_ret2
  exact ⟨rfl, HB2.out⟩
set_option maxHeartbeats 1000000 in
theorem Split_at (a c d h l : Nat) (w : World) (h1 : FloatKind.f64.format.mul 4728779608772575232 a = some c) (h2 : FloatKind.f64.format.sub c a = some d) (h3 : FloatKind.f64.format.sub c d = some h) (h4 : FloatKind.f64.format.sub a h = some l) (hs : h < 18446744073709551616) (he : l < 18446744073709551616) :
    Calls Tryz.prog 11 #[.float .f64 a] w fun r w' => r = .returned (.tuple #[.float .f64 (canonOf h), .float .f64 (canonOf l)]) ∧ Below w.heap.size w w' := by
  have g1 := f_mul h1
  have g2 := f_sub h2
  have g3 := f_sub h3
  have g4 := f_sub h4
  have HC1 := hid (fun (W : World) => Canon_any h W hs)
  have HC2 := hid (fun (W : World) => Canon_any l W he)
  obtain ⟨S, hS⟩ : ∃ S, Hid (canonOf h = S) := ⟨_, rfl⟩
  obtain ⟨E, hE⟩ : ∃ E, Hid (canonOf l = E) := ⟨_, rfl⟩
  rw [hS.out] at HC1 ⊢
  rw [hE.out] at HC2 ⊢
  clear h1 h2 h3 h4 hs he
  go_enter Tryz.func11, Tryz.ntmps11
  go_wp2_with fail
  refine (HC1.out _).mono ?_
  rintro r w1 ⟨rfl, hb1⟩
  have HB1 := hid hb1
  clear hb1
  go_wp2_with fail
  refine (HC2.out _).mono ?_
  rintro r w2 ⟨rfl, hb2⟩
  have HB2 := hid (HB1.out.trans (hb2.mono HB1.out.size))
  clear hb2
  go_wp2
  go_ret2
  exact ⟨rfl, HB2.out⟩
set_option maxHeartbeats 1000000 in
theorem Prod_at (a b p h l i k q1 q2 q3 q4 q5 q6 q7 e : Nat) (w : World) (h1 : FloatKind.f64.format.mul a b = some p)
    (hA : ∀ W, Calls Tryz.prog 11 #[.float .f64 a] W fun r w' => r = .returned (.tuple #[.float .f64 h, .float .f64 l]) ∧ Below W.heap.size W w')
    (hB : ∀ W, Calls Tryz.prog 11 #[.float .f64 b] W fun r w' => r = .returned (.tuple #[.float .f64 i, .float .f64 k]) ∧ Below W.heap.size W w')
    (h2 : FloatKind.f64.format.mul l k = some q1) (h3 : FloatKind.f64.format.mul h i = some q2) (h4 : FloatKind.f64.format.sub p q2 = some q3) (h5 : FloatKind.f64.format.mul l i = some q4) (h6 : FloatKind.f64.format.sub q3 q4 = some q5) (h7 : FloatKind.f64.format.mul h k = some q6) (h8 : FloatKind.f64.format.sub q5 q6 = some q7) (h9 : FloatKind.f64.format.sub q1 q7 = some e) (hs : p < 18446744073709551616) (he : e < 18446744073709551616) :
    Calls Tryz.prog 13 #[.float .f64 a, .float .f64 b] w fun r w' => r = .returned (.tuple #[.float .f64 (canonOf p), .float .f64 (canonOf e)]) ∧ Below w.heap.size w w' := by
  have g1 := f_mul h1
  have g2 := f_mul h2
  have g3 := f_mul h3
  have g4 := f_sub h4
  have g5 := f_mul h5
  have g6 := f_sub h6
  have g7 := f_mul h7
  have g8 := f_sub h8
  have g9 := f_sub h9
  have HA := hid hA
  have HBB := hid hB
  have HC1 := hid (fun (W : World) => Canon_any p W hs)
  have HC2 := hid (fun (W : World) => Canon_any e W he)
  obtain ⟨S, hS⟩ : ∃ S, Hid (canonOf p = S) := ⟨_, rfl⟩
  obtain ⟨E, hE⟩ : ∃ E, Hid (canonOf e = E) := ⟨_, rfl⟩
  rw [hS.out] at HC1 ⊢
  rw [hE.out] at HC2 ⊢
  clear h1 h2 h3 h4 h5 h6 h7 h8 h9 hs he hA hB
  go_enter Tryz.func13, Tryz.ntmps13
  go_wp2_with fail
  refine (HA.out _).mono ?_
  rintro r w1 ⟨rfl, hb1⟩
  have HB1 := hid hb1
  clear hb1
  go_wp2_with fail
  refine (HBB.out _).mono ?_
  rintro r w2 ⟨rfl, hb2⟩
  have HB2 := hid (HB1.out.trans (hb2.mono HB1.out.size))
  clear hb2
  go_wp2_with fail
  refine (HC1.out _).mono ?_
  rintro r w3 ⟨rfl, hb3⟩
  have HB3 := hid (HB2.out.trans (hb3.mono HB2.out.size))
  clear hb3
  go_wp2_with fail
  refine (HC2.out _).mono ?_
  rintro r w4 ⟨rfl, hb4⟩
  have HB4 := hid (HB3.out.trans (hb4.mono HB3.out.size))
  clear hb4
  go_wp2
  go_ret2
  exact ⟨rfl, HB4.out⟩
end Go.Proofs.YtijadahpddmhjaaGreatDoor
