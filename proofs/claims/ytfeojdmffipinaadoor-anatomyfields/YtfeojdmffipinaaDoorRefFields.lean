
/- What Join, Canon and the document's Split, Class, Canon, Same and Join do. -/
import Derived.Test.YtfeojdmffipinaaDoorSplit
import Derived.Test.YtfeojdmffipinaaDoorPlaces
import Derived.Test.YtfeojdmffipinaaDoorZeros
namespace Go.Proofs.YtfeojdmffipinaaDoor
open Go.RowKit Go.IntWalk

theorem neg_r {x : Nat} (hx : x < 18446744073709551616) : ((canonOf x : Int) / 9223372036854775808 == 1) = negOf x := by
  have hl := canon_lt hx
  unfold negOf
  rw [Bool.eq_iff_iff, beq_iff_eq, decide_eq_true_eq]
  omega
theorem exp_r {x : Nat} (hx : x < 18446744073709551616) : (canonOf x : Int) / 4503599627370496 % 2048 = (expOf x : Int) := by
  have hl := canon_lt hx
  unfold expOf
  omega
theorem frac_r (x : Nat) : (canonOf x : Int) % 4503599627370496 = (fracOf x : Int) := by
  unfold fracOf
  omega

set_option maxHeartbeats 400000 in
theorem rsplit_any (x : Nat) (w : World) (hx : x < 18446744073709551616) :
    Calls Tryd.prog 18 #[.float .f64 x] w fun e w' => e = .returned (.tuple #[.bool (negOf x), .int .i64 (expOf x), .int .u64 (fracOf x)]) ∧ w' = w := by
  go_enter Tryd.func18, Tryd.ntmps18
  go_wp2_with fail
  refine (bits_any x _ hx).mono ?_
  rintro e w' ⟨rfl, rfl⟩
  go_wp2_with fail
  go_ret3
  exact ⟨ret_bii (neg_r hx) (exp_r hx) (frac_r x), rfl⟩

set_option maxHeartbeats 400000 in
theorem classify_any (x : Nat) (w : World) :
    Calls Tryd.prog 73 #[.int .i64 (expOf x), .int .u64 (fracOf x), .int .i64 2047] w fun e w' => e = .returned (.int .i64 (classN x)) ∧ w' = w := by
  go_enter Tryd.func73, Tryd.ntmps73
  go_wp2
  all_goals (go_ret; refine ⟨ret_int ?_, rfl⟩; unfold classN; simp_all; try (split <;> first | rfl | omega))
set_option maxHeartbeats 400000 in
theorem rclass_any (x : Nat) (w : World) (hx : x < 18446744073709551616) :
    Calls Tryd.prog 21 #[.float .f64 x] w fun e w' => e = .returned (.int .i64 (classN x)) ∧ w' = w := by
  go_enter Tryd.func21, Tryd.ntmps21
  go_wp2_with fail
  refine (rsplit_any x _ hx).mono ?_
  rintro e w' ⟨rfl, rfl⟩
  go_wp2_with fail
  refine (classify_any x _).mono ?_
  rintro e w' ⟨rfl, rfl⟩
  go_wp2_with fail
  go_ret
  exact ⟨rfl, rfl⟩
set_option maxHeartbeats 400000 in
theorem rcanon_any (x : Nat) (w : World) (hx : x < 18446744073709551616) :
    Calls Tryd.prog 71 #[.float .f64 x] w fun e w' => e = .returned (.float .f64 (canonOf x)) ∧ w' = w := by
  have h2 := f64from
  go_enter Tryd.func71, Tryd.ntmps71
  go_wp2_with fail
  refine (bits_any x _ hx).mono ?_
  rintro e w' ⟨rfl, rfl⟩
  go_wp2_with fail
  go_ret
  exact ⟨rfl, rfl⟩
set_option maxHeartbeats 400000 in
theorem rsame_any (x y : Nat) (w : World) (hx : x < 18446744073709551616) (hy : y < 18446744073709551616) :
    Calls Tryd.prog 23 #[.float .f64 x, .float .f64 y] w fun e w' => e = .returned (.bool (canonOf x == canonOf y)) ∧ w' = w := by
  go_enter Tryd.func23, Tryd.ntmps23
  go_wp2_with fail
  refine (bits_any x _ hx).mono ?_
  rintro e w' ⟨rfl, rfl⟩
  go_wp2_with fail
  refine (bits_any y _ hy).mono ?_
  rintro e w' ⟨rfl, rfl⟩
  go_wp2_with fail
  go_ret
  exact ⟨ret_bool (nat_beq _ _), rfl⟩
set_option maxHeartbeats 400000 in
theorem Canon_any (x : Nat) (w : World) (hx : x < 18446744073709551616) :
    Calls Tryd.prog 24 #[.float .f64 x] w fun r w' => r = .returned (.float .f64 (canonOf x)) ∧ Below w.heap.size w w' := by
  have h1 := f64bits
  have h2 := f64from
  go_enter Tryd.func24, Tryd.ntmps24
  go_wp2_with fail
  refine (layout64_any _).mono ?_
  rintro r w1 ⟨rfl, hb⟩
  go_wp2_with fail
  refine (canon_any x _ hx).mono ?_
  rintro r w2 ⟨rfl, hb2⟩
  go_wp2_with fail
  go_ret
  exact ⟨rfl, bl_then hb hb2⟩

/-- The bits of three fields, and the error's number. -/
abbrev joinBad (e : Int) (f : Nat) : Prop := e < 0 ∨ 2047 < e ∨ 4503599627370495 < f
def joinOf (neg : Bool) (e : Int) (f : Nat) : Nat := if joinBad e f then 0 else canonOf (signN neg (packN e.toNat f))
def joinErr (e : Int) (f : Nat) : Int := if joinBad e f then 1 else 0
theorem sign_lt {neg : Bool} {m : Nat} (h : m < 9223372036854775808) : signN neg m < 18446744073709551616 := by unfold signN; split <;> omega

set_option maxHeartbeats 400000 in
theorem join_bad (neg : Bool) (e : Int) (f : Nat) (w : World) (h : joinBad e f) :
    Calls Tryd.prog 65 #[.agg #[.int .i64 52, .int .u64 4503599627370495, .int .u64 2047, .int .u64 9223372036854775808, .int .u64 9218868437227405312, .int .u64 9221120237041090561, .int .i64 1075], .bool neg, .int .i64 e, .int .u64 f] w fun r w' => r = .returned (.tuple #[.int .u64 0, .int .i64 1]) ∧ Below w.heap.size w w' := by
  rcases h with h | h
  · go_enter Tryd.func65, Tryd.ntmps65
    go_wp2
    go_ret2
    exact ⟨rfl, (Below.refl _ _).alloc (Nat.le_refl _) _⟩
  · by_cases h0 : e < 0
    · clear h
      go_enter Tryd.func65, Tryd.ntmps65
      go_wp2
      go_ret2
      exact ⟨rfl, (Below.refl _ _).alloc (Nat.le_refl _) _⟩
    · by_cases h1 : 2047 < e
      · clear h
        go_enter Tryd.func65, Tryd.ntmps65
        go_wp2
        go_ret2
        exact ⟨rfl, (Below.refl _ _).alloc (Nat.le_refl _) _⟩
      · have h2 : (4503599627370495 : Int) < (f : Int) := by omega
        clear h
        go_enter Tryd.func65, Tryd.ntmps65
        go_wp2
        go_ret2
        exact ⟨rfl, (Below.refl _ _).alloc (Nat.le_refl _) _⟩
set_option maxHeartbeats 400000 in
theorem join_ok (neg : Bool) (X f : Nat) (w : World) (hX : X < 2048) (hf : f < 4503599627370496) :
    Calls Tryd.prog 65 #[.agg #[.int .i64 52, .int .u64 4503599627370495, .int .u64 2047, .int .u64 9223372036854775808, .int .u64 9218868437227405312, .int .u64 9221120237041090561, .int .i64 1075], .bool neg, .int .i64 X, .int .u64 f] w fun r w' => r = .returned (.tuple #[.int .u64 (canonOf (signN neg (packN X f))), .int .i64 0]) ∧ Below w.heap.size w w' := by
  have HP : Hid (bits .or .u64 (IntKind.u64.wrap (IntKind.u64.wrap (X : Int) * 4503599627370496)) (f : Int) = (packN X f : Int)) := pack_w X f hX hf
  have HPL : Hid (packN X f < 9223372036854775808) := pack_lt X f hX hf
  have HSL : Hid (signN neg (packN X f) < 18446744073709551616) := sign_lt (pack_lt X f hX hf)
  have hX2 : (X : Int) ≤ 2047 := by omega
  have hf2 : (f : Int) ≤ 4503599627370495 := by omega
  clear hX hf
  go_enter Tryd.func65, Tryd.ntmps65
  go_wp2_with fail
  go_region_held3 (fun w' => (w'.cell? ⟨w.heap.size, 0, none⟩ = some (.int .i64 52) ∧ w'.cell? ⟨w.heap.size, 1, none⟩ = some (.int .u64 4503599627370495) ∧ w'.cell? ⟨w.heap.size, 2, none⟩ = some (.int .u64 2047) ∧ w'.cell? ⟨w.heap.size, 3, none⟩ = some (.int .u64 9223372036854775808) ∧ w'.cell? ⟨w.heap.size, 4, none⟩ = some (.int .u64 9218868437227405312) ∧ w'.cell? ⟨w.heap.size, 5, none⟩ = some (.int .u64 9221120237041090561) ∧ w'.cell? ⟨w.heap.size, 6, none⟩ = some (.int .i64 1075))) (go_keep)
    (first | (go_at_call 105; rw [HP.out]; refine (signed_any neg (packN X f) _ HPL.out).mono ?_; rintro r w' ⟨rfl, rfl⟩) | (go_at_call 74; refine (canon_eq (signN neg (packN X f)) _ HSL.out).mono ?_; rintro r w' ⟨rfl, rfl⟩))
  go_wp2
  go_ret2
  refine ⟨rfl, ?_⟩
  repeat (first | exact Below.refl _ _ | refine bl_al ?_ _ | refine bl_drewN _ ?_ | refine Below.drew ?_)
theorem join_any (neg : Bool) (e : Int) (f : Nat) (w : World) :
    Calls Tryd.prog 65 #[.agg #[.int .i64 52, .int .u64 4503599627370495, .int .u64 2047, .int .u64 9223372036854775808, .int .u64 9218868437227405312, .int .u64 9221120237041090561, .int .i64 1075], .bool neg, .int .i64 e, .int .u64 f] w fun r w' => r = .returned (.tuple #[.int .u64 (joinOf neg e f), .int .i64 (joinErr e f)]) ∧ Below w.heap.size w w' := by
  unfold joinOf joinErr
  by_cases h : joinBad e f
  · rw [if_pos h, if_pos h]; exact join_bad neg e f w h
  · rw [if_neg h, if_neg h]
    unfold joinBad at h
    obtain ⟨X, rfl⟩ := Int.eq_ofNat_of_zero_le (show 0 ≤ e by omega)
    exact join_ok neg X f w (by omega) (by omega)
set_option maxHeartbeats 400000 in
theorem Join_any (neg : Bool) (e : Int) (f : Nat) (w : World) :
    Calls Tryd.prog 10 #[.bool neg, .int .i64 e, .int .u64 f] w fun r w' => r = .returned (.tuple #[.float .f64 (joinOf neg e f), .int .i64 (joinErr e f)]) ∧ Below w.heap.size w w' := by
  have h2 := f64from
  go_enter Tryd.func10, Tryd.ntmps10
  go_wp2_with fail
  refine (layout64_any _).mono ?_
  rintro r w1 ⟨rfl, hb⟩
  go_wp2_with fail
  refine (join_any neg e f _).mono ?_
  rintro r w2 ⟨rfl, hb2⟩
  go_wp2_with fail
  go_ret2
  exact ⟨rfl, bl_then hb hb2⟩
end Go.Proofs.YtfeojdmffipinaaDoor
