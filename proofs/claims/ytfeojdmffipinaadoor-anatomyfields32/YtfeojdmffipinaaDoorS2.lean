
/- What the calls of layer 1 do with singles: fields. -/
import Derived.Test.YtfeojdmffipinaaDoorS1
import Derived.Test.YtfeojdmffipinaaDoorFieldsWalk
namespace Go.Proofs.YtfeojdmffipinaaDoor
open Go.RowKit Go.IntWalk

theorem ret_fi32 {a a' : Nat} {c c' : Int} (h1 : a = a') (h2 : c = c') : Ending.returned (.tuple #[.float .f32 a, .int .i64 c]) = .returned (.tuple #[.float .f32 a', .int .i64 c']) := by rw [h1, h2]
open Go.RowKit

theorem f64bits32 (b : Nat) (w : World) : (callFunc 54 #[.float .f32 b]).run Tryd.prog w = .ok (.value (.int .u32 b)) w := by
  rw [run_callFunc_extern Tryd.func54 (by kernel_rfl) (by kernel_rfl) (by kernel_rfl) (e := Extern.MathFloatBits.float32bits) (by kernel_rfl)]; rfl
theorem f64from32 (b : Nat) (w : World) : (callFunc 76 #[.int .u32 b]).run Tryd.prog w = .ok (.value (.float .f32 b)) w := by
  rw [run_callFunc_extern Tryd.func76 (by kernel_rfl) (by kernel_rfl) (by kernel_rfl) (e := Extern.MathFloatBits.float32frombits) (by kernel_rfl)]; rfl

open Go.RowKit Go.IntWalk

theorem f64fromI32 (n : Int) (w : World) : (callFunc 76 #[.int .u32 n]).run Tryd.prog w = .ok (.value (.float .f32 n.toNat)) w := by
  rw [run_callFunc_extern Tryd.func76 (by kernel_rfl) (by kernel_rfl) (by kernel_rfl) (e := Extern.MathFloatBits.float32frombits) (by kernel_rfl)]; rfl

set_option maxHeartbeats 400000 in
theorem f_any32 (x : Nat) (w : World) :
    Calls Tryd.prog 27 #[.int .u32 x] w fun e w' => e = .returned (.float .f32 x) ∧ w' = w := by
  have h2 := f64from32
  go_enter Tryd.func27, Tryd.ntmps27
  go_wp2
  go_ret
  exact ⟨rfl, rfl⟩

set_option maxHeartbeats 400000 in
theorem layout64_any32 (w : World) :
    Calls Tryd.prog 78 #[] w fun e w' => e = .returned (.agg #[.int .i64 23, .int .u32 8388607, .int .u32 255, .int .u32 2147483648, .int .u32 2139095040, .int .u32 2143289344, .int .i64 150]) ∧ Below w.heap.size w w' := by
  go_enter Tryd.func78, Tryd.ntmps78
  go_wp2
  exact bodyPost_ret (v := .agg #[.int .i64 23, .int .u32 8388607, .int .u32 255, .int .u32 2147483648, .int .u32 2139095040, .int .u32 2143289344, .int .i64 150]) (by simp [results, Tryd.results78, go_sem]) rfl ⟨rfl, (Below.refl _ _).alloc (Nat.le_refl _) _⟩

set_option maxHeartbeats 400000 in
theorem canon_eq32 (x : Nat) (w : World) (hx : x < 4294967296) :
    Calls Tryd.prog 83 #[.agg #[.int .i64 23, .int .u32 8388607, .int .u32 255, .int .u32 2147483648, .int .u32 2139095040, .int .u32 2143289344, .int .i64 150], .int .u32 x] w fun e w' => e = .returned (.int .u32 (canonOf32 x)) ∧ w' = w.alloc (.cells #[.int .i64 23, .int .u32 8388607, .int .u32 255, .int .u32 2147483648, .int .u32 2139095040, .int .u32 2143289344, .int .i64 150] 94) := by
  go_enter Tryd.func83, Tryd.ntmps83
  go_wp2
  · go_ret
    exact ⟨ret_int (canon_w132 hx ‹_›), rfl⟩
  · go_ret
    exact ⟨ret_int (canon_w232 hx ‹_›), rfl⟩
theorem canon_any32 (x : Nat) (w : World) (hx : x < 4294967296) :
    Calls Tryd.prog 83 #[.agg #[.int .i64 23, .int .u32 8388607, .int .u32 255, .int .u32 2147483648, .int .u32 2139095040, .int .u32 2143289344, .int .i64 150], .int .u32 x] w fun e w' => e = .returned (.int .u32 (canonOf32 x)) ∧ Below w.heap.size w w' :=
  (canon_eq32 x w hx).mono fun _ _ h => ⟨h.1, by rw [h.2]; exact (Below.refl _ _).alloc (Nat.le_refl _) _⟩
open Go.RowKit

set_option maxHeartbeats 400000 in
theorem split64_any32 (x : Nat) (w : World) (hx : x < 4294967296) :
    Calls Tryd.prog 77 #[.agg #[.int .i64 23, .int .u32 8388607, .int .u32 255, .int .u32 2147483648, .int .u32 2139095040, .int .u32 2143289344, .int .i64 150], .int .u32 x] w fun e w' => e = .returned (.tuple #[.bool (negOf32 x), .int .i64 (expOf32 x), .int .u32 (fracOf32 x)]) ∧ Below w.heap.size w w' := by
  go_enter Tryd.func77, Tryd.ntmps77
  go_wp2_with fail
  refine (canon_any32 x _ hx).mono ?_
  rintro e w1 ⟨rfl, hb⟩
  obtain ⟨hc, hf⟩ := bcell hb
  go_wp2_with fail
  go_quiet (fail)
  go_wp2
  go_ret3
  exact ⟨ret_bii (neg_w32 hx) (exp_w32 hx) (frac_w32 hx), bl_drewN _ (bl_alloc hb)⟩

set_option maxHeartbeats 400000 in
theorem Split_any32 (x : Nat) (w : World) (hx : x < 4294967296) :
    Calls Tryd.prog 28 #[.float .f32 x] w fun e w' => e = .returned (.tuple #[.bool (negOf32 x), .int .i64 (expOf32 x), .int .u32 (fracOf32 x)]) ∧ Below w.heap.size w w' := by
  have h1 := f64bits32
  go_enter Tryd.func28, Tryd.ntmps28
  go_wp2_with fail
  refine (layout64_any32 _).mono ?_
  rintro e w1 ⟨rfl, hb⟩
  go_wp2_with fail
  refine (split64_any32 x _ hx).mono ?_
  rintro e w2 ⟨rfl, hb2⟩
  go_wp2_with fail
  go_ret3
  exact ⟨rfl, bl_then hb hb2⟩

set_option maxHeartbeats 400000 in
theorem classOf_any32 (x : Nat) (w : World) (hx : x < 4294967296) :
    Calls Tryd.prog 82 #[.agg #[.int .i64 23, .int .u32 8388607, .int .u32 255, .int .u32 2147483648, .int .u32 2139095040, .int .u32 2143289344, .int .i64 150], .int .u32 x] w fun e w' => e = .returned (.int .i64 (classN32 x)) ∧ Below w.heap.size w w' := by
  go_enter Tryd.func82, Tryd.ntmps82
  go_wp2_with fail
  refine (split64_any32 x _ hx).mono ?_
  rintro e w1 ⟨rfl, hb⟩
  obtain ⟨hc, hf⟩ := bcell hb
  go_wp2
  all_goals (go_ret; refine ⟨ret_int ?_, bl_alloc hb⟩; clear hc hf hb; unfold classN32; simp_all; try (split <;> first | rfl | omega))

set_option maxHeartbeats 400000 in
theorem Class_any32 (x : Nat) (w : World) (hx : x < 4294967296) :
    Calls Tryd.prog 32 #[.float .f32 x] w fun e w' => e = .returned (.int .i64 (classN32 x)) ∧ Below w.heap.size w w' := by
  have h1 := f64bits32
  go_enter Tryd.func32, Tryd.ntmps32
  go_wp2_with fail
  refine (layout64_any32 _).mono ?_
  rintro e w1 ⟨rfl, hb⟩
  go_wp2_with fail
  refine (classOf_any32 x _ hx).mono ?_
  rintro e w2 ⟨rfl, hb2⟩
  go_wp2_with fail
  go_ret
  exact ⟨rfl, bl_then hb hb2⟩

set_option maxHeartbeats 400000 in
theorem Same_any32 (x y : Nat) (w : World) (hx : x < 4294967296) (hy : y < 4294967296) :
    Calls Tryd.prog 35 #[.float .f32 x, .float .f32 y] w fun e w' => e = .returned (.bool (canonOf32 x == canonOf32 y)) ∧ Below w.heap.size w w' := by
  have h1 := f64bits32
  go_enter Tryd.func35, Tryd.ntmps35
  go_wp2_with fail
  refine (layout64_any32 _).mono ?_
  rintro e w1 ⟨rfl, hb⟩
  go_wp2_with fail
  go_region_held3 (fun w' => w'.cell? ⟨w1.heap.size, 0, none⟩ = some (.int .i64 23) ∧ w'.cell? ⟨w1.heap.size, 1, none⟩ = some (.int .u32 8388607) ∧ w'.cell? ⟨w1.heap.size, 2, none⟩ = some (.int .u32 255) ∧ w'.cell? ⟨w1.heap.size, 3, none⟩ = some (.int .u32 2147483648) ∧ w'.cell? ⟨w1.heap.size, 4, none⟩ = some (.int .u32 2139095040) ∧ w'.cell? ⟨w1.heap.size, 5, none⟩ = some (.int .u32 2143289344) ∧ w'.cell? ⟨w1.heap.size, 6, none⟩ = some (.int .i64 150)) (go_keep)
    (first | (go_at_call 83; refine (canon_eq32 _ _ ?_).mono ?_; assumption; rintro e w' ⟨rfl, rfl⟩))
  all_goals go_wp2
  all_goals go_ret
  exact ⟨ret_bool (nat_beq _ _), ((((hb.alloc hb.size _).alloc (by have := hb.size; simp; omega) _).alloc (by have := hb.size; simp; omega) _)).drew⟩
set_option maxHeartbeats 400000 in
theorem signed_any32 (neg : Bool) (x : Nat) (w : World) (hx : x < 2147483648) :
    Calls Tryd.prog 109 #[.agg #[.int .i64 23, .int .u32 8388607, .int .u32 255, .int .u32 2147483648, .int .u32 2139095040, .int .u32 2143289344, .int .i64 150], .bool neg, .int .u32 x] w fun e w' => e = .returned (.int .u32 (signN32 neg x)) ∧ w' = w.alloc (.cells #[.int .i64 23, .int .u32 8388607, .int .u32 255, .int .u32 2147483648, .int .u32 2139095040, .int .u32 2143289344, .int .i64 150] 94) := by
  cases neg
  all_goals
    go_enter Tryd.func109, Tryd.ntmps109
    go_wp2
    go_ret
  · exact ⟨rfl, rfl⟩
  · exact ⟨ret_int (or_sign32 x hx), rfl⟩
set_option maxHeartbeats 400000 in
theorem bits_any32 (x : Nat) (w : World) (hx : x < 4294967296) :
    Calls Tryd.prog 79 #[.float .f32 x] w fun e w' => e = .returned (.int .u32 (canonOf32 x)) ∧ w' = w := by
  have h1 := f64bits32
  have ho := order_self32 x hx
  by_cases h : 2139095040 < x % 2147483648
  · rw [decide_eq_true h] at ho
    have H : Hid (2139095040 < x % 2147483648) := h
    clear h
    go_enter Tryd.func79, Tryd.ntmps79
    go_wp2
    go_ret
    exact ⟨ret_int (by unfold canonOf32; rw [if_pos H.out]; rfl), rfl⟩
  · rw [decide_eq_false h] at ho
    have H : Hid (¬ 2139095040 < x % 2147483648) := h
    clear h
    go_enter Tryd.func79, Tryd.ntmps79
    go_wp2
    go_ret
    exact ⟨ret_int (by unfold canonOf32; rw [if_neg H.out]), rfl⟩

set_option maxHeartbeats 400000 in
theorem same_any32 (x y : Nat) (w : World) (hy : y < 4294967296) :
    Calls Tryd.prog 34 #[.float .f32 x, .float .f32 y] w fun e w' => e = .returned (.bool (x == canonOf32 y)) ∧ w' = w := by
  have h1 := f64bits32
  go_enter Tryd.func34, Tryd.ntmps34
  go_wp2_with fail
  refine (bits_any32 y _ hy).mono ?_
  rintro e w' ⟨rfl, rfl⟩
  go_wp2_with fail
  go_ret
  exact ⟨ret_bool (nat_beq _ _), rfl⟩

set_option maxHeartbeats 400000 in
theorem rsplit_any32 (x : Nat) (w : World) (hx : x < 4294967296) :
    Calls Tryd.prog 29 #[.float .f32 x] w fun e w' => e = .returned (.tuple #[.bool (negOf32 x), .int .i64 (expOf32 x), .int .u32 (fracOf32 x)]) ∧ w' = w := by
  go_enter Tryd.func29, Tryd.ntmps29
  go_wp2_with fail
  refine (bits_any32 x _ hx).mono ?_
  rintro e w' ⟨rfl, rfl⟩
  go_wp2_with fail
  go_ret3
  exact ⟨ret_bii (neg_r32 hx) (exp_r32 hx) (frac_r32 x), rfl⟩

set_option maxHeartbeats 400000 in
theorem classify_any32 (x : Nat) (w : World) :
    Calls Tryd.prog 73 #[.int .i64 (expOf32 x), .int .u64 (fracOf32 x), .int .i64 255] w fun e w' => e = .returned (.int .i64 (classN32 x)) ∧ w' = w := by
  go_enter Tryd.func73, Tryd.ntmps73
  go_wp2
  all_goals (go_ret; refine ⟨ret_int ?_, rfl⟩; unfold classN32; simp_all; try (split <;> first | rfl | omega))
set_option maxHeartbeats 400000 in
theorem rclass_any32 (x : Nat) (w : World) (hx : x < 4294967296) :
    Calls Tryd.prog 33 #[.float .f32 x] w fun e w' => e = .returned (.int .i64 (classN32 x)) ∧ w' = w := by
  have hw : IntKind.u64.wrap (fracOf32 x : Int) = (fracOf32 x : Int) := by have := frac_lt32 x; rw [IntKind.wrap_u64]; omega
  go_enter Tryd.func33, Tryd.ntmps33
  go_wp2_with fail
  refine (rsplit_any32 x _ hx).mono ?_
  rintro e w' ⟨rfl, rfl⟩
  go_wp2_with fail
  refine (classify_any32 x _).mono ?_
  rintro e w' ⟨rfl, rfl⟩
  go_wp2_with fail
  go_ret
  exact ⟨rfl, rfl⟩
set_option maxHeartbeats 400000 in
theorem rcanon_any32 (x : Nat) (w : World) (hx : x < 4294967296) :
    Calls Tryd.prog 81 #[.float .f32 x] w fun e w' => e = .returned (.float .f32 (canonOf32 x)) ∧ w' = w := by
  have h2 := f64from32
  go_enter Tryd.func81, Tryd.ntmps81
  go_wp2_with fail
  refine (bits_any32 x _ hx).mono ?_
  rintro e w' ⟨rfl, rfl⟩
  go_wp2_with fail
  go_ret
  exact ⟨rfl, rfl⟩
set_option maxHeartbeats 400000 in
theorem rsame_any32 (x y : Nat) (w : World) (hx : x < 4294967296) (hy : y < 4294967296) :
    Calls Tryd.prog 36 #[.float .f32 x, .float .f32 y] w fun e w' => e = .returned (.bool (canonOf32 x == canonOf32 y)) ∧ w' = w := by
  go_enter Tryd.func36, Tryd.ntmps36
  go_wp2_with fail
  refine (bits_any32 x _ hx).mono ?_
  rintro e w' ⟨rfl, rfl⟩
  go_wp2_with fail
  refine (bits_any32 y _ hy).mono ?_
  rintro e w' ⟨rfl, rfl⟩
  go_wp2_with fail
  go_ret
  exact ⟨ret_bool (nat_beq _ _), rfl⟩
set_option maxHeartbeats 400000 in
theorem Canon_any32 (x : Nat) (w : World) (hx : x < 4294967296) :
    Calls Tryd.prog 37 #[.float .f32 x] w fun r w' => r = .returned (.float .f32 (canonOf32 x)) ∧ Below w.heap.size w w' := by
  have h1 := f64bits32
  have h2 := f64from32
  go_enter Tryd.func37, Tryd.ntmps37
  go_wp2_with fail
  refine (layout64_any32 _).mono ?_
  rintro r w1 ⟨rfl, hb⟩
  go_wp2_with fail
  refine (canon_any32 x _ hx).mono ?_
  rintro r w2 ⟨rfl, hb2⟩
  go_wp2_with fail
  go_ret
  exact ⟨rfl, bl_then hb hb2⟩

set_option maxHeartbeats 400000 in
theorem join_bad32 (neg : Bool) (e : Int) (f : Nat) (w : World) (h : joinBad32 e f) :
    Calls Tryd.prog 80 #[.agg #[.int .i64 23, .int .u32 8388607, .int .u32 255, .int .u32 2147483648, .int .u32 2139095040, .int .u32 2143289344, .int .i64 150], .bool neg, .int .i64 e, .int .u32 f] w fun r w' => r = .returned (.tuple #[.int .u32 0, .int .i64 1]) ∧ Below w.heap.size w w' := by
  rcases h with h | h
  · go_enter Tryd.func80, Tryd.ntmps80
    go_wp2
    go_ret2
    exact ⟨rfl, (Below.refl _ _).alloc (Nat.le_refl _) _⟩
  · by_cases h0 : e < 0
    · clear h
      go_enter Tryd.func80, Tryd.ntmps80
      go_wp2
      go_ret2
      exact ⟨rfl, (Below.refl _ _).alloc (Nat.le_refl _) _⟩
    · by_cases h1 : 255 < e
      · clear h
        go_enter Tryd.func80, Tryd.ntmps80
        go_wp2
        go_ret2
        exact ⟨rfl, (Below.refl _ _).alloc (Nat.le_refl _) _⟩
      · have h2 : (8388607 : Int) < (f : Int) := by omega
        clear h
        go_enter Tryd.func80, Tryd.ntmps80
        go_wp2
        go_ret2
        exact ⟨rfl, (Below.refl _ _).alloc (Nat.le_refl _) _⟩
set_option maxHeartbeats 400000 in
theorem join_ok32 (neg : Bool) (X f : Nat) (w : World) (hX : X < 256) (hf : f < 8388608) :
    Calls Tryd.prog 80 #[.agg #[.int .i64 23, .int .u32 8388607, .int .u32 255, .int .u32 2147483648, .int .u32 2139095040, .int .u32 2143289344, .int .i64 150], .bool neg, .int .i64 X, .int .u32 f] w fun r w' => r = .returned (.tuple #[.int .u32 (canonOf32 (signN32 neg (packN32 X f))), .int .i64 0]) ∧ Below w.heap.size w w' := by
  have HP : Hid (bits .or .u32 (IntKind.u32.wrap (IntKind.u32.wrap (X : Int) * 8388608)) (f : Int) = (packN32 X f : Int)) := pack_w32 X f hX hf
  have HPL : Hid (packN32 X f < 2147483648) := pack_lt32 X f hX hf
  have HSL : Hid (signN32 neg (packN32 X f) < 4294967296) := sign_lt32 (pack_lt32 X f hX hf)
  have hX2 : (X : Int) ≤ 255 := by omega
  have hf2 : (f : Int) ≤ 8388607 := by omega
  clear hX hf
  go_enter Tryd.func80, Tryd.ntmps80
  go_wp2_with fail
  go_region_held3 (fun w' => (w'.cell? ⟨w.heap.size, 0, none⟩ = some (.int .i64 23) ∧ w'.cell? ⟨w.heap.size, 1, none⟩ = some (.int .u32 8388607) ∧ w'.cell? ⟨w.heap.size, 2, none⟩ = some (.int .u32 255) ∧ w'.cell? ⟨w.heap.size, 3, none⟩ = some (.int .u32 2147483648) ∧ w'.cell? ⟨w.heap.size, 4, none⟩ = some (.int .u32 2139095040) ∧ w'.cell? ⟨w.heap.size, 5, none⟩ = some (.int .u32 2143289344) ∧ w'.cell? ⟨w.heap.size, 6, none⟩ = some (.int .i64 150))) (go_keep)
    (first | (go_at_call 109; rw [HP.out]; refine (signed_any32 neg (packN32 X f) _ HPL.out).mono ?_; rintro r w' ⟨rfl, rfl⟩) | (go_at_call 83; refine (canon_eq32 (signN32 neg (packN32 X f)) _ HSL.out).mono ?_; rintro r w' ⟨rfl, rfl⟩))
  go_wp2
  go_ret2
  refine ⟨rfl, ?_⟩
  repeat (first | exact Below.refl _ _ | refine bl_al ?_ _ | refine bl_drewN _ ?_ | refine Below.drew ?_)
theorem join_any32 (neg : Bool) (e : Int) (f : Nat) (w : World) :
    Calls Tryd.prog 80 #[.agg #[.int .i64 23, .int .u32 8388607, .int .u32 255, .int .u32 2147483648, .int .u32 2139095040, .int .u32 2143289344, .int .i64 150], .bool neg, .int .i64 e, .int .u32 f] w fun r w' => r = .returned (.tuple #[.int .u32 (joinOf32 neg e f), .int .i64 (joinErr32 e f)]) ∧ Below w.heap.size w w' := by
  unfold joinOf32 joinErr32
  by_cases h : joinBad32 e f
  · rw [if_pos h, if_pos h]; exact join_bad32 neg e f w h
  · rw [if_neg h, if_neg h]
    unfold joinBad32 at h
    obtain ⟨X, rfl⟩ := Int.eq_ofNat_of_zero_le (show 0 ≤ e by omega)
    exact join_ok32 neg X f w (by omega) (by omega)
set_option maxHeartbeats 400000 in
theorem Join_any32 (neg : Bool) (e : Int) (f : Nat) (w : World) :
    Calls Tryd.prog 30 #[.bool neg, .int .i64 e, .int .u32 f] w fun r w' => r = .returned (.tuple #[.float .f32 (joinOf32 neg e f), .int .i64 (joinErr32 e f)]) ∧ Below w.heap.size w w' := by
  have h2 := f64from32
  go_enter Tryd.func30, Tryd.ntmps30
  go_wp2_with fail
  refine (layout64_any32 _).mono ?_
  rintro r w1 ⟨rfl, hb⟩
  go_wp2_with fail
  refine (join_any32 neg e f _).mono ?_
  rintro r w2 ⟨rfl, hb2⟩
  go_wp2_with fail
  go_ret2
  exact ⟨rfl, bl_then hb hb2⟩
set_option maxHeartbeats 400000 in
theorem rjoin_bad32 (neg : Bool) (e : Int) (f : Nat) (w : World) (h : joinBad32 e f) :
    Calls Tryd.prog 31 #[.bool neg, .int .i64 e, .int .u32 f] w fun r w' => r = .returned (.tuple #[.float .f32 0, .int .i64 1]) ∧ w' = w := by
  unfold joinBad32 at h
  by_cases h0 : e < 0
  · clear h
    go_enter Tryd.func31, Tryd.ntmps31
    go_wp2
    go_ret2
    exact ⟨rfl, rfl⟩
  · by_cases h1 : 255 < e
    · clear h
      go_enter Tryd.func31, Tryd.ntmps31
      go_wp2
      go_ret2
      exact ⟨rfl, rfl⟩
    · have h2 : (8388608 : Int) ≤ (f : Int) := by omega
      clear h
      go_enter Tryd.func31, Tryd.ntmps31
      go_wp2
      go_ret2
      exact ⟨rfl, rfl⟩
set_option maxHeartbeats 400000 in
theorem rjoin_ok32 (neg : Bool) (X f : Nat) (w : World) (hX : X < 256) (hf : f < 8388608) :
    Calls Tryd.prog 31 #[.bool neg, .int .i64 X, .int .u32 f] w fun r w' => r = .returned (.tuple #[.float .f32 (canonOf32 (signN32 neg (packN32 X f))), .int .i64 0]) ∧ w' = w := by
  have h1 := f64fromI32
  have HX := hid hX
  have HF := hid hf
  have hX2 : (X : Int) ≤ 255 := by omega
  have hf2 : (f : Int) ≤ 8388607 := by omega
  clear hX hf
  cases neg
  all_goals
    go_enter Tryd.func31, Tryd.ntmps31
    go_wp2_with fail
  · refine (rcanon_any32 (packN32 X f) _ (Nat.lt_trans (pack_lt32 X f HX.out HF.out) (by decide))).mono ?_
    rintro r w' ⟨rfl, rfl⟩
    go_wp2_with fail
    go_ret2
    exact ⟨ret_fi32 (by rw [signN_false32]) rfl, rfl⟩
  · refine (rcanon_any32 (packN32 X f + 2147483648) _ (by have := pack_lt32 X f HX.out HF.out; omega)).mono ?_
    rintro r w' ⟨rfl, rfl⟩
    go_wp2_with fail
    go_ret2
    exact ⟨ret_fi32 rfl rfl, rfl⟩
theorem rjoin_any32 (neg : Bool) (e : Int) (f : Nat) (w : World) :
    Calls Tryd.prog 31 #[.bool neg, .int .i64 e, .int .u32 f] w fun r w' => r = .returned (.tuple #[.float .f32 (joinOf32 neg e f), .int .i64 (joinErr32 e f)]) ∧ w' = w := by
  unfold joinOf32 joinErr32
  by_cases h : joinBad32 e f
  · rw [if_pos h, if_pos h]; exact rjoin_bad32 neg e f w h
  · rw [if_neg h, if_neg h]
    unfold joinBad32 at h
    obtain ⟨X, rfl⟩ := Int.eq_ofNat_of_zero_le (show 0 ≤ e by omega)
    exact rjoin_ok32 neg X f w (by omega) (by omega)
end Go.Proofs.YtfeojdmffipinaaDoor
