
/- What convert's theNaN, multiplication and Mul do. -/
import Derived.Test.YtdhifmkfdpbpcaaDoorFlip
namespace Go.Proofs.YtdhifmkfdpbpcaaDoor
open Go.RowKit Go.IntWalk

/-- A float operation without an answer gives some NaN. -/
theorem nan_arith (op : BinOp) (x y : Nat) (hop : op = .add ∨ op = .sub ∨ op = .mul ∨ op = .quo) (h : floatBits op .f64 x y = none) : ∃ f : World → Nat, (∀ w, f w < 18446744073709551616 ∧ 9218868437227405312 < f w % 9223372036854775808) ∧ ∀ (t : TypeId) (w : World), (binOp op t (.float .f64 x) (.float .f64 y)).run Tryd.prog w = .ok (.float .f64 (f w)) w.drew := by
  refine ⟨fun w => (Question.nanBits .f64 x y).cut (w.tape w.drawn (Question.nanBits .f64 x y)), fun w => ?_, fun t w => ?_⟩
  · show (_ % 2) * 2 ^ 63 + 0x7ff0000000000000 + 1 + (_ / 2) % (2 ^ 52 - 1) < 18446744073709551616 ∧ 9218868437227405312 < ((_ % 2) * 2 ^ 63 + 0x7ff0000000000000 + 1 + (_ / 2) % (2 ^ 52 - 1)) % 9223372036854775808
    exact nan_form64 _ _ (Nat.mod_lt _ (by decide)) (Nat.mod_lt _ (by decide))
  · unfold floatBits at h
    rcases hop with rfl | rfl | rfl | rfl <;> simp only at h <;> simp [binOp, Op.floatArith, h, Question.forced]
set_option maxHeartbeats 400000 in
theorem nan_lib (w : World) : Calls Tryd.prog 70 #[] w fun r w' => r = .returned (.float .f64 9221120237041090561) ∧ w' = w := by
  have h2 := f64fromI'
  go_enter Tryd.func70, Tryd.ntmps70
  go_wp2
  go_ret
  exact ⟨rfl, rfl⟩
set_option maxHeartbeats 400000 in
theorem theNaN_any (w : World) : Calls Tryd.prog 57 #[] w fun r w' => r = .returned (.float .f32 2143289344) ∧ Below w.heap.size w w' := by
  obtain ⟨f, hf, hc⟩ := narrow_nan_run 9221120237041090561 (by decide)
  have HF := hid hf
  clear hf
  go_enter Tryd.func57, Tryd.ntmps57
  go_wp2_with fail
  refine (nan_lib _).mono ?_
  rintro r w1 ⟨rfl, rfl⟩
  go_wp2_with fail
  refine (Canon_any32 (f w1) _ (HF.out w1).1).mono ?_
  rintro e w3 ⟨rfl, hb3⟩
  have hcn : canonOf32 (f w1) = 2143289344 := by unfold canonOf32; rw [if_pos (HF.out w1).2]
  rw [hcn]
  go_wp2
  go_ret
  exact ⟨rfl, ⟨hb3.os, hb3.tape, hb3.output, hb3.size, hb3.block⟩⟩
set_option maxHeartbeats 400000 in
theorem mult_some (A B p : Nat) (mode : Int) (w : World) (hp : p < 18446744073709551616) (hn : p % 9223372036854775808 ≤ 9218868437227405312) (h : FloatKind.f64.format.mul A B = some p) (hT : Tab w) (hs : 1 < w.heap.size) :
    Calls Tryd.prog 34 #[.float .f64 A, .float .f64 B, .int .i64 mode] w fun e w' => e = .returned (.tuple #[.float .f32 (narrowOf p mode), .int .i64 (narrowFl p mode)]) ∧ Below w.heap.size w w' := by
  have ha : ∀ w : World, (binOp .mul 30 (.float .f64 A) (.float .f64 B)).run Tryd.prog w = .ok (.float .f64 p) w := fun w => run_float_arith w .mul _ .f64 A B p h
  have HI := hid (fun (w : World) => isnan_any p w hp)
  rw [decide_eq_false (by omega)] at HI
  have HN := hid (narrow_any p mode w hp hT hs)
  obtain ⟨X, HX⟩ : ∃ X, Hid (narrowOf p mode = X) := ⟨_, rfl⟩
  obtain ⟨Y, HY⟩ : ∃ Y, Hid (narrowFl p mode = Y) := ⟨_, rfl⟩
  rw [HX.out, HY.out] at HN ⊢
  clear h hn hp
  go_enter Tryd.func34, Tryd.ntmps34
  go_wp2_with fail
  refine (HI.out _).mono ?_
  rintro r w1 ⟨rfl, rfl⟩
  go_wp2_with fail
  refine HN.out.mono ?_
  rintro r w2 ⟨rfl, hb⟩
  go_wp2
  go_ret2
  exact ⟨rfl, hb⟩
set_option maxHeartbeats 400000 in
theorem mult_bad (A B : Nat) (mode : Int) (w : World) (hA : A < 18446744073709551616) (hB : B < 18446744073709551616) (nA : A % 9223372036854775808 ≤ 9218868437227405312) (nB : B % 9223372036854775808 ≤ 9218868437227405312) (h : FloatKind.f64.format.mul A B = none) :
    Calls Tryd.prog 34 #[.float .f64 A, .float .f64 B, .int .i64 mode] w fun e w' => e = .returned (.tuple #[.float .f32 2143289344, .int .i64 8]) ∧ Below w.heap.size w w' := by
  obtain ⟨f, hf, ha⟩ := nan_arith .mul A B (by simp) h
  have HF := hid hf
  have H1 := hid (fun (w : World) => isnan_any A w hA)
  have H2 := hid (fun (w : World) => isnan_any B w hB)
  rw [decide_eq_false (by omega)] at H1 H2
  have H3 := hid (fun (v w : World) => isnan_any (f v) w (hf v).1)
  clear h nA nB hA hB hf
  go_enter Tryd.func34, Tryd.ntmps34
  go_wp2_with fail
  refine (H3.out w _).mono ?_
  rw [decide_eq_true (HF.out w).2]
  rintro r w1 ⟨rfl, rfl⟩
  go_wp2_with fail
  refine (H1.out _).mono ?_
  rintro r w1 ⟨rfl, rfl⟩
  go_wp2_with fail
  refine (H2.out _).mono ?_
  rintro r w1 ⟨rfl, rfl⟩
  go_wp2_with fail
  refine (theNaN_any _).mono ?_
  rintro r w2 ⟨rfl, hb⟩
  go_wp2
  go_ret2
  exact ⟨rfl, ⟨hb.os, hb.tape, hb.output, hb.size, hb.block⟩⟩
set_option maxHeartbeats 400000 in
theorem mult_nan (A B : Nat) (mode : Int) (w : World) (hA : A < 18446744073709551616) (hB : B < 18446744073709551616) (hn : 9218868437227405312 < A % 9223372036854775808 ∨ 9218868437227405312 < B % 9223372036854775808) (hT : Tab w) (hs : 1 < w.heap.size) :
    Calls Tryd.prog 34 #[.float .f64 A, .float .f64 B, .int .i64 mode] w fun e w' => e = .returned (.tuple #[.float .f32 2143289344, .int .i64 0]) ∧ Below w.heap.size w w' := by
  obtain ⟨f, hf, ha⟩ := nan_arith .mul A B (by simp) (mul_nan A B hn)
  have HF := hid hf
  have H1 := hid (fun (w : World) => isnan_any A w hA)
  have H2 := hid (fun (w : World) => isnan_any B w hB)
  have H3 := hid (fun (v w : World) => isnan_any (f v) w (hf v).1)
  have hN : ∀ w v, Tab w → 1 < w.heap.size → Calls Tryd.prog 32 #[.float .f64 (f v), .int .i64 mode] w fun e w' => e = .returned (.tuple #[.float .f32 2143289344, .int .i64 0]) ∧ Below w.heap.size w w' := by
    intro w v hT hs
    have e1 : narrowOf (f v) mode = 2143289344 := by unfold narrowOf; rw [if_pos (hf v).2]
    have e2 : narrowFl (f v) mode = 0 := by unfold narrowFl; rw [if_pos (Or.inl (Nat.le_of_lt (hf v).2))]
    have := narrow_any (f v) mode w (hf v).1 hT hs
    rw [e1, e2] at this
    exact this
  have HN := hid hN
  clear hA hB hf hN
  have hTd : Tab w.drew := fun j hj => hT j hj
  by_cases h1 : 9218868437227405312 < A % 9223372036854775808
  · rw [decide_eq_true h1] at H1
    clear hn h1
    go_enter Tryd.func34, Tryd.ntmps34
    go_wp2_with fail
    refine (H3.out w _).mono ?_
    rw [decide_eq_true (HF.out w).2]
    rintro r w1 ⟨rfl, rfl⟩
    go_wp2_with fail
    refine (H1.out _).mono ?_
    rintro r w1 ⟨rfl, rfl⟩
    go_wp2_with fail
    refine (HN.out _ w hTd hs).mono ?_
    rintro r w2 ⟨rfl, hb⟩
    go_wp2
    go_ret2
    exact ⟨rfl, ⟨hb.os, hb.tape, hb.output, hb.size, hb.block⟩⟩
  · have h2 : 9218868437227405312 < B % 9223372036854775808 := by
      rcases hn with hn | hn
      · exact absurd hn h1
      · exact hn
    rw [decide_eq_false h1] at H1
    rw [decide_eq_true h2] at H2
    clear hn h1 h2
    go_enter Tryd.func34, Tryd.ntmps34
    go_wp2_with fail
    refine (H3.out w _).mono ?_
    rw [decide_eq_true (HF.out w).2]
    rintro r w1 ⟨rfl, rfl⟩
    go_wp2_with fail
    refine (H1.out _).mono ?_
    rintro r w1 ⟨rfl, rfl⟩
    go_wp2_with fail
    refine (H2.out _).mono ?_
    rintro r w1 ⟨rfl, rfl⟩
    go_wp2_with fail
    refine (HN.out _ w hTd hs).mono ?_
    rintro r w2 ⟨rfl, hb⟩
    go_wp2
    go_ret2
    exact ⟨rfl, ⟨hb.os, hb.tape, hb.output, hb.size, hb.block⟩⟩
end Go.Proofs.YtdhifmkfdpbpcaaDoor
