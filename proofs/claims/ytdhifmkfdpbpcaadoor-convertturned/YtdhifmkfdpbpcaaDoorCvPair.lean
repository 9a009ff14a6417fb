
/- What convert's Mul, Div do with what multiplication and division answer; the law's own small calls. -/
import Derived.Test.YtdhifmkfdpbpcaaDoorCvMul
namespace Go.Proofs.YtdhifmkfdpbpcaaDoor
open Go.RowKit Go.IntWalk

set_option maxHeartbeats 400000 in
theorem Mul_core (a b X : Nat) (mode Y : Int) (w : World) (ha : a < 4294967296) (hb : b < 4294967296) (hm1 : 0 ≤ mode) (hm2 : mode ≤ 4) (hT : Tab w) (hs : 1 < w.heap.size)
    (h : ∀ w, Tab w → 1 < w.heap.size → Calls Tryd.prog 34 #[.float .f64 (widenOf a), .float .f64 (widenOf b), .int .i64 mode] w fun e w' => e = .returned (.tuple #[.float .f32 X, .int .i64 Y]) ∧ Below w.heap.size w w') :
    Calls Tryd.prog 11 #[.float .f32 a, .float .f32 b, .int .i64 mode] w fun e w' => e = .returned (.tuple #[.float .f32 X, .int .i64 Y, .int .i64 0]) ∧ Below w.heap.size w w' := by
  have hk : decide (0 ≤ mode ∧ mode ≤ 4) = true := decide_eq_true ⟨hm1, hm2⟩
  have H := hid h
  have H1 := hid (fun (w : World) => Widen_any a w ha)
  have H2 := hid (fun (w : World) => Widen_any b w hb)
  obtain ⟨A, hA⟩ : ∃ A, Hid (widenOf a = A) := ⟨_, rfl⟩
  obtain ⟨B, hB⟩ : ∃ B, Hid (widenOf b = B) := ⟨_, rfl⟩
  rw [hA.out] at H1 H
  rw [hB.out] at H2 H
  clear h hm1 hm2 ha hb
  go_enter Tryd.func11, Tryd.ntmps11
  go_wp2_with fail
  refine (known_any mode _).mono ?_
  rintro e w1 ⟨rfl, rfl⟩
  rw [hk]
  clear hk
  go_wp2_with fail
  refine (H1.out _).mono ?_
  rintro e w1 ⟨rfl, hb1⟩
  go_wp2_with fail
  refine (H2.out _).mono ?_
  rintro e w2 ⟨rfl, hb2⟩
  go_wp2_with fail
  refine (H.out _ (hT.below hs (bl_then hb1 hb2)) (Nat.lt_of_lt_of_le hs (bl_then hb1 hb2).size)).mono ?_
  rintro e w3 ⟨rfl, hb3⟩
  go_wp2
  go_ret3
  exact ⟨rfl, bl_then (bl_then hb1 hb2) hb3⟩
set_option maxHeartbeats 400000 in
theorem Div_core (a b X : Nat) (mode Y : Int) (w : World) (ha : a < 4294967296) (hb : b < 4294967296) (hm1 : 0 ≤ mode) (hm2 : mode ≤ 4) (hT : Tab w) (hs : 1 < w.heap.size)
    (h : ∀ w, Tab w → 1 < w.heap.size → Calls Tryd.prog 36 #[.float .f64 (widenOf a), .float .f64 (widenOf b), .int .i64 mode] w fun e w' => e = .returned (.tuple #[.float .f32 X, .int .i64 Y]) ∧ Below w.heap.size w w') :
    Calls Tryd.prog 13 #[.float .f32 a, .float .f32 b, .int .i64 mode] w fun e w' => e = .returned (.tuple #[.float .f32 X, .int .i64 Y, .int .i64 0]) ∧ Below w.heap.size w w' := by
  have hk : decide (0 ≤ mode ∧ mode ≤ 4) = true := decide_eq_true ⟨hm1, hm2⟩
  have H := hid h
  have H1 := hid (fun (w : World) => Widen_any a w ha)
  have H2 := hid (fun (w : World) => Widen_any b w hb)
  obtain ⟨A, hA⟩ : ∃ A, Hid (widenOf a = A) := ⟨_, rfl⟩
  obtain ⟨B, hB⟩ : ∃ B, Hid (widenOf b = B) := ⟨_, rfl⟩
  rw [hA.out] at H1 H
  rw [hB.out] at H2 H
  clear h hm1 hm2 ha hb
  go_enter Tryd.func13, Tryd.ntmps13
  go_wp2_with fail
  refine (known_any mode _).mono ?_
  rintro e w1 ⟨rfl, rfl⟩
  rw [hk]
  clear hk
  go_wp2_with fail
  refine (H1.out _).mono ?_
  rintro e w1 ⟨rfl, hb1⟩
  go_wp2_with fail
  refine (H2.out _).mono ?_
  rintro e w2 ⟨rfl, hb2⟩
  go_wp2_with fail
  refine (H.out _ (hT.below hs (bl_then hb1 hb2)) (Nat.lt_of_lt_of_le hs (bl_then hb1 hb2).size)).mono ?_
  rintro e w3 ⟨rfl, hb3⟩
  go_wp2
  go_ret3
  exact ⟨rfl, bl_then (bl_then hb1 hb2) hb3⟩
theorem xor63 (x : Nat) (hx : x < 18446744073709551616) : x ^^^ 9223372036854775808 = flipOf x := by
  apply Nat.eq_of_testBit_eq
  intro i
  have h63 : (9223372036854775808 : Nat) = 2 ^ 63 := by decide
  unfold flipOf
  rw [Nat.testBit_xor]
  by_cases hs : 9223372036854775808 ≤ x
  · rw [if_pos hs]
    obtain ⟨m, hm⟩ : ∃ m, x = 2 ^ 63 + m := ⟨x - 2 ^ 63, by omega⟩
    have hml : m < 2 ^ 63 := by omega
    have e1 : x - 9223372036854775808 = m := by omega
    rw [e1, hm, h63, Nat.testBit_two_pow]
    by_cases hi : i = 63
    · subst hi
      rw [Nat.testBit_two_pow_add_eq, Nat.testBit_lt_two_pow hml]; rfl
    · have e2 : (2 ^ 63 + m).testBit i = m.testBit i := by
        rcases Nat.lt_or_gt_of_ne hi with hi | hi
        · rw [Nat.testBit_two_pow_add_gt hi]
        · rw [Nat.testBit_lt_two_pow (x := 2 ^ 63 + m) (i := i) (Nat.lt_of_lt_of_le (by omega : 2 ^ 63 + m < 2 ^ 64) (Nat.pow_le_pow_right (by omega) (by omega))),
            Nat.testBit_lt_two_pow (x := m) (i := i) (Nat.lt_of_lt_of_le hml (Nat.pow_le_pow_right (by omega) (by omega)))]
      rw [e2]
      have : decide (63 = i) = false := by simpa using (fun h => hi h.symm)
      rw [this]; simp
  · rw [if_neg hs]
    have hml : x < 2 ^ 63 := by omega
    have e1 : x + 9223372036854775808 = 2 ^ 63 + x := by omega
    rw [e1, h63, Nat.testBit_two_pow]
    by_cases hi : i = 63
    · subst hi
      rw [Nat.testBit_two_pow_add_eq, Nat.testBit_lt_two_pow hml]; rfl
    · have e2 : (2 ^ 63 + x).testBit i = x.testBit i := by
        rcases Nat.lt_or_gt_of_ne hi with hi | hi
        · rw [Nat.testBit_two_pow_add_gt hi]
        · rw [Nat.testBit_lt_two_pow (x := 2 ^ 63 + x) (i := i) (Nat.lt_of_lt_of_le (by omega : 2 ^ 63 + x < 2 ^ 64) (Nat.pow_le_pow_right (by omega) (by omega))),
            Nat.testBit_lt_two_pow (x := x) (i := i) (Nat.lt_of_lt_of_le hml (Nat.pow_le_pow_right (by omega) (by omega)))]
      rw [e2]
      have : decide (63 = i) = false := by simpa using (fun h => hi h.symm)
      rw [this]; simp
theorem xor31 (x : Nat) (hx : x < 4294967296) : x ^^^ 2147483648 = flip32 x := by
  apply Nat.eq_of_testBit_eq
  intro i
  have h31 : (2147483648 : Nat) = 2 ^ 31 := by decide
  unfold flip32
  rw [Nat.testBit_xor]
  by_cases hs : 2147483648 ≤ x
  · rw [if_pos hs]
    obtain ⟨m, hm⟩ : ∃ m, x = 2 ^ 31 + m := ⟨x - 2 ^ 31, by omega⟩
    have hml : m < 2 ^ 31 := by omega
    have e1 : x - 2147483648 = m := by omega
    rw [e1, hm, h31, Nat.testBit_two_pow]
    by_cases hi : i = 31
    · subst hi
      rw [Nat.testBit_two_pow_add_eq, Nat.testBit_lt_two_pow hml]; rfl
    · have e2 : (2 ^ 31 + m).testBit i = m.testBit i := by
        rcases Nat.lt_or_gt_of_ne hi with hi | hi
        · rw [Nat.testBit_two_pow_add_gt hi]
        · rw [Nat.testBit_lt_two_pow (x := 2 ^ 31 + m) (i := i) (Nat.lt_of_lt_of_le (by omega : 2 ^ 31 + m < 2 ^ 32) (Nat.pow_le_pow_right (by omega) (by omega))),
            Nat.testBit_lt_two_pow (x := m) (i := i) (Nat.lt_of_lt_of_le hml (Nat.pow_le_pow_right (by omega) (by omega)))]
      rw [e2]
      have : decide (31 = i) = false := by simpa using (fun h => hi h.symm)
      rw [this]; simp
  · rw [if_neg hs]
    have hml : x < 2 ^ 31 := by omega
    have e1 : x + 2147483648 = 2 ^ 31 + x := by omega
    rw [e1, h31, Nat.testBit_two_pow]
    by_cases hi : i = 31
    · subst hi
      rw [Nat.testBit_two_pow_add_eq, Nat.testBit_lt_two_pow hml]; rfl
    · have e2 : (2 ^ 31 + x).testBit i = x.testBit i := by
        rcases Nat.lt_or_gt_of_ne hi with hi | hi
        · rw [Nat.testBit_two_pow_add_gt hi]
        · rw [Nat.testBit_lt_two_pow (x := 2 ^ 31 + x) (i := i) (Nat.lt_of_lt_of_le (by omega : 2 ^ 31 + x < 2 ^ 32) (Nat.pow_le_pow_right (by omega) (by omega))),
            Nat.testBit_lt_two_pow (x := x) (i := i) (Nat.lt_of_lt_of_le hml (Nat.pow_le_pow_right (by omega) (by omega)))]
      rw [e2]
      have : decide (31 = i) = false := by simpa using (fun h => hi h.symm)
      rw [this]; simp
theorem neg64_run (x : Nat) (hx : x < 18446744073709551616) : Op.unary .neg (.float .f64 x) = pure (.float .f64 (flipOf x)) := by
  rw [← xor63 x hx]; rfl
theorem neg32_run (x : Nat) (hx : x < 4294967296) : Op.unary .neg (.float .f32 x) = pure (.float .f32 (flip32 x)) := by
  rw [← xor31 x hx]; rfl
theorem xor_w32 (x : Nat) (hx : x < 4294967296) : bits .xor .u32 (x : Int) 2147483648 = (flip32 x : Int) := by
  have h := u32_xor_nat x 2147483648 hx (by omega)
  rw [xor31 x hx] at h
  exact h
set_option maxHeartbeats 400000 in
theorem turned_any (mode : Int) (w : World) : Calls Tryd.prog 7 #[.int .i64 mode] w fun r w' => r = .returned (.int .i64 (turnM mode)) ∧ w' = w := by
  go_enter Tryd.func7, Tryd.ntmps7
  go_wp2
  all_goals go_ret
  all_goals (refine ⟨ret_int ?_, rfl⟩; unfold turnM; simp_all)
set_option maxHeartbeats 400000 in
theorem mirror_nan (w : World) : Calls Tryd.prog 10 #[.float .f32 2143289344, .float .f32 2143289344] w fun r w' => r = .returned (.bool true) ∧ w' = w := by
  have h1 : (FloatKind.f32.format.order 2143289344 2143289344 != some .eq) = true := by decide +kernel
  go_enter Tryd.func10, Tryd.ntmps10
  go_wp2
  go_ret
  exact ⟨rfl, rfl⟩
set_option maxHeartbeats 400000 in
theorem mirror_num (a b : Nat) (w : World) (ha : a < 4294967296) (hn : a % 2147483648 ≤ 2139095040) (hb : b = flip32 a) : Calls Tryd.prog 10 #[.float .f32 a, .float .f32 b] w fun r w' => r = .returned (.bool true) ∧ w' = w := by
  have h1 := order_self32 a ha
  rw [decide_eq_false (by omega)] at h1
  have h2 := xor_w32 a ha
  rw [← hb] at h2
  have h3 := f64bits32
  clear hb ha hn
  go_enter Tryd.func10, Tryd.ntmps10
  go_wp2
  go_ret
  exact ⟨by simp, rfl⟩
theorem mirror_any (a b : Nat) (w : World) (h : Mir a b) : Calls Tryd.prog 10 #[.float .f32 a, .float .f32 b] w fun r w' => r = .returned (.bool true) ∧ w' = w := by
  rcases h with ⟨rfl, rfl⟩ | ⟨s, r, hr, rfl, rfl⟩
  · exact mirror_nan w
  · obtain ⟨a1, _, a3⟩ := signN_mod32 s r (by omega)
    exact mirror_num _ _ w a3 (by omega) (flip_sign32 s r (by omega)).symm
set_option maxHeartbeats 400000 in
theorem lead_any (m l j : Nat) (w : World) (hm : m < 18446744073709551616) (hl : bitLen m = l) (hj : l + j = 64) : Calls Tryd.prog 84 #[.int .u64 m] w fun r w' => r = .returned (.int .i64 j) ∧ w' = w := by
  have H := hid (fun (w : World) => len_l m l w hm hl)
  have hw : IntKind.i64.wrap (64 - (l : Int)) = (j : Int) := by rw [IntWalk.i64_in _ (by omega)]; omega
  clear hm hl hj
  go_enter Tryd.func84, Tryd.ntmps84
  go_wp2_with fail
  refine (H.out _).mono ?_
  rintro r w1 ⟨rfl, rfl⟩
  go_wp2
  go_ret
  exact ⟨by simp_all, rfl⟩
set_option maxHeartbeats 400000 in
theorem oneOf_any (r : Nat) (w : World) : Calls Tryd.prog 85 #[.int .u64 r] w fun e w' => e = .returned (.int .u64 ((if r = 0 then 0 else 1 : Nat) : Int)) ∧ w' = w := by
  by_cases h : r = 0
  · subst h
    go_enter Tryd.func85, Tryd.ntmps85
    go_wp2
    go_ret
    exact ⟨rfl, rfl⟩
  · rw [if_neg h]
    have h' : ((r : Int) == 0) = false := by simpa using h
    clear h
    go_enter Tryd.func85, Tryd.ntmps85
    go_wp2
    go_ret
    exact ⟨rfl, rfl⟩
end Go.Proofs.YtdhifmkfdpbpcaaDoor
