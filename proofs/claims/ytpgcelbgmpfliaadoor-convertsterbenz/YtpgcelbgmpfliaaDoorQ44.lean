
/- What convert's addition does, and the same with both signs turned. -/
import Derived.Test.YtpgcelbgmpfliaaDoorQ43
namespace Go.Proofs.YtpgcelbgmpfliaaDoor
open Go Go.RowKit Go.IntWalk

theorem and_one (x : Nat) (hx : x < 18446744073709551616) : (bits .and .u64 (x : Int) 1 == 1) = decide (x % 2 = 1) := by
  have h := u64_and_nat x 1 hx (by omega)
  have e : x &&& 1 = x % 2 := Nat.and_one_is_mod x
  rw [e] at h
  have h' : bits .and .u64 (x : Int) 1 = ((x % 2 : Nat) : Int) := h
  rw [h', Bool.eq_iff_iff, beq_iff_eq, decide_eq_true_eq]
  omega
theorem prev_flip (s : Nat) (hs : s < 18446744073709551616) (hn : s % 9223372036854775808 ≤ 9218868437227405312) : prevOf (flipOf s) = flipOf (nextOf s) ∧ nextOf (flipOf s) = flipOf (prevOf s) := by
  have c1 : canonOf s = s := by unfold canonOf; rw [if_neg (by omega)]
  have hf := flip_mod s hs
  have hfl := flip_lt hs
  have c2 : canonOf (flipOf s) = flipOf s := by unfold canonOf; rw [if_neg (by omega)]
  have hnn : s ≠ 9221120237041090561 := by intro h; rw [h] at hn; omega
  have hnf : flipOf s ≠ 9221120237041090561 := by intro h; rw [h] at hf; omega
  unfold prevOf
  rw [c1, c2, if_neg hnn, if_neg hnf, flip_flip hs, flip_flip (next_lt hfl)]
  exact ⟨rfl, rfl⟩
theorem order_zero_gt (x : Nat) (hx : x < 18446744073709551616) (hn : x % 9223372036854775808 ≤ 9218868437227405312) : (FloatKind.f64.format.order x 0 == some .gt) = decide (0 < sv x) := by
  rw [order_eq x 0 hx (by decide) hn (by decide), sv_zero]
  rcases Int.lt_trichotomy (sv x) 0 with h | h | h
  · rw [cmp_lt h, decide_eq_false (by omega)]; rfl
  · rw [cmp_eq h, decide_eq_false (by omega)]; rfl
  · rw [cmp_gt h, decide_eq_true h]; rfl
theorem sv_zero_iff (x : Nat) : sv x = 0 ↔ x % 9223372036854775808 = 0 := by
  rw [← Int.natAbs_eq_zero, sv_abs]
  constructor
  · intro h; exact nv_inj (by rw [h, nv_zero])
  · intro h; rw [h, nv_zero]
theorem odd_pair (A B A' B' k : Nat) (hk : k + 6 ≤ 2000) (hA : Opp A A') (hB : Opp B B') (bA : (sv A).natAbs ≤ 2 ^ k) (bB : (sv B).natAbs ≤ 2 ^ k) : ∃ s s', FloatKind.f64.format.add A B = some s ∧ FloatKind.f64.format.add A' B' = some s' ∧ Opp s s' ∧ (s % 9223372036854775808 ≠ 0 → ∃ X, X < 18446744073709551616 ∧
    (∀ w, Calls Tryd.prog 63 #[.float .f64 A, .float .f64 B] w fun r w' => r = .returned (.float .f64 X) ∧ Below w.heap.size w w') ∧ (∀ w, Calls Tryd.prog 63 #[.float .f64 A', .float .f64 B'] w fun r w' => r = .returned (.float .f64 (flipOf X)) ∧ Below w.heap.size w w')) := by
  obtain ⟨s, s', e1, e1', o1, b1⟩ := add_opp A B A' B' k (by omega) hA hB bA bB
  obtain ⟨b, b', e2, e2', o2, b2⟩ := sub_opp s A s' A' (k + 1) (by omega) o1 hA b1 (le_pow_succ bA)
  obtain ⟨t1, t1', e3, e3', o3, b3⟩ := sub_opp s b s' b' (k + 2) (by omega) o1 o2 (le_pow_succ b1) b2
  obtain ⟨t2, t2', e4, e4', o4, b4⟩ := sub_opp A t1 A' t1' (k + 3) (by omega) hA o3 (le_pow_succ (le_pow_succ (le_pow_succ bA))) b3
  obtain ⟨t3, t3', e5, e5', o5, b5⟩ := sub_opp B b B' b' (k + 2) (by omega) hB o2 (le_pow_succ (le_pow_succ bB)) b2
  obtain ⟨l, l', e6, e6', o6, _⟩ := add_opp t2 t3 t2' t3' (k + 4) (by omega) o4 o5 b4 (le_pow_succ b5)
  refine ⟨s, s', e1, e1', o1, fun h0 => ?_⟩
  have hfl := opp_flip s s' o1 h0
  have hsn : s % 9223372036854775808 ≤ 9218868437227405312 := Nat.le_of_lt o1.2.2.1
  obtain ⟨p1, p2⟩ := prev_flip s o1.1 hsn
  have z1 := order_zero l o6.1
  have z2 := order_zero l' o6.2.1
  have g1 := order_zero_gt l o6.1 (Nat.le_of_lt o6.2.2.1)
  have g2 := order_zero_gt l' o6.2.1 (Nat.le_of_lt o6.2.2.2.1)
  have d1 := and_one s o1.1
  have d2 := and_one s' o1.2.1
  have hpar : s' % 2 = s % 2 := by rw [hfl]; unfold flipOf; split <;> omega
  have hlz : l' % 9223372036854775808 = 0 ↔ l % 9223372036854775808 = 0 := by rw [← sv_zero_iff, ← sv_zero_iff, o6.2.2.2.2]; omega
  rw [o6.2.2.2.2] at g2
  rw [hpar] at d2
  refine ⟨if decide (l % 9223372036854775808 = 0) = true ∨ decide (s % 2 = 1) = true then s else if decide (0 < sv l) = true then nextOf s else prevOf s, ?_, fun w => oddSum_core A B s b t1 t2 t3 l _ _ _ w e1 e2 e3 e4 e5 e6 z1 d1 g1 o1.1, fun w => ?_⟩
  · have hp : prevOf s < 18446744073709551616 := by
      have := flip_lt (next_lt (flip_lt o1.1))
      have c1 : canonOf s = s := by unfold canonOf; rw [if_neg (by omega)]
      unfold prevOf
      rw [c1]
      split
      · omega
      · exact this
    split
    · exact o1.1
    · split
      · exact next_lt o1.1
      · exact hp
  · refine (oddSum_core A' B' s' b' t1' t2' t3' l' _ _ _ w e1' e2' e3' e4' e5' e6' z2 d2 g2 o1.2.1).mono ?_
    rintro r w' ⟨rfl, hb⟩
    refine ⟨ret_f ?_, hb⟩
    simp only [decide_eq_true_eq]
    rw [hfl]
    by_cases c : l % 9223372036854775808 = 0 ∨ s % 2 = 1
    · rw [if_pos c, if_pos (by rw [hlz]; exact c)]
    · rw [if_neg c, if_neg (by rw [hlz]; exact c)]
      have hl0 : sv l ≠ 0 := fun h => c (Or.inl ((sv_zero_iff l).1 h))
      by_cases cg : 0 < sv l
      · rw [if_pos cg, if_neg (by omega), p1]
      · rw [if_neg cg, if_pos (by omega), p2]

set_option maxHeartbeats 400000 in
theorem abs_any (x : Nat) (w : World) (hx : x < 18446744073709551616) : Calls Tryd.prog 87 #[.float .f64 x] w fun r w' => r = .returned (.float .f64 (x % 9223372036854775808)) ∧ w' = w := by
  have h1 := f64bits
  have h2 := f64fromI'
  have H := hid (andNot_sign x hx)
  clear hx
  go_enter Tryd.func87, Tryd.ntmps87
  go_wp2
  go_ret
  exact ⟨ret_f (by rw [H.out]; rfl), rfl⟩
theorem max_gt (r : Nat) (h : r ≤ 9218868437227405312) : (FloatKind.f64.format.order r 9218868437227405311 == some .gt) = decide (r = 9218868437227405312) := by
  have s1 : sv r = (nv r : Int) := sv_sign false r (by omega)
  have s2 : sv 9218868437227405311 = (nv 9218868437227405311 : Int) := sv_sign false _ (by decide)
  rw [order_eq r _ (by omega) (by decide) (by omega) (by decide), s1, s2]
  by_cases c : r = 9218868437227405312
  · have := nv_lt (r := 9218868437227405311) (s := r) (by omega)
    rw [decide_eq_true c, cmp_gt (by omega)]; rfl
  · have := nv_le (r := r) (s := 9218868437227405311) (by omega)
    rw [decide_eq_false c]
    rcases Int.lt_or_eq_of_le (show (nv r : Int) ≤ (nv 9218868437227405311 : Int) by omega) with h | h
    · rw [cmp_lt h]; rfl
    · rw [cmp_eq h]; rfl
set_option maxHeartbeats 400000 in
theorem isinf_any (x : Nat) (w : World) (hx : x < 18446744073709551616) (hn : x % 9223372036854775808 ≤ 9218868437227405312) : Calls Tryd.prog 62 #[.float .f64 x, .int .i64 0] w fun r w' => r = .returned (.bool (decide (x % 9223372036854775808 = 9218868437227405312))) ∧ w' = w := by
  have h := max_gt _ hn
  have HA := hid (fun (w : World) => abs_any x w hx)
  obtain ⟨r, hr⟩ : ∃ r, Hid (x % 9223372036854775808 = r) := ⟨_, rfl⟩
  rw [hr.out] at h HA
  obtain ⟨b, hb⟩ : ∃ b, Hid (decide (x % 9223372036854775808 = 9218868437227405312) = b) := ⟨_, rfl⟩
  have hb2 : decide (r = 9218868437227405312) = b := by rw [← hr.out]; exact hb.out
  rw [hb.out]
  rw [hb2] at h
  clear hx hn hb2
  go_enter Tryd.func62, Tryd.ntmps62
  go_wp2_with fail
  refine (HA.out _).mono ?_
  rintro e w1 ⟨rfl, rfl⟩
  go_wp2
  go_ret
  exact ⟨rfl, rfl⟩
set_option maxHeartbeats 400000 in
theorem addition_nan (A B : Nat) (mode : Int) (w : World) (hA : A < 18446744073709551616) (hB : B < 18446744073709551616) (hn : 9218868437227405312 < A % 9223372036854775808 ∨ 9218868437227405312 < B % 9223372036854775808) (hq : FloatKind.f64.format.add A B = none) :
    Calls Tryd.prog 37 #[.float .f64 A, .float .f64 B, .int .i64 mode] w fun e w' => e = .returned (.tuple #[.float .f32 2143289344, .int .i64 0]) ∧ Below w.heap.size w w' := by
  obtain ⟨f, hf, ha⟩ := nan_arith .add A B (by simp) hq
  have H1 := hid (fun (w : World) => isnan_any A w hA)
  have H2 := hid (fun (w : World) => isnan_any B w hB)
  clear hA hB hf hq
  by_cases h1 : 9218868437227405312 < A % 9223372036854775808
  · rw [decide_eq_true h1] at H1
    clear hn h1
    go_enter Tryd.func37, Tryd.ntmps37
    go_wp2_with fail
    refine (H1.out _).mono ?_
    rintro r w1 ⟨rfl, rfl⟩
    go_wp2_with fail
    refine (theNaN_any _).mono ?_
    rintro r w2 ⟨rfl, hb⟩
    go_wp2
    go_ret2
    exact ⟨rfl, ⟨hb.os, hb.tape, hb.output, hb.size, hb.block⟩⟩
  · have h2 : 9218868437227405312 < B % 9223372036854775808 := by
      rcases hn with hn | hn
      · exact absurd hn h1
      · exact hn
    rw [decide_eq_false h1] at H1
    rw [decide_eq_true h2] at H2
    clear hn h1 h2
    go_enter Tryd.func37, Tryd.ntmps37
    go_wp2_with fail
    refine (H1.out _).mono ?_
    rintro r w1 ⟨rfl, rfl⟩
    go_wp2_with fail
    refine (H2.out _).mono ?_
    rintro r w1 ⟨rfl, rfl⟩
    go_wp2_with fail
    refine (theNaN_any _).mono ?_
    rintro r w2 ⟨rfl, hb⟩
    go_wp2
    go_ret2
    exact ⟨rfl, ⟨hb.os, hb.tape, hb.output, hb.size, hb.block⟩⟩
set_option maxHeartbeats 400000 in
theorem addition_bad (A B : Nat) (mode : Int) (w : World) (hA : A < 18446744073709551616) (hB : B < 18446744073709551616) (nA : A % 9223372036854775808 ≤ 9218868437227405312) (nB : B % 9223372036854775808 ≤ 9218868437227405312) (hq : FloatKind.f64.format.add A B = none) :
    Calls Tryd.prog 37 #[.float .f64 A, .float .f64 B, .int .i64 mode] w fun e w' => e = .returned (.tuple #[.float .f32 2143289344, .int .i64 8]) ∧ Below w.heap.size w w' := by
  obtain ⟨f, hf, ha⟩ := nan_arith .add A B (by simp) hq
  have HF := hid hf
  have H1 := hid (fun (w : World) => isnan_any A w hA)
  have H2 := hid (fun (w : World) => isnan_any B w hB)
  rw [decide_eq_false (by omega)] at H1 H2
  have H3 := hid (fun (v w : World) => isnan_any (f v) w (hf v).1)
  clear hA hB hf hq nA nB
  go_enter Tryd.func37, Tryd.ntmps37
  go_wp2_with fail
  refine (H1.out _).mono ?_
  rintro r w1 ⟨rfl, rfl⟩
  go_wp2_with fail
  refine (H2.out _).mono ?_
  rintro r w1 ⟨rfl, rfl⟩
  go_wp2_with fail
  refine (H3.out w _).mono ?_
  rw [decide_eq_true (HF.out w).2]
  rintro r w1 ⟨rfl, rfl⟩
  go_wp2_with fail
  refine (theNaN_any _).mono ?_
  rintro r w2 ⟨rfl, hb⟩
  go_wp2
  go_ret2
  exact ⟨rfl, ⟨hb.os, hb.tape, hb.output, hb.size, hb.block⟩⟩
set_option maxHeartbeats 400000 in
theorem addition_inf (A B s z : Nat) (mode : Int) (w : World) (hA : A < 18446744073709551616) (hB : B < 18446744073709551616) (nA : A % 9223372036854775808 ≤ 9218868437227405312) (nB : B % 9223372036854775808 ≤ 9218868437227405312) (hq : FloatKind.f64.format.add A B = some s) (hs : s < 18446744073709551616) (hi : s % 9223372036854775808 = 9218868437227405312) (hc : ∀ w : World, (convert 30 26 (.float .f64 s)).run Tryd.prog w = .ok (.float .f32 z) w) :
    Calls Tryd.prog 37 #[.float .f64 A, .float .f64 B, .int .i64 mode] w fun e w' => e = .returned (.tuple #[.float .f32 z, .int .i64 0]) ∧ Below w.heap.size w w' := by
  have ha : ∀ w : World, (binOp .add 30 (.float .f64 A) (.float .f64 B)).run Tryd.prog w = .ok (.float .f64 s) w := fun w => run_float_arith w .add _ .f64 A B s hq
  have H1 := hid (fun (w : World) => isnan_any A w hA)
  have H2 := hid (fun (w : World) => isnan_any B w hB)
  have H3 := hid (fun (w : World) => isnan_any s w hs)
  rw [decide_eq_false (by omega)] at H1 H2 H3
  have H4 := hid (fun (w : World) => isinf_any s w hs (by omega))
  rw [decide_eq_true hi] at H4
  have hz : (FloatKind.f64.format.order s 0 == some .eq) = false := by rw [order_zero s hs]; exact decide_eq_false (by omega)
  clear hA hB nA nB hq hs hi
  go_enter Tryd.func37, Tryd.ntmps37
  go_wp2_with fail
  refine (H1.out _).mono ?_
  rintro r w1 ⟨rfl, rfl⟩
  go_wp2_with fail
  refine (H2.out _).mono ?_
  rintro r w1 ⟨rfl, rfl⟩
  go_wp2_with fail
  refine (H3.out _).mono ?_
  rintro r w1 ⟨rfl, rfl⟩
  go_wp2_with fail
  refine (H4.out _).mono ?_
  rintro r w1 ⟨rfl, rfl⟩
  go_wp2
  go_ret2
  exact ⟨rfl, Below.refl _ _⟩
set_option maxHeartbeats 400000 in
theorem addition_odd (A B s X : Nat) (mode : Int) (w : World) (hA : A < 18446744073709551616) (hB : B < 18446744073709551616) (nA : A % 9223372036854775808 ≤ 9218868437227405312) (nB : B % 9223372036854775808 ≤ 9218868437227405312) (hq : FloatKind.f64.format.add A B = some s) (hs : s < 18446744073709551616) (hf : s % 9223372036854775808 < 9218868437227405312) (h0 : s % 9223372036854775808 ≠ 0) (hX : X < 18446744073709551616)
    (ho : ∀ w, Calls Tryd.prog 63 #[.float .f64 A, .float .f64 B] w fun r w' => r = .returned (.float .f64 X) ∧ Below w.heap.size w w') (hT : Tab w) (hs' : 1 < w.heap.size) :
    Calls Tryd.prog 37 #[.float .f64 A, .float .f64 B, .int .i64 mode] w fun e w' => e = .returned (.tuple #[.float .f32 (narrowOf X mode), .int .i64 (narrowFl X mode)]) ∧ Below w.heap.size w w' := by
  have ha : ∀ w : World, (binOp .add 30 (.float .f64 A) (.float .f64 B)).run Tryd.prog w = .ok (.float .f64 s) w := fun w => run_float_arith w .add _ .f64 A B s hq
  have H1 := hid (fun (w : World) => isnan_any A w hA)
  have H2 := hid (fun (w : World) => isnan_any B w hB)
  have H3 := hid (fun (w : World) => isnan_any s w hs)
  rw [decide_eq_false (by omega)] at H1 H2 H3
  have H4 := hid (fun (w : World) => isinf_any s w hs (by omega))
  rw [decide_eq_false (by omega)] at H4
  have hz : (FloatKind.f64.format.order s 0 == some .eq) = false := by rw [order_zero s hs]; exact decide_eq_false h0
  have HO := hid ho
  have HN := hid (fun (w : World) hT hs => narrow_any X mode w hX hT hs)
  obtain ⟨Z, hZ⟩ : ∃ Z, Hid (narrowOf X mode = Z) := ⟨_, rfl⟩
  obtain ⟨Y, hY⟩ : ∃ Y, Hid (narrowFl X mode = Y) := ⟨_, rfl⟩
  rw [hZ.out, hY.out] at HN ⊢
  clear hA hB nA nB hq hs hf h0 hX ho
  go_enter Tryd.func37, Tryd.ntmps37
  go_wp2_with fail
  refine (H1.out _).mono ?_
  rintro r w1 ⟨rfl, rfl⟩
  go_wp2_with fail
  refine (H2.out _).mono ?_
  rintro r w1 ⟨rfl, rfl⟩
  go_wp2_with fail
  refine (H3.out _).mono ?_
  rintro r w1 ⟨rfl, rfl⟩
  go_wp2_with fail
  refine (H4.out _).mono ?_
  rintro r w1 ⟨rfl, rfl⟩
  go_wp2_with fail
  refine (HO.out _).mono ?_
  rintro r w2 ⟨rfl, hb⟩
  go_wp2_with fail
  refine (HN.out _ (hT.below hs' hb) (Nat.lt_of_lt_of_le hs' hb.size)).mono ?_
  rintro r w3 ⟨rfl, hb3⟩
  go_wp2
  go_ret2
  exact ⟨rfl, bl_then hb hb3⟩
set_option maxHeartbeats 400000 in
theorem noughtOf_same (x y z : Nat) (mode : Int) (w : World) (hx : x < 18446744073709551616) (hy : y < 18446744073709551616) (h : (canonOf x == canonOf y) = true) (hc : ∀ w : World, (convert 30 26 (.float .f64 x)).run Tryd.prog w = .ok (.float .f32 z) w) :
    Calls Tryd.prog 61 #[.float .f64 x, .float .f64 y, .int .i64 mode] w fun r w' => r = .returned (.float .f32 z) ∧ Below w.heap.size w w' := by
  have HS := hid (fun (w : World) => Same_any x y w hx hy)
  rw [h] at HS
  clear h hx hy
  go_enter Tryd.func61, Tryd.ntmps61
  go_wp2_with fail
  refine (HS.out _).mono ?_
  rintro r w1 ⟨rfl, hb⟩
  go_wp2
  go_ret
  exact ⟨rfl, hb⟩
end Go.Proofs.YtpgcelbgmpfliaaDoor
