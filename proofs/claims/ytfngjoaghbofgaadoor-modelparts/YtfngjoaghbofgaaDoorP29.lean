
/- math.Abs, IsInf, IsNaN of any number; Ldexp(1, k); what Frexp tells of the exponent. -/
import Derived.Test.YtfngjoaghbofgaaDoorP28
import Derived.Test.YtfngjoaghbofgaaDoorP19
namespace Go.Proofs.YtfngjoaghbofgaaDoor
open Go.RowKit Go.IntWalk

theorem retq_fl {a b : Nat} (h : a = b) : Ending.returned (.float .f64 a) = .returned (.float .f64 b) := by rw [h]
set_option maxHeartbeats 400000 in
theorem absq_fl (x : Nat) (w : World) (hx : x < 18446744073709551616) : Calls Tryd.prog 69 #[.float .f64 x] w fun r w' => r = .returned (.float .f64 (x % 9223372036854775808)) ∧ w' = w := by
  have h1 := f64bits
  have h2 := f64fromI3
  have H := hid (andNot_sign x hx)
  clear hx
  go_enter Tryd.func69, Tryd.ntmps69
  go_wp2
  go_ret
  exact ⟨retq_fl (by rw [H.out]; rfl), rfl⟩
theorem svq_mag (r : Nat) (h : r < 9223372036854775808) : sv r = (nv r : Int) := by
  unfold sv
  rw [if_neg (by omega), Nat.mod_eq_of_lt h]
theorem orderq_mag (r c : Nat) (hr : r ≤ 9218868437227405312) (hc : c ≤ 9218868437227405312) : FloatKind.f64.format.order r c = some (if r < c then .lt else if c < r then .gt else .eq) := by
  rw [order_eq r c (by omega) (by omega) (by omega) (by omega), svq_mag r (by omega), svq_mag c (by omega)]
  congr 1
  by_cases h1 : r < c
  · rw [if_pos h1]
    exact cmp_lt (by have := nv_lt h1; omega)
  · rw [if_neg h1]
    by_cases h2 : c < r
    · rw [if_pos h2]
      exact cmp_gt (by have := nv_lt h2; omega)
    · rw [if_neg h2]
      have : r = c := by omega
      rw [this]
      exact cmp_eq rfl
theorem orderq_max (r : Nat) : r < 9223372036854775808 → (FloatKind.f64.format.order r 9218868437227405311 == some .gt) = decide (r = 9218868437227405312) := by
  intro hr
  by_cases h : 9218868437227405312 < r
  · rw [order_nan_l r _ (by rw [Nat.mod_eq_of_lt hr]; exact h), decide_eq_false (by omega)]; rfl
  · rw [orderq_mag r _ (by omega) (by decide)]
    by_cases c : r = 9218868437227405312
    · rw [if_neg (by omega), if_pos (by omega), decide_eq_true c]; rfl
    · rw [decide_eq_false c]
      by_cases d : r < 9218868437227405311
      · rw [if_pos d]; rfl
      · rw [if_neg d, if_neg (by omega)]; rfl
set_option maxHeartbeats 400000 in
theorem isinfq_fl (x : Nat) (w : World) (hx : x < 18446744073709551616) : Calls Tryd.prog 55 #[.float .f64 x, .int .i64 0] w fun r w' => r = .returned (.bool (decide (x % 9223372036854775808 = 9218868437227405312))) ∧ w' = w := by
  have H := hid (orderq_max (x % 9223372036854775808) (by omega))
  have HA := hid (fun (W : World) => absq_fl x W hx)
  obtain ⟨r, hr⟩ : ∃ r, Hid (x % 9223372036854775808 = r) := ⟨_, rfl⟩
  rw [hr.out] at H HA ⊢
  clear hx
  go_enter Tryd.func55, Tryd.ntmps55
  go_wp2_with fail
  refine (HA.out _).mono ?_
  rintro z w1 ⟨rfl, rfl⟩
  go_wp2
  go_ret
  exact ⟨ret_bool H.out, rfl⟩
set_option maxHeartbeats 400000 in
theorem isnanq_fl (x : Nat) (w : World) (hx : x < 18446744073709551616) : Calls Tryd.prog 56 #[.float .f64 x] w fun r w' => r = .returned (.bool (decide (9218868437227405312 < x % 9223372036854775808))) ∧ w' = w := by
  have ho := hid (order_self x hx)
  clear hx
  go_enter Tryd.func56, Tryd.ntmps56
  go_wp2
  go_ret
  exact ⟨ret_bool ho.out, rfl⟩
def finB (x : Nat) : Bool := decide (x % 9223372036854775808 < 9218868437227405312)
theorem twoW_fin (p : Nat) (hp : p ≤ 2046) : twoW p < 18446744073709551616 ∧ twoW p % 9223372036854775808 < 9218868437227405312 := by unfold twoW; omega
theorem orq_two (p : Nat) (hp : p ≤ 2046) : bits .or .u64 0 ((p : Int) * 4503599627370496) = ((twoW p : Nat) : Int) := by
  have h := u64_or_nat 0 (twoW p) (by decide) (twoW_fin p hp).1
  rw [Nat.zero_or] at h
  rw [← h]
  unfold twoW
  rw [Int.natCast_mul]
  rfl
set_option maxRecDepth 4000 in
set_option maxHeartbeats 1000000 in
theorem ldexp_pow (k : Int) (p : Nat) (hk : k = (p : Int) - 1023) (hp : 500 ≤ p ∧ p ≤ 1600) (w : World) : Calls Tryd.prog 47 #[.float .f64 4607182418800017408, .int .i64 k] w fun r w' => r = .returned (.float .f64 (twoW p)) ∧ w' = w := by
  obtain ⟨g1, g2, g3, g4⟩ := o1
  obtain ⟨b1, b2, b3, b4⟩ := bt1
  have h1 := f64bits
  have h2 := f64fromI3
  have hm := f_mul (x := 4607182418800017408) (y := twoW p) (z := twoW p) (mulq_one _ (twoW_fin p (by omega)).1 (twoW_fin p (by omega)).2)
  have ho := orq_two p (by omega)
  have c0 : wrap64 0 = 0 := by decide +kernel
  have k1 : ¬ k < -1075 := by omega
  have k2 : ¬ 1023 < k := by omega
  have k3 : ¬ k < -1022 := by omega
  have k4 : k + 1023 = (p : Int) := by omega
  have k5 : -9223372036854775808 ≤ k := by omega
  have k6 : k ≤ 9223372036854775807 := by omega
  have k7 : wrap64 k = k := by unfold wrap64; omega
  clear hk hp
  go_enter Tryd.func47, Tryd.ntmps47
  go_wp2
  go_ret
  exact ⟨rfl, rfl⟩
set_option maxHeartbeats 400000 in
theorem Ldexp_pow (k : Int) (p : Nat) (hk : k = (p : Int) - 1023) (hp : 500 ≤ p ∧ p ≤ 1600) (w : World) : Calls Tryd.prog 28 #[.float .f64 4607182418800017408, .int .i64 k] w fun r w' => r = .returned (.float .f64 (twoW p)) ∧ w' = w := by
  have HL := hid (ldexp_pow k p hk hp)
  clear hk hp
  go_enter Tryd.func28, Tryd.ntmps28
  go_wp2_with fail
  refine (HL.out _).mono ?_
  rintro r w1 ⟨rfl, rfl⟩
  go_wp2
  go_ret
  exact ⟨rfl, rfl⟩
/-- The exponent field of a word, as Frexp reads it. -/
theorem expq_w (x : Nat) (hx : x < 18446744073709551616) : bits .and .u64 ((x : Int) / 4503599627370496) 2047 = ((x % 9223372036854775808 / 4503599627370496 : Nat) : Int) := by
  have h := u64_and_nat (x / 4503599627370496) 2047 (by omega) (by decide)
  have e : x / 4503599627370496 &&& 2047 = x % 9223372036854775808 / 4503599627370496 := by
    have := Nat.and_two_pow_sub_one_eq_mod (x / 4503599627370496) 11
    have e2 : (2 : Nat) ^ 11 - 1 = 2047 := by decide
    rw [e2] at this
    rw [this]
    omega
  rw [e] at h
  rw [← h]
  rfl
/-- What Frexp tells: e + 1022 is the exponent field of a normal number; of a subnormal one e is below -1021. -/
def FrE (x : Nat) (e : Int) : Prop := (4503599627370496 ≤ x % 9223372036854775808 → e = (x % 9223372036854775808 / 4503599627370496 : Nat) - 1022) ∧ (x % 9223372036854775808 < 4503599627370496 → e < -1021) ∧ -5000 ≤ e ∧ e ≤ 5000
set_option maxRecDepth 4000 in
set_option maxHeartbeats 1000000 in
theorem normq_big (x : Nat) (hx : x < 18446744073709551616) (fx : x % 9223372036854775808 < 9218868437227405312) (h : 4503599627370496 ≤ x % 9223372036854775808) (w : World) : Calls Tryd.prog 57 #[.float .f64 x] w fun r w' => r = .returned (.tuple #[.float .f64 x, .int .i64 0]) ∧ w' = w := by
  have HA := hid (fun (W : World) => absq_fl x W hx)
  have ho : (FloatKind.f64.format.order (x % 9223372036854775808) 4503599627370496 == some .lt) = false := by
    rw [orderq_mag _ _ (by omega) (by decide), if_neg (by omega)]
    split <;> rfl
  obtain ⟨m, hm⟩ : ∃ m, Hid (x % 9223372036854775808 = m) := ⟨_, rfl⟩
  rw [hm.out] at HA ho
  clear hx fx h
  go_enter Tryd.func57, Tryd.ntmps57
  go_wp2_with fail
  refine (HA.out _).mono ?_
  rintro z w1 ⟨rfl, rfl⟩
  go_wp2_with fail
  go_ret2
  exact ⟨rfl, rfl⟩
set_option maxRecDepth 4000 in
set_option maxHeartbeats 1000000 in
theorem normq_sub (x z : Nat) (hx : x < 18446744073709551616) (h : x % 9223372036854775808 < 4503599627370496) (hz : FloatKind.f64.format.mul x 4841369599423283200 = some z) (w : World) : Calls Tryd.prog 57 #[.float .f64 x] w fun r w' => r = .returned (.tuple #[.float .f64 z, .int .i64 (-52)]) ∧ w' = w := by
  have HA := hid (fun (W : World) => absq_fl x W hx)
  have hmu := f_mul hz
  have ho : (FloatKind.f64.format.order (x % 9223372036854775808) 4503599627370496 == some .lt) = true := by
    rw [orderq_mag _ _ (by omega) (by decide), if_pos h]
    rfl
  obtain ⟨m, hm⟩ : ∃ m, Hid (x % 9223372036854775808 = m) := ⟨_, rfl⟩
  rw [hm.out] at HA ho
  clear hx h hz
  go_enter Tryd.func57, Tryd.ntmps57
  go_wp2_with fail
  refine (HA.out _).mono ?_
  rintro z w1 ⟨rfl, rfl⟩
  go_wp2_with fail
  go_ret2
  exact ⟨rfl, rfl⟩
end Go.Proofs.YtfngjoaghbofgaaDoor
