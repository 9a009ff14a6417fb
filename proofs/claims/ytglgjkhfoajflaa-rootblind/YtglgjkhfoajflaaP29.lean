
/- Products with powers of two. No program is spoken of. -/
import Derived.Test.YtglgjkhfoajflaaP27
import Derived.Test.YtglgjkhfoajflaaP17
import Derived.Test.YtglgjkhfoajflaaP24
import Derived.Test.YtglgjkhfoajflaaP28
namespace Go.Proofs.Ytglgjkhfoajflaa
open Go Go.RowKit Go.IntWalk

/-- A product of finite numbers, with its sign. -/
theorem mul_rndS (x y : Nat) (hx : x < 18446744073709551616) (hy : y < 18446744073709551616) (fx : x % 9223372036854775808 < 9218868437227405312) (fy : y % 9223372036854775808 < 9218868437227405312) :
    FloatKind.f64.format.mul x y = some (signN (decide (9223372036854775808 ≤ x) ^^ decide (9223372036854775808 ≤ y)) (rndM (nv (x % 9223372036854775808) * nv (y % 9223372036854775808)) (-2148))) := by
  obtain ⟨m, p, ex, vx⟩ := read_fin x hx fx
  obtain ⟨n, q, ey, vy⟩ := read_fin y hy fy
  unfold Ieee.Format.mul
  rw [ex, ey]
  show some (FloatKind.f64.format.nearest _ (m * n) ((p : Int) - 1074 + ((q : Int) - 1074))) = _
  have hv : nv (x % 9223372036854775808) * nv (y % 9223372036854775808) = m * n * 2 ^ (p + q) := by
    rw [← vx, ← vy, Nat.pow_add, Nat.mul_assoc, Nat.mul_assoc, Nat.mul_left_comm (2 ^ p)]
  have := rndM_sc (m * n) (p + q) ((p : Int) - 1074 + ((q : Int) - 1074))
  rw [← hv, show (p : Int) - 1074 + ((q : Int) - 1074) - ((p + q : Nat) : Int) = -2148 by omega] at this
  rw [(near_rnd _ (m * n) _).1, this]
/-- The word of 2^(p - 1023). -/
def twoW (p : Nat) : Nat := p * 4503599627370496
/-- A number times 2^(p - 1023). -/
def shE (p x : Nat) : Nat := if x % 9223372036854775808 = 0 then x else x + p * 4503599627370496 - 1023 * 4503599627370496
/-- It stays a normal number, or a nought. -/
def OkE (p x : Nat) : Prop := x < 18446744073709551616 ∧ (x % 9223372036854775808 = 0 ∨ (4503599627370496 ≤ x % 9223372036854775808 ∧ x % 9223372036854775808 < 9218868437227405312 ∧ 1024 ≤ x % 9223372036854775808 / 4503599627370496 + p ∧ x % 9223372036854775808 / 4503599627370496 + p ≤ 3069))
theorem nvq_full (r : Nat) (h : 4503599627370496 ≤ r) : nv r = (4503599627370496 + r % 4503599627370496) * 2 ^ (r / 4503599627370496 - 1) := by
  have := nv_word (r / 4503599627370496 - 1) (4503599627370496 + r % 4503599627370496) (by omega) (fun _ => by omega)
  rw [show (r / 4503599627370496 - 1) * 4503599627370496 + (4503599627370496 + r % 4503599627370496) = r by omega] at this
  exact this
theorem twoq_pow (a b c d : Nat) (h : a + (52 + b) = c + d) (M : Nat) : M * 2 ^ a * (4503599627370496 * 2 ^ b) = M * 2 ^ c * 2 ^ d := by
  rw [show (4503599627370496 : Nat) = 2 ^ 52 by decide, ← Nat.pow_add, Nat.mul_assoc, ← Nat.pow_add, Nat.mul_assoc, ← Nat.pow_add, h]
theorem signq_sh (x p R : Nat) (hx : x < 18446744073709551616) (h1 : 4503599627370496 ≤ x % 9223372036854775808) (hR : x % 9223372036854775808 + p * 4503599627370496 - 1023 * 4503599627370496 = R) (hp : 1024 ≤ x % 9223372036854775808 / 4503599627370496 + p) : signN (decide (9223372036854775808 ≤ x)) R = x + p * 4503599627370496 - 1023 * 4503599627370496 := by
  obtain ⟨P, hP⟩ : ∃ P, p * 4503599627370496 = P := ⟨_, rfl⟩
  rw [hP] at hR ⊢
  have hP2 : 1023 * 4503599627370496 ≤ x % 9223372036854775808 + P := by omega
  unfold signN
  by_cases c : 9223372036854775808 ≤ x
  · rw [decide_eq_true c, if_pos rfl]; omega
  · rw [decide_eq_false c]
    show R = _
    omega
theorem mul_two (p x : Nat) (hp : 1 ≤ p ∧ p ≤ 2046) (h : OkE p x) : FloatKind.f64.format.mul x (twoW p) = some (shE p x) := by
  obtain ⟨hx, h⟩ := h
  have ht : twoW p < 9218868437227405312 := by unfold twoW; omega
  have hm : twoW p % 9223372036854775808 = twoW p := Nat.mod_eq_of_lt (by omega)
  rw [mul_rndS x (twoW p) hx (by omega) (by omega) (by omega), hm, decide_eq_false (show ¬ 9223372036854775808 ≤ twoW p by omega), Bool.xor_false]
  unfold shE
  rcases h with h | ⟨h1, h2, h3, h4⟩
  · rw [if_pos h, h, nv_zero, Nat.zero_mul, show rndM 0 (-2148) = 0 by unfold rndM; rfl]
    have := signq_of x hx _ rfl
    rw [h] at this
    rw [this]
  · rw [if_neg (by omega)]
    obtain ⟨R, hR⟩ : ∃ R, x % 9223372036854775808 + p * 4503599627370496 - 1023 * 4503599627370496 = R := ⟨_, rfl⟩
    have e1 : R % 4503599627370496 = x % 9223372036854775808 % 4503599627370496 := by omega
    have e2 : R / 4503599627370496 = x % 9223372036854775808 / 4503599627370496 + p - 1023 := by omega
    have hr : R < 9218868437227405312 := by omega
    have ev : nv (x % 9223372036854775808) * nv (twoW p) = nv R * 2 ^ kQ := by
      rw [nvq_full _ h1, nvq_full R (by omega), e1, e2, nvq_full (twoW p) (by unfold twoW; omega), show twoW p % 4503599627370496 = 0 by unfold twoW; omega, show twoW p / 4503599627370496 = p by unfold twoW; omega, Nat.add_zero]
      exact twoq_pow _ _ _ _ (by unfold kQ; omega) _
    have hs := rndM_sc (nv R) kQ (-1074)
    rw [← ev, show (-1074 : Int) - ((kQ : Nat) : Int) = -2148 by decide, rndq_nv R hr] at hs
    rw [hs, signq_sh x p R hx h1 hR h3]
theorem letq (x P Q C : Nat) (h : P + Q = 2 * C) (hc : C ≤ x + P) : x + P - C + Q - C = x := by omega
theorem shE_back (p q x : Nat) (hpq : p + q = 2046) (hp : 1 ≤ p ∧ p ≤ 2045) (h : OkE p x) : OkE q (shE p x) ∧ shE q (shE p x) = x := by
  obtain ⟨hx, h⟩ := h
  rcases h with h | ⟨h1, h2, h3, h4⟩
  · have e : shE p x = x := by unfold shE; rw [if_pos h]
    rw [e]
    exact ⟨⟨hx, Or.inl h⟩, by unfold shE; rw [if_pos h]⟩
  · obtain ⟨y, hy⟩ : ∃ y, x + p * 4503599627370496 - 1023 * 4503599627370496 = y := ⟨_, rfl⟩
    have e : shE p x = y := by unfold shE; rw [if_neg (by omega)]; exact hy
    have m1 : y % 9223372036854775808 = x % 9223372036854775808 + p * 4503599627370496 - 1023 * 4503599627370496 := by omega
    have m2 : y % 9223372036854775808 / 4503599627370496 = x % 9223372036854775808 / 4503599627370496 + p - 1023 := by omega
    rw [e]
    refine ⟨⟨by omega, Or.inr ⟨by omega, by omega, by omega, by omega⟩⟩, ?_⟩
    unfold shE
    rw [if_neg (by omega), ← hy]
    exact letq x (p * 4503599627370496) (q * 4503599627370496) (1023 * 4503599627370496) (by rw [← Nat.add_mul, hpq]) (by omega)
theorem shE_fin (p x : Nat) (hp : 1 ≤ p ∧ p ≤ 2046) (h : OkE p x) : shE p x < 18446744073709551616 ∧ shE p x % 9223372036854775808 < 9218868437227405312 := by
  obtain ⟨hx, h⟩ := h
  unfold shE
  rcases h with h | ⟨h1, h2, h3, h4⟩
  · rw [if_pos h]; omega
  · rw [if_neg (by omega)]
    omega
/-- A subnormal number times 2^52: its exponent field is below 53. -/
theorem sub_up (x : Nat) (hx : x < 18446744073709551616) (h : x % 9223372036854775808 < 4503599627370496) : ∃ z, FloatKind.f64.format.mul x 4841369599423283200 = some z ∧ z < 18446744073709551616 ∧ z % 9223372036854775808 / 4503599627370496 < 53 := by
  rw [mul_rndS x 4841369599423283200 hx (by decide) (by omega) (by decide), decide_eq_false (show ¬ 9223372036854775808 ≤ 4841369599423283200 by decide), Bool.xor_false]
  have e0 : (4841369599423283200 : Nat) % 9223372036854775808 = 4841369599423283200 := by decide
  obtain ⟨m, hm⟩ : ∃ m, x % 9223372036854775808 = m := ⟨_, rfl⟩
  rw [hm] at h
  have e1 : nv m = m := by unfold nv; rw [if_pos h]
  have d1 : (4841369599423283200 : Nat) / 4503599627370496 - 1 = kQ := by decide
  have d2 : (4841369599423283200 : Nat) % 4503599627370496 = 0 := by decide
  have e2 : nv 4841369599423283200 = 4503599627370496 * 2 ^ kQ := by rw [nvq_full _ (by decide), d1, d2, Nat.add_zero]
  have e3 : m * (4503599627370496 * 2 ^ kQ) = m * 4503599627370496 * 2 ^ kQ := (Nat.mul_assoc _ _ _).symm
  have hs := rndM_sc (m * 4503599627370496) kQ (-1074)
  rw [← e3, show (-1074 : Int) - ((kQ : Nat) : Int) = -2148 by decide] at hs
  rw [e0, hm, e1, e2, hs]
  have hV : m * 4503599627370496 < 2 ^ 104 := by
    have : (2 : Nat) ^ 104 = 4503599627370496 * 4503599627370496 := by decide
    rw [this]
    exact Nat.mul_lt_mul_of_pos_right h (by decide)
  obtain ⟨b1, b2⟩ := rn_bound (m * 4503599627370496) 104 (Nat.le_of_lt hV) (by decide)
  have hF : Fz ((m * 4503599627370496 : Nat) : Int) := Fz_of _ 52 (Int.natCast_dvd_natCast.2 (by rw [show (2 : Nat) ^ 52 = 4503599627370496 by decide]; exact Nat.dvd_mul_left _ _)) (by rw [Int.natAbs_natCast, show (2 : Nat) ^ 52 = 4503599627370496 by decide]; omega)
  have hz := rz_exact hF
  have hw := (rn_word _ b1).2
  have hv : rnv (m * 4503599627370496) = m * 4503599627370496 := by
    have := rz_abs ((m * 4503599627370496 : Nat) : Int)
    rw [hz, Int.natAbs_natCast] at this
    exact this.symm
  rw [hv] at hw
  have hlt : rnR (m * 4503599627370496) < 53 * 4503599627370496 := by
    apply Classical.byContradiction
    intro hc
    have h53 : nv (53 * 4503599627370496) = 2 ^ 104 := by rw [nvq_full _ (by decide)]
    rcases Nat.lt_or_eq_of_le (Nat.le_of_not_lt hc) with he | he
    · have := nv_lt he
      rw [h53, hw] at this
      exact absurd hV (Nat.not_lt.2 (Nat.le_of_lt this))
    · rw [← he, h53] at hw
      exact absurd hV (Nat.not_lt.2 (Nat.le_of_eq hw))
  have hrr : rndM (m * 4503599627370496) (-1074) = rnR (m * 4503599627370496) := rfl
  rw [hrr]
  obtain ⟨a1, _, a3⟩ := signN_mod (decide (9223372036854775808 ≤ x)) (rnR (m * 4503599627370496)) (by omega)
  exact ⟨_, rfl, a3, by rw [a1]; omega⟩
end Go.Proofs.Ytglgjkhfoajflaa

namespace Go.Proofs.Ytglgjkhfoajflaa
open Go.RowKit Go.IntWalk

theorem retq_fl {a b : Nat} (h : a = b) : Ending.returned (.float .f64 a) = .returned (.float .f64 b) := by rw [h]
set_option maxHeartbeats 400000 in
theorem absq_fl (x : Nat) (w : World) (hx : x < 18446744073709551616) : Calls Try.prog 49 #[.float .f64 x] w fun r w' => r = .returned (.float .f64 (x % 9223372036854775808)) ∧ w' = w := by
  have h1 := f64bits
  have h2 := f64fromI3
  have H := hid (andNot_sign x hx)
  clear hx
  go_enter Try.func49, Try.ntmps49
  go_wp2
  go_ret
  exact ⟨retq_fl (by rw [H.out]; rfl), rfl⟩
theorem svq_mag (r : Nat) (h : r < 9223372036854775808) : sv r = (nv r : Int) := by
  unfold sv
  rw [if_neg (by omega), Nat.mod_eq_of_lt h]
theorem orderq_mag (r c : Nat) (hr : r ≤ 9218868437227405312) (hc : c ≤ 9218868437227405312) : FloatKind.f64.format.order r c = some (if r < c then .lt else if c < r then .gt else .eq) := by
  rw [order_eq r c (by omega) (by omega) (by omega) (by omega), svq_mag r (by omega), svq_mag c (by omega)]
  congr 1
  by_cases h1 : r < c
  · rw [if_pos h1]
    exact cmp_lt (by have := nv_lt h1; omega)
  · rw [if_neg h1]
    by_cases h2 : c < r
    · rw [if_pos h2]
      exact cmp_gt (by have := nv_lt h2; omega)
    · rw [if_neg h2]
      have : r = c := by omega
      rw [this]
      exact cmp_eq rfl
theorem orderq_max (r : Nat) : r < 9223372036854775808 → (FloatKind.f64.format.order r 9218868437227405311 == some .gt) = decide (r = 9218868437227405312) := by
  intro hr
  by_cases h : 9218868437227405312 < r
  · rw [order_nan_l r _ (by rw [Nat.mod_eq_of_lt hr]; exact h), decide_eq_false (by omega)]; rfl
  · rw [orderq_mag r _ (by omega) (by decide)]
    by_cases c : r = 9218868437227405312
    · rw [if_neg (by omega), if_pos (by omega), decide_eq_true c]; rfl
    · rw [decide_eq_false c]
      by_cases d : r < 9218868437227405311
      · rw [if_pos d]; rfl
      · rw [if_neg d, if_neg (by omega)]; rfl
set_option maxHeartbeats 400000 in
theorem isinfq_fl (x : Nat) (w : World) (hx : x < 18446744073709551616) : Calls Try.prog 18 #[.float .f64 x, .int .i64 0] w fun r w' => r = .returned (.bool (decide (x % 9223372036854775808 = 9218868437227405312))) ∧ w' = w := by
  have H := hid (orderq_max (x % 9223372036854775808) (by omega))
  have HA := hid (fun (W : World) => absq_fl x W hx)
  obtain ⟨r, hr⟩ : ∃ r, Hid (x % 9223372036854775808 = r) := ⟨_, rfl⟩
  rw [hr.out] at H HA ⊢
  clear hx
  go_enter Try.func18, Try.ntmps18
  go_wp2_with fail
  refine (HA.out _).mono ?_
  rintro z w1 ⟨rfl, rfl⟩
  go_wp2
  go_ret
  exact ⟨ret_bool H.out, rfl⟩
set_option maxHeartbeats 400000 in
theorem isnanq_fl (x : Nat) (w : World) (hx : x < 18446744073709551616) : Calls Try.prog 106 #[.float .f64 x] w fun r w' => r = .returned (.bool (decide (9218868437227405312 < x % 9223372036854775808))) ∧ w' = w := by
  have ho := hid (order_self x hx)
  clear hx
  go_enter Try.func106, Try.ntmps106
  go_wp2
  go_ret
  exact ⟨ret_bool ho.out, rfl⟩
def finB (x : Nat) : Bool := decide (x % 9223372036854775808 < 9218868437227405312)
set_option maxHeartbeats 400000 in
theorem isfinq_any (x : Nat) (w : World) (hx : x < 18446744073709551616) : Calls Try.prog 100 #[.float .f64 x] w fun r w' => r = .returned (.bool (finB x)) ∧ w' = w := by
  have HN := hid (fun (W : World) => isnanq_fl x W hx)
  have HI := hid (fun (W : World) => isinfq_fl x W hx)
  by_cases c : 9218868437227405312 < x % 9223372036854775808
  · have e : finB x = false := by unfold finB; rw [decide_eq_false (by omega)]
    rw [e]
    rw [decide_eq_true c] at HN
    clear hx c e HI
    go_enter Try.func100, Try.ntmps100
    go_wp2_with fail
    refine (HN.out _).mono ?_
    rintro z w1 ⟨rfl, rfl⟩
    go_wp2_with fail
    go_ret
    exact ⟨rfl, rfl⟩
  · rw [decide_eq_false c] at HN
    have e : finB x = !decide (x % 9223372036854775808 = 9218868437227405312) := by
      unfold finB
      by_cases d : x % 9223372036854775808 = 9218868437227405312
      · rw [decide_eq_true d, decide_eq_false (by omega)]; rfl
      · rw [decide_eq_false d, decide_eq_true (by omega)]; rfl
    rw [e]
    obtain ⟨v, hv⟩ : ∃ v, Hid (decide (x % 9223372036854775808 = 9218868437227405312) = v) := ⟨_, rfl⟩
    rw [hv.out] at HI ⊢
    clear hx c e
    go_enter Try.func100, Try.ntmps100
    go_wp2_with fail
    refine (HN.out _).mono ?_
    rintro z w1 ⟨rfl, rfl⟩
    go_wp2_with fail
    refine (HI.out _).mono ?_
    rintro z w1 ⟨rfl, rfl⟩
    go_wp2_with fail
    go_ret
    exact ⟨rfl, rfl⟩
theorem twoW_fin (p : Nat) (hp : p ≤ 2046) : twoW p < 18446744073709551616 ∧ twoW p % 9223372036854775808 < 9218868437227405312 := by unfold twoW; omega
theorem orq_two (p : Nat) (hp : p ≤ 2046) : bits .or .u64 0 ((p : Int) * 4503599627370496) = ((twoW p : Nat) : Int) := by
  have h := u64_or_nat 0 (twoW p) (by decide) (twoW_fin p hp).1
  rw [Nat.zero_or] at h
  rw [← h]
  unfold twoW
  rw [Int.natCast_mul]
  rfl
/-- The exponent field of a word, as Frexp reads it. -/
theorem expq_w (x : Nat) (hx : x < 18446744073709551616) : bits .and .u64 ((x : Int) / 4503599627370496) 2047 = ((x % 9223372036854775808 / 4503599627370496 : Nat) : Int) := by
  have h := u64_and_nat (x / 4503599627370496) 2047 (by omega) (by decide)
  have e : x / 4503599627370496 &&& 2047 = x % 9223372036854775808 / 4503599627370496 := by
    have := Nat.and_two_pow_sub_one_eq_mod (x / 4503599627370496) 11
    have e2 : (2 : Nat) ^ 11 - 1 = 2047 := by decide
    rw [e2] at this
    rw [this]
    omega
  rw [e] at h
  rw [← h]
  rfl
/-- What Frexp tells: e + 1022 is the exponent field of a normal number; of a subnormal one e is below -1021. -/
def FrE (x : Nat) (e : Int) : Prop := (4503599627370496 ≤ x % 9223372036854775808 → e = (x % 9223372036854775808 / 4503599627370496 : Nat) - 1022) ∧ (x % 9223372036854775808 < 4503599627370496 → e < -1021) ∧ -5000 ≤ e ∧ e ≤ 5000
end Go.Proofs.Ytglgjkhfoajflaa

namespace Go.Proofs.Ytglgjkhfoajflaa
open Go.RowKit Go.IntWalk

/-- A variable that holds a number. -/
def FBox (s : Nat) : Obj := .cells #[.float .f64 s] 28
theorem fcell_of {w : World} {b s : Nat} (h : w.heap[b]? = some (FBox s)) : w.cell? ⟨b, 0, none⟩ = some (.float .f64 s) := by
  unfold FBox at h
  simp [World.cell?, h]
theorem mulq_some (x s : Nat) (hx : x < 18446744073709551616) (fx : x % 9223372036854775808 < 9218868437227405312) (hs : s < 18446744073709551616) (fs : s % 9223372036854775808 < 9218868437227405312) : ∃ z, FloatKind.f64.format.mul x s = some z ∧ z < 18446744073709551616 := by
  have h := mul_rndS x s hx hs fx fs
  have hle := (near_rnd false (nv (x % 9223372036854775808) * nv (s % 9223372036854775808)) (-2148)).2
  exact ⟨_, h, (signN_mod _ _ (by omega)).2.2⟩
end Go.Proofs.Ytglgjkhfoajflaa
