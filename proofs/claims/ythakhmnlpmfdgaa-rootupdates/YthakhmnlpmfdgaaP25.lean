
/- Products with powers of two. No program is spoken of. -/
import Derived.Test.YthakhmnlpmfdgaaP24
import Derived.Test.YthakhmnlpmfdgaaP16
import Derived.Test.YthakhmnlpmfdgaaP22
namespace Go.Proofs.Ythakhmnlpmfdgaa
open Go Go.RowKit Go.IntWalk

/-- A product of finite numbers, with its sign. -/
theorem mul_rndS (x y : Nat) (hx : x < 18446744073709551616) (hy : y < 18446744073709551616) (fx : x % 9223372036854775808 < 9218868437227405312) (fy : y % 9223372036854775808 < 9218868437227405312) :
    FloatKind.f64.format.mul x y = some (signN (decide (9223372036854775808 ≤ x) ^^ decide (9223372036854775808 ≤ y)) (rndM (nv (x % 9223372036854775808) * nv (y % 9223372036854775808)) (-2148))) := by
  obtain ⟨m, p, ex, vx⟩ := read_fin x hx fx
  obtain ⟨n, q, ey, vy⟩ := read_fin y hy fy
  unfold Ieee.Format.mul
  rw [ex, ey]
  show some (FloatKind.f64.format.nearest _ (m * n) ((p : Int) - 1074 + ((q : Int) - 1074))) = _
  have hv : nv (x % 9223372036854775808) * nv (y % 9223372036854775808) = m * n * 2 ^ (p + q) := by
    rw [← vx, ← vy, Nat.pow_add, Nat.mul_assoc, Nat.mul_assoc, Nat.mul_left_comm (2 ^ p)]
  have := rndM_sc (m * n) (p + q) ((p : Int) - 1074 + ((q : Int) - 1074))
  rw [← hv, show (p : Int) - 1074 + ((q : Int) - 1074) - ((p + q : Nat) : Int) = -2148 by omega] at this
  rw [(near_rnd _ (m * n) _).1, this]
/-- The word of 2^(p - 1023). -/
def twoW (p : Nat) : Nat := p * 4503599627370496
/-- A number times 2^(p - 1023). -/
def shE (p x : Nat) : Nat := if x % 9223372036854775808 = 0 then x else x + p * 4503599627370496 - 1023 * 4503599627370496
/-- It stays a normal number, or a nought. -/
def OkE (p x : Nat) : Prop := x < 18446744073709551616 ∧ (x % 9223372036854775808 = 0 ∨ (4503599627370496 ≤ x % 9223372036854775808 ∧ x % 9223372036854775808 < 9218868437227405312 ∧ 1024 ≤ x % 9223372036854775808 / 4503599627370496 + p ∧ x % 9223372036854775808 / 4503599627370496 + p ≤ 3069))
theorem nvq_full (r : Nat) (h : 4503599627370496 ≤ r) : nv r = (4503599627370496 + r % 4503599627370496) * 2 ^ (r / 4503599627370496 - 1) := by
  have := nv_word (r / 4503599627370496 - 1) (4503599627370496 + r % 4503599627370496) (by omega) (fun _ => by omega)
  rw [show (r / 4503599627370496 - 1) * 4503599627370496 + (4503599627370496 + r % 4503599627370496) = r by omega] at this
  exact this
theorem twoq_pow (a b c d : Nat) (h : a + (52 + b) = c + d) (M : Nat) : M * 2 ^ a * (4503599627370496 * 2 ^ b) = M * 2 ^ c * 2 ^ d := by
  rw [show (4503599627370496 : Nat) = 2 ^ 52 by decide, ← Nat.pow_add, Nat.mul_assoc, ← Nat.pow_add, Nat.mul_assoc, ← Nat.pow_add, h]
theorem signq_sh (x p R : Nat) (hx : x < 18446744073709551616) (h1 : 4503599627370496 ≤ x % 9223372036854775808) (hR : x % 9223372036854775808 + p * 4503599627370496 - 1023 * 4503599627370496 = R) (hp : 1024 ≤ x % 9223372036854775808 / 4503599627370496 + p) : signN (decide (9223372036854775808 ≤ x)) R = x + p * 4503599627370496 - 1023 * 4503599627370496 := by
  obtain ⟨P, hP⟩ : ∃ P, p * 4503599627370496 = P := ⟨_, rfl⟩
  rw [hP] at hR ⊢
  have hP2 : 1023 * 4503599627370496 ≤ x % 9223372036854775808 + P := by omega
  unfold signN
  by_cases c : 9223372036854775808 ≤ x
  · rw [decide_eq_true c, if_pos rfl]; omega
  · rw [decide_eq_false c]
    show R = _
    omega
theorem mul_two (p x : Nat) (hp : 1 ≤ p ∧ p ≤ 2046) (h : OkE p x) : FloatKind.f64.format.mul x (twoW p) = some (shE p x) := by
  obtain ⟨hx, h⟩ := h
  have ht : twoW p < 9218868437227405312 := by unfold twoW; omega
  have hm : twoW p % 9223372036854775808 = twoW p := Nat.mod_eq_of_lt (by omega)
  rw [mul_rndS x (twoW p) hx (by omega) (by omega) (by omega), hm, decide_eq_false (show ¬ 9223372036854775808 ≤ twoW p by omega), Bool.xor_false]
  unfold shE
  rcases h with h | ⟨h1, h2, h3, h4⟩
  · rw [if_pos h, h, nv_zero, Nat.zero_mul, show rndM 0 (-2148) = 0 by unfold rndM; rfl]
    have := signq_of x hx _ rfl
    rw [h] at this
    rw [this]
  · rw [if_neg (by omega)]
    obtain ⟨R, hR⟩ : ∃ R, x % 9223372036854775808 + p * 4503599627370496 - 1023 * 4503599627370496 = R := ⟨_, rfl⟩
    have e1 : R % 4503599627370496 = x % 9223372036854775808 % 4503599627370496 := by omega
    have e2 : R / 4503599627370496 = x % 9223372036854775808 / 4503599627370496 + p - 1023 := by omega
    have hr : R < 9218868437227405312 := by omega
    have ev : nv (x % 9223372036854775808) * nv (twoW p) = nv R * 2 ^ kQ := by
      rw [nvq_full _ h1, nvq_full R (by omega), e1, e2, nvq_full (twoW p) (by unfold twoW; omega), show twoW p % 4503599627370496 = 0 by unfold twoW; omega, show twoW p / 4503599627370496 = p by unfold twoW; omega, Nat.add_zero]
      exact twoq_pow _ _ _ _ (by unfold kQ; omega) _
    have hs := rndM_sc (nv R) kQ (-1074)
    rw [← ev, show (-1074 : Int) - ((kQ : Nat) : Int) = -2148 by decide, rndq_nv R hr] at hs
    rw [hs, signq_sh x p R hx h1 hR h3]
theorem letq (x P Q C : Nat) (h : P + Q = 2 * C) (hc : C ≤ x + P) : x + P - C + Q - C = x := by omega
theorem shE_back (p q x : Nat) (hpq : p + q = 2046) (hp : 1 ≤ p ∧ p ≤ 2045) (h : OkE p x) : OkE q (shE p x) ∧ shE q (shE p x) = x := by
  obtain ⟨hx, h⟩ := h
  rcases h with h | ⟨h1, h2, h3, h4⟩
  · have e : shE p x = x := by unfold shE; rw [if_pos h]
    rw [e]
    exact ⟨⟨hx, Or.inl h⟩, by unfold shE; rw [if_pos h]⟩
  · obtain ⟨y, hy⟩ : ∃ y, x + p * 4503599627370496 - 1023 * 4503599627370496 = y := ⟨_, rfl⟩
    have e : shE p x = y := by unfold shE; rw [if_neg (by omega)]; exact hy
    have m1 : y % 9223372036854775808 = x % 9223372036854775808 + p * 4503599627370496 - 1023 * 4503599627370496 := by omega
    have m2 : y % 9223372036854775808 / 4503599627370496 = x % 9223372036854775808 / 4503599627370496 + p - 1023 := by omega
    rw [e]
    refine ⟨⟨by omega, Or.inr ⟨by omega, by omega, by omega, by omega⟩⟩, ?_⟩
    unfold shE
    rw [if_neg (by omega), ← hy]
    exact letq x (p * 4503599627370496) (q * 4503599627370496) (1023 * 4503599627370496) (by rw [← Nat.add_mul, hpq]) (by omega)
theorem shE_fin (p x : Nat) (hp : 1 ≤ p ∧ p ≤ 2046) (h : OkE p x) : shE p x < 18446744073709551616 ∧ shE p x % 9223372036854775808 < 9218868437227405312 := by
  obtain ⟨hx, h⟩ := h
  unfold shE
  rcases h with h | ⟨h1, h2, h3, h4⟩
  · rw [if_pos h]; omega
  · rw [if_neg (by omega)]
    omega
/-- A subnormal number times 2^52: its exponent field is below 53. -/
theorem sub_up (x : Nat) (hx : x < 18446744073709551616) (h : x % 9223372036854775808 < 4503599627370496) : ∃ z, FloatKind.f64.format.mul x 4841369599423283200 = some z ∧ z < 18446744073709551616 ∧ z % 9223372036854775808 / 4503599627370496 < 53 := by
  rw [mul_rndS x 4841369599423283200 hx (by decide) (by omega) (by decide), decide_eq_false (show ¬ 9223372036854775808 ≤ 4841369599423283200 by decide), Bool.xor_false]
  have e0 : (4841369599423283200 : Nat) % 9223372036854775808 = 4841369599423283200 := by decide
  obtain ⟨m, hm⟩ : ∃ m, x % 9223372036854775808 = m := ⟨_, rfl⟩
  rw [hm] at h
  have e1 : nv m = m := by unfold nv; rw [if_pos h]
  have d1 : (4841369599423283200 : Nat) / 4503599627370496 - 1 = kQ := by decide
  have d2 : (4841369599423283200 : Nat) % 4503599627370496 = 0 := by decide
  have e2 : nv 4841369599423283200 = 4503599627370496 * 2 ^ kQ := by rw [nvq_full _ (by decide), d1, d2, Nat.add_zero]
  have e3 : m * (4503599627370496 * 2 ^ kQ) = m * 4503599627370496 * 2 ^ kQ := (Nat.mul_assoc _ _ _).symm
  have hs := rndM_sc (m * 4503599627370496) kQ (-1074)
  rw [← e3, show (-1074 : Int) - ((kQ : Nat) : Int) = -2148 by decide] at hs
  rw [e0, hm, e1, e2, hs]
  have hV : m * 4503599627370496 < 2 ^ 104 := by
    have : (2 : Nat) ^ 104 = 4503599627370496 * 4503599627370496 := by decide
    rw [this]
    exact Nat.mul_lt_mul_of_pos_right h (by decide)
  obtain ⟨b1, b2⟩ := rn_bound (m * 4503599627370496) 104 (Nat.le_of_lt hV) (by decide)
  have hF : Fz ((m * 4503599627370496 : Nat) : Int) := Fz_of _ 52 (Int.natCast_dvd_natCast.2 (by rw [show (2 : Nat) ^ 52 = 4503599627370496 by decide]; exact Nat.dvd_mul_left _ _)) (by rw [Int.natAbs_natCast, show (2 : Nat) ^ 52 = 4503599627370496 by decide]; omega)
  have hz := rz_exact hF
  have hw := (rn_word _ b1).2
  have hv : rnv (m * 4503599627370496) = m * 4503599627370496 := by
    have := rz_abs ((m * 4503599627370496 : Nat) : Int)
    rw [hz, Int.natAbs_natCast] at this
    exact this.symm
  rw [hv] at hw
  have hlt : rnR (m * 4503599627370496) < 53 * 4503599627370496 := by
    apply Classical.byContradiction
    intro hc
    have h53 : nv (53 * 4503599627370496) = 2 ^ 104 := by rw [nvq_full _ (by decide)]
    rcases Nat.lt_or_eq_of_le (Nat.le_of_not_lt hc) with he | he
    · have := nv_lt he
      rw [h53, hw] at this
      exact absurd hV (Nat.not_lt.2 (Nat.le_of_lt this))
    · rw [← he, h53] at hw
      exact absurd hV (Nat.not_lt.2 (Nat.le_of_eq hw))
  have hrr : rndM (m * 4503599627370496) (-1074) = rnR (m * 4503599627370496) := rfl
  rw [hrr]
  obtain ⟨a1, _, a3⟩ := signN_mod (decide (9223372036854775808 ≤ x)) (rnR (m * 4503599627370496)) (by omega)
  exact ⟨_, rfl, a3, by rw [a1]; omega⟩
end Go.Proofs.Ythakhmnlpmfdgaa

namespace Go.Proofs.Ythakhmnlpmfdgaa
open Go.RowKit Go.IntWalk

theorem retq_fl {a b : Nat} (h : a = b) : Ending.returned (.float .f64 a) = .returned (.float .f64 b) := by rw [h]
set_option maxHeartbeats 400000 in
theorem absq_fl (x : Nat) (w : World) (hx : x < 18446744073709551616) : Calls Try.prog 106 #[.float .f64 x] w fun r w' => r = .returned (.float .f64 (x % 9223372036854775808)) ∧ w' = w := by
  have h1 := f64bits
  have h2 := f64fromI3
  have H := hid (andNot_sign x hx)
  clear hx
  go_enter Try.func106, Try.ntmps106
  go_wp2
  go_ret
  exact ⟨retq_fl (by rw [H.out]; rfl), rfl⟩
theorem svq_mag (r : Nat) (h : r < 9223372036854775808) : sv r = (nv r : Int) := by
  unfold sv
  rw [if_neg (by omega), Nat.mod_eq_of_lt h]
theorem orderq_mag (r c : Nat) (hr : r ≤ 9218868437227405312) (hc : c ≤ 9218868437227405312) : FloatKind.f64.format.order r c = some (if r < c then .lt else if c < r then .gt else .eq) := by
  rw [order_eq r c (by omega) (by omega) (by omega) (by omega), svq_mag r (by omega), svq_mag c (by omega)]
  congr 1
  by_cases h1 : r < c
  · rw [if_pos h1]
    exact cmp_lt (by have := nv_lt h1; omega)
  · rw [if_neg h1]
    by_cases h2 : c < r
    · rw [if_pos h2]
      exact cmp_gt (by have := nv_lt h2; omega)
    · rw [if_neg h2]
      have : r = c := by omega
      rw [this]
      exact cmp_eq rfl
theorem orderq_max (r : Nat) : r < 9223372036854775808 → (FloatKind.f64.format.order r 9218868437227405311 == some .gt) = decide (r = 9218868437227405312) := by
  intro hr
  by_cases h : 9218868437227405312 < r
  · rw [order_nan_l r _ (by rw [Nat.mod_eq_of_lt hr]; exact h), decide_eq_false (by omega)]; rfl
  · rw [orderq_mag r _ (by omega) (by decide)]
    by_cases c : r = 9218868437227405312
    · rw [if_neg (by omega), if_pos (by omega), decide_eq_true c]; rfl
    · rw [decide_eq_false c]
      by_cases d : r < 9218868437227405311
      · rw [if_pos d]; rfl
      · rw [if_neg d, if_neg (by omega)]; rfl
set_option maxHeartbeats 400000 in
theorem isinfq_fl (x : Nat) (w : World) (hx : x < 18446744073709551616) : Calls Try.prog 104 #[.float .f64 x, .int .i64 0] w fun r w' => r = .returned (.bool (decide (x % 9223372036854775808 = 9218868437227405312))) ∧ w' = w := by
  have H := hid (orderq_max (x % 9223372036854775808) (by omega))
  have HA := hid (fun (W : World) => absq_fl x W hx)
  obtain ⟨r, hr⟩ : ∃ r, Hid (x % 9223372036854775808 = r) := ⟨_, rfl⟩
  rw [hr.out] at H HA ⊢
  clear hx
  go_enter Try.func104, Try.ntmps104
  go_wp2_with fail
  refine (HA.out _).mono ?_
  rintro z w1 ⟨rfl, rfl⟩
  go_wp2
  go_ret
  exact ⟨ret_bool H.out, rfl⟩
set_option maxHeartbeats 400000 in
theorem isnanq_fl (x : Nat) (w : World) (hx : x < 18446744073709551616) : Calls Try.prog 103 #[.float .f64 x] w fun r w' => r = .returned (.bool (decide (9218868437227405312 < x % 9223372036854775808))) ∧ w' = w := by
  have ho := hid (order_self x hx)
  clear hx
  go_enter Try.func103, Try.ntmps103
  go_wp2
  go_ret
  exact ⟨ret_bool ho.out, rfl⟩
def finB (x : Nat) : Bool := decide (x % 9223372036854775808 < 9218868437227405312)
set_option maxHeartbeats 400000 in
theorem isfinq_any (x : Nat) (w : World) (hx : x < 18446744073709551616) : Calls Try.prog 97 #[.float .f64 x] w fun r w' => r = .returned (.bool (finB x)) ∧ w' = w := by
  have HN := hid (fun (W : World) => isnanq_fl x W hx)
  have HI := hid (fun (W : World) => isinfq_fl x W hx)
  by_cases c : 9218868437227405312 < x % 9223372036854775808
  · have e : finB x = false := by unfold finB; rw [decide_eq_false (by omega)]
    rw [e]
    rw [decide_eq_true c] at HN
    clear hx c e HI
    go_enter Try.func97, Try.ntmps97
    go_wp2_with fail
    refine (HN.out _).mono ?_
    rintro z w1 ⟨rfl, rfl⟩
    go_wp2_with fail
    go_ret
    exact ⟨rfl, rfl⟩
  · rw [decide_eq_false c] at HN
    have e : finB x = !decide (x % 9223372036854775808 = 9218868437227405312) := by
      unfold finB
      by_cases d : x % 9223372036854775808 = 9218868437227405312
      · rw [decide_eq_true d, decide_eq_false (by omega)]; rfl
      · rw [decide_eq_false d, decide_eq_true (by omega)]; rfl
    rw [e]
    obtain ⟨v, hv⟩ : ∃ v, Hid (decide (x % 9223372036854775808 = 9218868437227405312) = v) := ⟨_, rfl⟩
    rw [hv.out] at HI ⊢
    clear hx c e
    go_enter Try.func97, Try.ntmps97
    go_wp2_with fail
    refine (HN.out _).mono ?_
    rintro z w1 ⟨rfl, rfl⟩
    go_wp2_with fail
    refine (HI.out _).mono ?_
    rintro z w1 ⟨rfl, rfl⟩
    go_wp2_with fail
    go_ret
    exact ⟨rfl, rfl⟩
theorem twoW_fin (p : Nat) (hp : p ≤ 2046) : twoW p < 18446744073709551616 ∧ twoW p % 9223372036854775808 < 9218868437227405312 := by unfold twoW; omega
theorem orq_two (p : Nat) (hp : p ≤ 2046) : bits .or .u64 0 ((p : Int) * 4503599627370496) = ((twoW p : Nat) : Int) := by
  have h := u64_or_nat 0 (twoW p) (by decide) (twoW_fin p hp).1
  rw [Nat.zero_or] at h
  rw [← h]
  unfold twoW
  rw [Int.natCast_mul]
  rfl
/-- The exponent field of a word, as Frexp reads it. -/
theorem expq_w (x : Nat) (hx : x < 18446744073709551616) : bits .and .u64 ((x : Int) / 4503599627370496) 2047 = ((x % 9223372036854775808 / 4503599627370496 : Nat) : Int) := by
  have h := u64_and_nat (x / 4503599627370496) 2047 (by omega) (by decide)
  have e : x / 4503599627370496 &&& 2047 = x % 9223372036854775808 / 4503599627370496 := by
    have := Nat.and_two_pow_sub_one_eq_mod (x / 4503599627370496) 11
    have e2 : (2 : Nat) ^ 11 - 1 = 2047 := by decide
    rw [e2] at this
    rw [this]
    omega
  rw [e] at h
  rw [← h]
  rfl
/-- What Frexp tells: e + 1022 is the exponent field of a normal number; of a subnormal one e is below -1021. -/
def FrE (x : Nat) (e : Int) : Prop := (4503599627370496 ≤ x % 9223372036854775808 → e = (x % 9223372036854775808 / 4503599627370496 : Nat) - 1022) ∧ (x % 9223372036854775808 < 4503599627370496 → e < -1021) ∧ -5000 ≤ e ∧ e ≤ 5000
end Go.Proofs.Ythakhmnlpmfdgaa

namespace Go.Proofs.Ythakhmnlpmfdgaa
open Go.RowKit Go.IntWalk

/-- A variable that holds a number. -/
def FBox (s : Nat) : Obj := .cells #[.float .f64 s] 28
theorem fcell_of {w : World} {b s : Nat} (h : w.heap[b]? = some (FBox s)) : w.cell? ⟨b, 0, none⟩ = some (.float .f64 s) := by
  unfold FBox at h
  simp [World.cell?, h]
theorem mulq_some (x s : Nat) (hx : x < 18446744073709551616) (fx : x % 9223372036854775808 < 9218868437227405312) (hs : s < 18446744073709551616) (fs : s % 9223372036854775808 < 9218868437227405312) : ∃ z, FloatKind.f64.format.mul x s = some z ∧ z < 18446744073709551616 := by
  have h := mul_rndS x s hx hs fx fs
  have hle := (near_rnd false (nv (x % 9223372036854775808) * nv (s % 9223372036854775808)) (-2148)).2
  exact ⟨_, h, (signN_mod _ _ (by omega)).2.2⟩
end Go.Proofs.Ythakhmnlpmfdgaa

namespace Go.Proofs.Ythakhmnlpmfdgaa
open Go Go.RowKit Go.IntWalk

/-- cut, whatever the shift: with room for the steps in 64 bits. -/
theorem rest_le (m s : Nat) : restN m s ≤ 3 := by
  unfold restN
  split
  · omega
  · split
    · omega
    · split <;> omega
theorem grows_mono (mode : Int) (neg odd : Bool) (a b : Nat) (hab : a ≤ b) (hb : b ≤ 3) (h : growsOf mode neg odd a = true) : growsOf mode neg odd b = true := by
  unfold growsOf at h ⊢
  by_cases m0 : mode = 0
  · rw [if_pos m0] at h ⊢
    simp only [Bool.or_eq_true, Bool.and_eq_true, beq_iff_eq] at h ⊢
    rcases h with h | ⟨h, o⟩
    · left; omega
    · by_cases c : b = 3
      · left; exact c
      · right; exact ⟨by omega, o⟩
  · rw [if_neg m0] at h ⊢
    by_cases m1 : mode = 1
    · rw [if_pos m1] at h ⊢
      simp only [decide_eq_true_eq] at h ⊢
      omega
    · rw [if_neg m1] at h ⊢
      exact h
theorem restN_mono (a b s : Nat) (h : a % 2 ^ s ≤ b % 2 ^ s) : restN a s ≤ restN b s := by
  unfold restN
  obtain ⟨x, hx⟩ : ∃ x, a % 2 ^ s = x := ⟨_, rfl⟩
  obtain ⟨y, hy⟩ : ∃ y, b % 2 ^ s = y := ⟨_, rfl⟩
  obtain ⟨P, hP⟩ : ∃ P, 2 ^ s = P := ⟨_, rfl⟩
  rw [hx, hy] at h ⊢
  rw [hP]
  repeat' split
  all_goals omega
theorem stepN_mono (A B S : Nat) (mode : Int) (neg : Bool) (h : A ≤ B) : stepN A S mode neg ≤ stepN B S mode neg := by
  have hq : A / 2 ^ S ≤ B / 2 ^ S := Nat.div_le_div_right h
  unfold stepN
  rcases Nat.lt_or_eq_of_le hq with hlt | heq
  · split <;> split <;> omega
  · have hd1 := Nat.div_add_mod A (2 ^ S)
    have hd2 := Nat.div_add_mod B (2 ^ S)
    rw [heq] at hd1
    have hm : A % 2 ^ S ≤ B % 2 ^ S := by omega
    have hr := restN_mono A B S hm
    rw [heq]
    by_cases c : restN A S ≠ 0 ∧ growsOf mode neg (decide (B / 2 ^ S % 2 = 1)) (restN A S) = true
    · rw [if_pos c, if_pos ⟨by omega, grows_mono _ _ _ _ _ hr (rest_le _ _) c.2⟩]
      exact Nat.le_refl _
    · rw [if_neg c]; omega
theorem restN_scale (m s k : Nat) : restN (m * 2 ^ k) (s + k) = restN m s := by
  have hp := Nat.two_pow_pos k
  have e : m * 2 ^ k % 2 ^ (s + k) = m % 2 ^ s * 2 ^ k := by rw [Nat.pow_add, Nat.mul_mod_mul_right]
  unfold restN
  rw [e]
  have h0 : m % 2 ^ s * 2 ^ k = 0 ↔ m % 2 ^ s = 0 := by
    constructor
    · intro h
      rcases Nat.mul_eq_zero.1 h with h | h
      · exact h
      · omega
    · intro h; rw [h, Nat.zero_mul]
  have hlt : 2 * (m % 2 ^ s * 2 ^ k) < 2 ^ (s + k) ↔ 2 * (m % 2 ^ s) < 2 ^ s := by
    rw [Nat.pow_add, ← Nat.mul_assoc]; exact Nat.mul_lt_mul_right hp
  have heq : 2 * (m % 2 ^ s * 2 ^ k) = 2 ^ (s + k) ↔ 2 * (m % 2 ^ s) = 2 ^ s := by
    rw [Nat.pow_add, ← Nat.mul_assoc]
    exact ⟨fun h => Nat.eq_of_mul_eq_mul_right hp h, fun h => by rw [h]⟩
  simp only [h0, hlt, heq]
/-- The same at a common scale. -/
theorem stepQ_scale (m : Nat) (e u : Int) (C : Nat) (mode : Int) (neg : Bool) (he : 0 ≤ e + (C : Int)) (hu : 0 ≤ u + (C : Int)) : stepQ m (u - e) mode neg = stepN (m * 2 ^ (e + (C : Int)).toNat) (u + (C : Int)).toNat mode neg := by
  obtain ⟨k, hk⟩ : ∃ k, (e + (C : Int)).toNat = k := ⟨_, rfl⟩
  obtain ⟨S, hS⟩ : ∃ S, (u + (C : Int)).toNat = S := ⟨_, rfl⟩
  rw [hk, hS]
  have hp := Nat.two_pow_pos k
  have hq : cutQ m (u - e) = m * 2 ^ k / 2 ^ S ∧ cutR m (u - e) = restN (m * 2 ^ k) S := by
    unfold cutQ cutR
    by_cases hs : u - e ≤ 0
    · rw [if_pos hs, if_pos hs]
      obtain ⟨j, hj⟩ : ∃ j, (-(u - e)).toNat = j := ⟨_, rfl⟩
      have e1 : k = j + S := by omega
      rw [hj, e1, Nat.pow_add, ← Nat.mul_assoc, Nat.mul_div_cancel _ (Nat.two_pow_pos S)]
      refine ⟨rfl, ?_⟩
      unfold restN
      rw [Nat.mul_mod_left, if_pos rfl]
    · rw [if_neg hs, if_neg hs]
      obtain ⟨j, hj⟩ : ∃ j, (u - e).toNat = j := ⟨_, rfl⟩
      have e1 : S = j + k := by omega
      rw [hj, e1, restN_scale, Nat.pow_add, Nat.mul_div_mul_right _ _ hp]
      exact ⟨rfl, rfl⟩
  unfold stepQ stepN
  rw [hq.1, hq.2]
theorem top_mono (m1 m2 : Nat) (e1 e2 : Int) (C : Nat) (h1 : m1 ≠ 0) (he1 : 0 ≤ e1 + (C : Int)) (he2 : 0 ≤ e2 + (C : Int)) (h : m1 * 2 ^ (e1 + (C : Int)).toNat ≤ m2 * 2 ^ (e2 + (C : Int)).toNat) : rTop m1 e1 ≤ rTop m2 e2 := by
  have a1 : 2 ^ (bitLen m1 - 1 + (e1 + (C : Int)).toNat) ≤ m1 * 2 ^ (e1 + (C : Int)).toNat := by rw [Nat.pow_add]; exact Nat.mul_le_mul_right _ (bitLen_lo h1)
  have a2 : m2 * 2 ^ (e2 + (C : Int)).toNat < 2 ^ (bitLen m2 + (e2 + (C : Int)).toNat) := by rw [Nat.pow_add]; exact Nat.mul_lt_mul_of_pos_right (bitLen_hi m2) (Nat.two_pow_pos _)
  have a3 := (Nat.pow_lt_pow_iff_right (by decide : 1 < 2)).1 (Nat.lt_of_le_of_lt (Nat.le_trans a1 h) a2)
  have := bitLen_pos h1
  unfold rTop
  omega
/-- The steps, as values, rise. -/
theorem steps_rise (p : Nat) (L : Int) (m1 m2 : Nat) (e1 e2 : Int) (C : Nat) (mode : Int) (neg : Bool) (hp : 1 ≤ p) (h1 : m1 ≠ 0) (h2 : m2 ≠ 0) (he1 : 0 ≤ e1 + (C : Int)) (he2 : 0 ≤ e2 + (C : Int)) (hL : 0 ≤ L - (p : Int) + 1 + (C : Int))
    (h : m1 * 2 ^ (e1 + (C : Int)).toNat ≤ m2 * 2 ^ (e2 + (C : Int)).toNat) :
    rSteps p L m1 e1 mode neg * 2 ^ (rUnit p L m1 e1 + (C : Int)).toNat ≤ rSteps p L m2 e2 mode neg * 2 ^ (rUnit p L m2 e2 + (C : Int)).toNat := by
  have ht := top_mono m1 m2 e1 e2 C h1 he1 he2 h
  have hu : rUnit p L m1 e1 ≤ rUnit p L m2 e2 := by unfold rUnit; omega
  have hu1 : 0 ≤ rUnit p L m1 e1 + (C : Int) := by unfold rUnit; omega
  rcases Int.lt_or_eq_of_le hu with hlt | heq
  · have hs1 := rSteps_le p L m1 e1 mode neg p rfl
    have ht2 : rTop m2 e2 = rUnit p L m2 e2 + (p : Int) - 1 := by unfold rUnit at hlt ⊢; omega
    have hq2 : 2 ^ (p - 1) ≤ cutQ m2 (rUnit p L m2 e2 - e2) := cutQ_ge m2 e2 _ (p - 1) h2 (by unfold rTop at ht2; omega)
    have hs2 : 2 ^ (p - 1) ≤ rSteps p L m2 e2 mode neg := by unfold rSteps stepQ; omega
    obtain ⟨a, ha⟩ : ∃ a, (rUnit p L m1 e1 + (C : Int)).toNat = a := ⟨_, rfl⟩
    obtain ⟨b, hb⟩ : ∃ b, (rUnit p L m2 e2 + (C : Int)).toNat = b := ⟨_, rfl⟩
    have hab : p + a ≤ p - 1 + b := by omega
    rw [ha, hb]
    refine Nat.le_trans (Nat.mul_le_mul_right _ hs1) (Nat.le_trans ?_ (Nat.mul_le_mul_right _ hs2))
    rw [← Nat.pow_add, ← Nat.pow_add]
    exact Nat.pow_le_pow_right (by decide) hab
  · unfold rSteps
    rw [stepQ_scale m1 e1 _ C mode neg he1 hu1, stepQ_scale m2 e2 _ C mode neg he2 (by omega), heq]
    exact Nat.mul_le_mul_right _ (stepN_mono _ _ _ _ _ h)
/-- What overflows has so great a value. -/
theorem over_iff (s : Nat) (u H : Int) (C : Nat) (h0 : s ≠ 0) (hu : 0 ≤ u + (C : Int)) (hH : 0 ≤ H + 1 + (C : Int)) : H < u + (bitLen s : Int) - 1 ↔ 2 ^ (H + 1 + (C : Int)).toNat ≤ s * 2 ^ (u + (C : Int)).toNat := by
  have a1 : 2 ^ (bitLen s - 1 + (u + (C : Int)).toNat) ≤ s * 2 ^ (u + (C : Int)).toNat := by rw [Nat.pow_add]; exact Nat.mul_le_mul_right _ (bitLen_lo h0)
  have a2 : s * 2 ^ (u + (C : Int)).toNat < 2 ^ (bitLen s + (u + (C : Int)).toNat) := by rw [Nat.pow_add]; exact Nat.mul_lt_mul_of_pos_right (bitLen_hi s) (Nat.two_pow_pos _)
  have hp := bitLen_pos h0
  constructor
  · intro h
    exact Nat.le_trans (Nat.pow_le_pow_right (by decide) (by omega)) a1
  · intro h
    have a3 := (Nat.pow_lt_pow_iff_right (by decide : 1 < 2)).1 (Nat.lt_of_le_of_lt h a2)
    omega
theorem steps_zero (p : Nat) (L : Int) (m : Nat) (e mode : Int) (neg : Bool) (hp : 1 ≤ p) (h0 : m ≠ 0) (h : rSteps p L m e mode neg = 0) : rUnit p L m e = L - (p : Int) + 1 := by
  apply Classical.byContradiction
  intro hc
  have ht : rTop m e = rUnit p L m e + (p : Int) - 1 := by unfold rUnit at hc ⊢; omega
  have hq : 2 ^ (p - 1) ≤ cutQ m (rUnit p L m e - e) := cutQ_ge m e _ (p - 1) h0 (by unfold rTop at ht; omega)
  have := Nat.two_pow_pos (p - 1)
  unfold rSteps stepQ at h
  omega
theorem over_rise (p : Nat) (L H : Int) (m1 m2 : Nat) (e1 e2 : Int) (C : Nat) (mode : Int) (neg : Bool) (hp : 1 ≤ p) (h1 : m1 ≠ 0) (h2 : m2 ≠ 0) (he1 : 0 ≤ e1 + (C : Int)) (he2 : 0 ≤ e2 + (C : Int)) (hL : 0 ≤ L - (p : Int) + 1 + (C : Int)) (hLH : L ≤ H)
    (h : m1 * 2 ^ (e1 + (C : Int)).toNat ≤ m2 * 2 ^ (e2 + (C : Int)).toNat) (ho : rOver p L H m1 e1 mode neg) : rOver p L H m2 e2 mode neg := by
  have hr := steps_rise p L m1 m2 e1 e2 C mode neg hp h1 h2 he1 he2 hL h
  have hu1 : 0 ≤ rUnit p L m1 e1 + (C : Int) := by unfold rUnit; omega
  have hu2 : 0 ≤ rUnit p L m2 e2 + (C : Int) := by unfold rUnit; omega
  unfold rOver at ho ⊢
  have hs1 : rSteps p L m1 e1 mode neg ≠ 0 := by
    intro hz
    have := steps_zero p L m1 e1 mode neg hp h1 hz
    rw [hz, this, bitLen_zero] at ho
    omega
  have g1 := (over_iff _ _ H C hs1 hu1 (by omega)).1 ho
  have hs2 : rSteps p L m2 e2 mode neg ≠ 0 := by
    intro hz
    rw [hz, Nat.zero_mul] at hr
    have := Nat.two_pow_pos (H + 1 + (C : Int)).toNat
    omega
  exact (over_iff _ _ H C hs2 hu2 (by omega)).2 (Nat.le_trans g1 hr)
theorem big_top (p T : Nat) (hp : 1 ≤ p) (hT : p ≤ T) : 2 ^ (T - 1) ≤ (2 ^ p - 1) * 2 ^ (T - p) := by
  have e : 2 ^ (T - 1) = 2 ^ (p - 1) * 2 ^ (T - p) := by rw [← Nat.pow_add]; congr 1; omega
  rw [e]
  apply Nat.mul_le_mul_right
  have : 2 ^ p = 2 * 2 ^ (p - 1) := by rw [← Nat.pow_succ']; congr 1; omega
  have := Nat.two_pow_pos (p - 1)
  omega
/-- What doesn't overflow is at most the greatest number. -/
theorem below_big (p s : Nat) (u H : Int) (C : Nat) (hp : 1 ≤ p) (hs : s ≤ 2 ^ p) (hu : 0 ≤ u + (C : Int)) (hH : 0 ≤ H - (p : Int) + 1 + (C : Int)) (h : u + (bitLen s : Int) - 1 ≤ H) : s * 2 ^ (u + (C : Int)).toNat ≤ (2 ^ p - 1) * 2 ^ (H - (p : Int) + 1 + (C : Int)).toNat := by
  by_cases h0 : s = 0
  · rw [h0, Nat.zero_mul]; exact Nat.zero_le _
  obtain ⟨T, hT⟩ : ∃ T, (H + 1 + (C : Int)).toNat = T := ⟨_, rfl⟩
  obtain ⟨a, ha⟩ : ∃ a, (u + (C : Int)).toNat = a := ⟨_, rfl⟩
  have eT : (H - (p : Int) + 1 + (C : Int)).toNat = T - p := by omega
  have hpT : p ≤ T := by omega
  rw [eT, ha]
  have hb := bitLen_hi s
  have hbp := bitLen_pos h0
  have hab : a + bitLen s ≤ T := by omega
  have hbt := big_top p T hp hpT
  rcases Nat.lt_or_eq_of_le hab with hlt | heq
  · have : s * 2 ^ a < 2 ^ bitLen s * 2 ^ a := Nat.mul_lt_mul_of_pos_right hb (Nat.two_pow_pos _)
    rw [← Nat.pow_add] at this
    have h3 : 2 ^ (bitLen s + a) ≤ 2 ^ (T - 1) := Nat.pow_le_pow_right (by decide) (by omega)
    omega
  · by_cases hbl : bitLen s ≤ p
    · have e1 : a = (p - bitLen s) + (T - p) := by omega
      rw [e1, Nat.pow_add, ← Nat.mul_assoc]
      apply Nat.mul_le_mul_right
      have h4 : (s + 1) * 2 ^ (p - bitLen s) ≤ 2 ^ bitLen s * 2 ^ (p - bitLen s) := Nat.mul_le_mul_right _ hb
      rw [← Nat.pow_add, Nat.add_sub_cancel' hbl, Nat.add_mul, Nat.one_mul] at h4
      have := Nat.two_pow_pos (p - bitLen s)
      omega
    · have hsp : 2 ^ p ≤ s := Nat.le_trans (Nat.pow_le_pow_right (by decide) (by omega)) (bitLen_lo h0)
      have hse : s = 2 ^ p := by omega
      rw [hse, bitLen_pow] at heq
      rw [hse, ← Nat.pow_add]
      exact Nat.le_trans (Nat.pow_le_pow_right (by decide) (by omega)) hbt

theorem nv_mono_iff {r s : Nat} : nv r ≤ nv s ↔ r ≤ s := by
  constructor
  · intro h
    apply Classical.byContradiction
    intro hc
    have := nv_lt (r := s) (s := r) (by omega)
    omega
  · exact nv_le
theorem wMag_nv (s : Nat) (u : Int) (hs : s ≤ 9007199254740992) (hu : -1074 ≤ u) (ht : u + (bitLen s : Int) - 1 ≤ 1023) : nv (wMag s u) = s * 2 ^ (u + 1074).toNat ∧ wMag s u < 9218868437227405312 := by
  by_cases h0 : s = 0
  · rw [h0, Nat.zero_mul]
    have : wMag 0 u = 0 := by unfold wMag; rw [if_pos rfl]
    rw [this, nv_zero]
    exact ⟨rfl, by decide⟩
  · exact ⟨(good_val s u h0 hs hu ht).2, (good_val s u h0 hs hu ht).1⟩
/-- Taking a common power out. -/
theorem cancel_pow (s1 s2 : Nat) (u1 u2 : Int) (c C : Nat) (hc : c ≤ C) (h1 : 0 ≤ u1 + (c : Int)) (h2 : 0 ≤ u2 + (c : Int)) (h : s1 * 2 ^ (u1 + (C : Int)).toNat ≤ s2 * 2 ^ (u2 + (C : Int)).toNat) : s1 * 2 ^ (u1 + (c : Int)).toNat ≤ s2 * 2 ^ (u2 + (c : Int)).toNat := by
  have e1 : (u1 + (C : Int)).toNat = (u1 + (c : Int)).toNat + (C - c) := by omega
  have e2 : (u2 + (C : Int)).toNat = (u2 + (c : Int)).toNat + (C - c) := by omega
  rw [e1, e2, Nat.pow_add, Nat.pow_add, ← Nat.mul_assoc, ← Nat.mul_assoc] at h
  exact Nat.le_of_mul_le_mul_right h (Nat.two_pow_pos _)
theorem below_big' (p s B : Nat) (u H E : Int) (C : Nat) (hB : 2 ^ p - 1 = B) (hE : H - (p : Int) + 1 + (C : Int) = E) (hp : 1 ≤ p) (hs : s ≤ 2 ^ p) (hu : 0 ≤ u + (C : Int)) (hH : 0 ≤ H - (p : Int) + 1 + (C : Int)) (h : u + (bitLen s : Int) - 1 ≤ H) : s * 2 ^ (u + (C : Int)).toNat ≤ B * 2 ^ E.toNat := by
  have := below_big p s u H C hp hs hu hH h
  rw [hB, hE] at this
  exact this
theorem big64_len : bitLen 9007199254740991 = 53 := by decide +kernel
theorem rMag64_le (m : Nat) (e mode : Int) (neg : Bool) : rMag 53 (-1022) 1023 m e mode neg ≤ 9218868437227405312 := by
  unfold rMag
  by_cases o : rOver 53 (-1022) 1023 m e mode neg
  · rw [if_pos o]
    have hbig : bigM 53 1023 mode neg = if growsOf mode neg true 3 = true then 9218868437227405312 else wMag 9007199254740991 971 := rfl
    rw [hbig]
    split
    · exact Nat.le_refl _
    · exact Nat.le_of_lt (wMag_nv 9007199254740991 971 (by decide) (by decide) (by rw [big64_len]; decide)).2
  · rw [if_neg o]
    obtain ⟨a1, a2, a3⟩ := rOver_not 53 (-1022) 1023 m e mode neg 53 rfl (by decide) (by decide) (by decide) o
    exact Nat.le_of_lt (wMag_nv _ _ a1 a2 a3).2
theorem rMag_rise (m1 m2 : Nat) (e1 e2 : Int) (mode : Int) (neg : Bool) (C : Nat) (hC : 1074 ≤ C) (h1 : m1 ≠ 0) (h2 : m2 ≠ 0) (he1 : 0 ≤ e1 + (C : Int)) (he2 : 0 ≤ e2 + (C : Int)) (h : m1 * 2 ^ (e1 + (C : Int)).toNat ≤ m2 * 2 ^ (e2 + (C : Int)).toNat) :
    rMag 53 (-1022) 1023 m1 e1 mode neg ≤ rMag 53 (-1022) 1023 m2 e2 mode neg := by
  have hr : rSteps 53 (-1022) m1 e1 mode neg * 2 ^ (rUnit 53 (-1022) m1 e1 + (C : Int)).toNat ≤ rSteps 53 (-1022) m2 e2 mode neg * 2 ^ (rUnit 53 (-1022) m2 e2 + (C : Int)).toNat := steps_rise 53 (-1022) m1 m2 e1 e2 C mode neg (by decide) h1 h2 he1 he2 (by omega) h
  have hov : rOver 53 (-1022) 1023 m1 e1 mode neg → rOver 53 (-1022) 1023 m2 e2 mode neg := over_rise 53 (-1022) 1023 m1 m2 e1 e2 C mode neg (by decide) h1 h2 he1 he2 (by omega) (by decide) h
  by_cases o1 : rOver 53 (-1022) 1023 m1 e1 mode neg
  · unfold rMag
    rw [if_pos o1, if_pos (hov o1)]; exact Nat.le_refl _
  · obtain ⟨a1, a2, a3⟩ := rOver_not 53 (-1022) 1023 m1 e1 mode neg 53 rfl (by decide) (by decide) (by decide) o1
    unfold rMag
    rw [if_neg o1]
    by_cases o2 : rOver 53 (-1022) 1023 m2 e2 mode neg
    · rw [if_pos o2]
      have hbig : bigM 53 1023 mode neg = if growsOf mode neg true 3 = true then 9218868437227405312 else wMag 9007199254740991 971 := rfl
      rw [hbig]
      split
      · exact Nat.le_of_lt (wMag_nv _ _ a1 a2 a3).2
      · rw [← nv_mono_iff, (wMag_nv _ _ a1 a2 a3).1, (wMag_nv 9007199254740991 971 (by decide) (by decide) (by rw [big64_len]; decide)).1]
        exact below_big' 53 (rSteps 53 (-1022) m1 e1 mode neg) 9007199254740991 (rUnit 53 (-1022) m1 e1) 1023 (971 + 1074) 1074 (by decide) (by decide) (by decide) a1 (by omega) (by decide) a3
    · rw [if_neg o2]
      obtain ⟨b1, b2, b3⟩ := rOver_not 53 (-1022) 1023 m2 e2 mode neg 53 rfl (by decide) (by decide) (by decide) o2
      rw [← nv_mono_iff, (wMag_nv _ _ a1 a2 a3).1, (wMag_nv _ _ b1 b2 b3).1]
      exact cancel_pow _ _ _ _ 1074 C hC (by omega) (by omega) hr

theorem rnd_rise {m1 m2 : Nat} (e : Int) (he : -2148 ≤ e) (h : m1 ≤ m2) : rndM m1 e ≤ rndM m2 e := by
  unfold rndM
  by_cases h1 : m1 = 0
  · rw [if_pos h1]; exact Nat.zero_le _
  · have h2 : m2 ≠ 0 := by omega
    rw [if_neg h1, if_neg h2]
    exact rMag_rise m1 m2 e e 0 false 2148 (by decide) h1 h2 (by omega) (by omega) (Nat.mul_le_mul_right _ h)
theorem nv_two (p : Nat) (hp : 1 ≤ p) : nv (twoW p) = 4503599627370496 * 2 ^ (p - 1) := by
  rw [nvq_full (twoW p) (by unfold twoW; omega)]
  unfold twoW
  rw [Nat.mul_mod_left, Nat.add_zero, Nat.mul_div_cancel _ (by decide)]
theorem rnd_two (a b c : Nat) (ha : 1 ≤ a) (hb : 1 ≤ b) (hc : c + 1023 = a + b) (hc1 : 1 ≤ c) (hc2 : c ≤ 2046) : rndM (nv (twoW a) * nv (twoW b)) (-2148) = twoW c := by
  have e : nv (twoW a) * nv (twoW b) = nv (twoW c) * 2 ^ 1074 := by
    rw [nv_two a ha, nv_two b hb, nv_two c hc1]
    exact twoq_pow (a - 1) (b - 1) (c - 1) 1074 (by omega) 4503599627370496
  rw [e]
  have := rndM_sc (nv (twoW c)) 1074 (-1074)
  rw [show (-1074 : Int) - ((1074 : Nat) : Int) = -2148 by decide] at this
  rw [this]
  exact rndq_nv _ (by unfold twoW; omega)
/-- A product of numbers that are at most 2^(a - 1023) and 2^(b - 1023). -/
theorem mul_most (x y a b c : Nat) (hx : x < 18446744073709551616) (hy : y < 18446744073709551616) (ha : 1 ≤ a) (hb : 1 ≤ b) (hc : c + 1023 = a + b) (hc1 : 1 ≤ c) (hc2 : c ≤ 2046) (ba : a ≤ 2046) (bb : b ≤ 2046) (mx : x % 9223372036854775808 ≤ twoW a) (my : y % 9223372036854775808 ≤ twoW b) :
    ∃ z, floatBits .mul .f64 x y = some z ∧ z < 18446744073709551616 ∧ z % 9223372036854775808 ≤ twoW c ∧ (9223372036854775808 ≤ z ↔ (9223372036854775808 ≤ x ↔ ¬ 9223372036854775808 ≤ y)) := by
  have fa : twoW a < 9218868437227405312 := by unfold twoW; omega
  have fb : twoW b < 9218868437227405312 := by unfold twoW; omega
  have fc : twoW c < 9218868437227405312 := by unfold twoW; omega
  have h := mul_rndS x y hx hy (by omega) (by omega)
  have hr : rndM (nv (x % 9223372036854775808) * nv (y % 9223372036854775808)) (-2148) ≤ twoW c := by
    rw [← rnd_two a b c ha hb hc hc1 hc2]
    exact rnd_rise _ (by decide) (Nat.mul_le_mul (nv_le mx) (nv_le my))
  obtain ⟨R, hR⟩ : ∃ t, rndM (nv (x % 9223372036854775808) * nv (y % 9223372036854775808)) (-2148) = t := ⟨_, rfl⟩
  rw [hR] at h hr
  refine ⟨_, h, ?_⟩
  unfold signN
  by_cases sx : 9223372036854775808 ≤ x <;> by_cases sy : 9223372036854775808 ≤ y <;> simp [sx, sy] <;> omega
end Go.Proofs.Ythakhmnlpmfdgaa
