
/- How numbers of binary64 stand to each other, told by their bits: the order of their values is that of a whole number made of the bits; no program is spoken of. -/
import Derived.Test.YthakhmnlpmfdgaaP1
import GoSem.Core.Float
namespace Go.Proofs.Ythakhmnlpmfdgaa
open Go

/-- The value of a magnitude, in steps of 2^-1074. -/
def nv (r : Nat) : Nat := if r < 4503599627370496 then r else (4503599627370496 + r % 4503599627370496) * 2 ^ (r / 4503599627370496 - 1)
theorem nv_zero : nv 0 = 0 := by decide
theorem nv_lt {r s : Nat} (h : r < s) : nv r < nv s := by
  unfold nv
  by_cases h2 : s < 4503599627370496
  · rw [if_pos (by omega), if_pos h2]; exact h
  · rw [if_neg h2]
    have hp := Nat.two_pow_pos (s / 4503599627370496 - 1)
    by_cases h1 : r < 4503599627370496
    · rw [if_pos h1]
      have := Nat.le_mul_of_pos_right (4503599627370496 + s % 4503599627370496) hp
      omega
    · rw [if_neg h1]
      by_cases hq : r / 4503599627370496 = s / 4503599627370496
      · rw [hq]
        exact Nat.mul_lt_mul_of_pos_right (by omega) hp
      · have hlt : r / 4503599627370496 < s / 4503599627370496 := by omega
        have e1 : (4503599627370496 + r % 4503599627370496) * 2 ^ (r / 4503599627370496 - 1) < (2 * 4503599627370496) * 2 ^ (r / 4503599627370496 - 1) :=
          Nat.mul_lt_mul_of_pos_right (by omega) (Nat.two_pow_pos _)
        have e2 : (2 * 4503599627370496) * 2 ^ (r / 4503599627370496 - 1) = 4503599627370496 * 2 ^ (r / 4503599627370496) := by
          obtain ⟨j, hj⟩ : ∃ j, r / 4503599627370496 = j + 1 := ⟨r / 4503599627370496 - 1, by omega⟩
          rw [hj, Nat.add_sub_cancel, Nat.pow_succ]; omega
        have e3 : 4503599627370496 * 2 ^ (r / 4503599627370496) ≤ 4503599627370496 * 2 ^ (s / 4503599627370496 - 1) :=
          Nat.mul_le_mul_left _ (Nat.pow_le_pow_right (by omega) (by omega))
        have e4 : 4503599627370496 * 2 ^ (s / 4503599627370496 - 1) ≤ (4503599627370496 + s % 4503599627370496) * 2 ^ (s / 4503599627370496 - 1) :=
          Nat.mul_le_mul_right _ (by omega)
        omega
theorem nv_le {r s : Nat} (h : r ≤ s) : nv r ≤ nv s := by
  rcases Nat.lt_or_eq_of_le h with h | h
  · exact Nat.le_of_lt (nv_lt h)
  · rw [h]; exact Nat.le_refl _
/-- The value of a number's bits, with its sign, in steps of 2^-1074 (an infinity: what would come next). -/
def sv (x : Nat) : Int := if 9223372036854775808 ≤ x then -(nv (x % 9223372036854775808) : Int) else (nv (x % 9223372036854775808) : Int)

theorem fmt_sw : FloatKind.f64.format.signWeight = 9223372036854775808 := by decide
theorem fmt_bin : FloatKind.f64.format.binade = 4503599627370496 := by decide
theorem fmt_inf : FloatKind.f64.format.infRung = 9218868437227405312 := by decide
theorem fmt_lp : FloatKind.f64.format.leastPlace = -1074 := by decide

theorem sign_read (x : Nat) (hx : x < 18446744073709551616) : (x / 9223372036854775808 % 2 == 1) = decide (9223372036854775808 ≤ x) := by
  by_cases h : 9223372036854775808 ≤ x
  · have : x / 9223372036854775808 = 1 := by omega
    rw [decide_eq_true h, this]; rfl
  · have : x / 9223372036854775808 = 0 := by omega
    rw [decide_eq_false h, this]; rfl
theorem read_fin (x : Nat) (hx : x < 18446744073709551616) (h : x % 9223372036854775808 < 9218868437227405312) :
    ∃ m : Nat, ∃ p : Nat, FloatKind.f64.format.read x = .number (decide (9223372036854775808 ≤ x)) m ((p : Int) - 1074) ∧ m * 2 ^ p = nv (x % 9223372036854775808) := by
  unfold Ieee.Format.read
  rw [fmt_sw, fmt_bin, fmt_inf, fmt_lp, sign_read x hx]
  unfold nv
  by_cases h1 : x % 9223372036854775808 < 4503599627370496
  · exact ⟨x % 9223372036854775808, 0, by simp only [if_pos h1]; rfl, by rw [if_pos h1]; omega⟩
  · refine ⟨4503599627370496 + x % 9223372036854775808 % 4503599627370496, x % 9223372036854775808 / 4503599627370496 - 1, ?_, by rw [if_neg h1]⟩
    simp only [if_neg h1, if_pos h]
    congr 1
theorem read_inf (x : Nat) (hx : x < 18446744073709551616) (h : x % 9223372036854775808 = 9218868437227405312) :
    FloatKind.f64.format.read x = .infinity (decide (9223372036854775808 ≤ x)) := by
  unfold Ieee.Format.read
  rw [fmt_sw, fmt_bin, fmt_inf, fmt_lp, sign_read x hx]
  simp only [h]
  rfl
theorem read_nan (x : Nat) (h : 9218868437227405312 < x % 9223372036854775808) : ∃ s t, FloatKind.f64.format.read x = .nan s t := by
  unfold Ieee.Format.read
  rw [fmt_sw, fmt_bin, fmt_inf]
  refine ⟨(x / 9223372036854775808 % 2 == 1), x % 9223372036854775808 - 9218868437227405312, ?_⟩
  simp only
  rw [if_neg (by omega), if_neg (by omega), if_neg (by omega)]

theorem order_nan_l (x y : Nat) (h : 9218868437227405312 < x % 9223372036854775808) : FloatKind.f64.format.order x y = none := by
  obtain ⟨s, t, e⟩ := read_nan x h
  unfold Ieee.Format.order
  rw [e]; rfl
theorem order_nan_r (x y : Nat) (h : 9218868437227405312 < y % 9223372036854775808) : FloatKind.f64.format.order x y = none := by
  obtain ⟨s, t, e⟩ := read_nan y h
  unfold Ieee.Format.order
  rw [e]
  cases FloatKind.f64.format.read x <;> rfl

theorem cmp_lt {a b : Int} (h : a < b) : compare a b = .lt := Int.compare_eq_lt.2 h
theorem cmp_gt {a b : Int} (h : b < a) : compare a b = .gt := Int.compare_eq_gt.2 h
theorem cmp_eq {a b : Int} (h : a = b) : compare a b = .eq := Int.compare_eq_eq.2 h
theorem cmp_scale (a b : Int) (c : Nat) (hc : 0 < c) : compare a b = compare (a * c) (b * c) := by
  have hc' : (0 : Int) < c := by omega
  rcases Int.lt_trichotomy a b with h | h | h
  · rw [cmp_lt h, cmp_lt (Int.mul_lt_mul_of_pos_right h hc')]
  · rw [cmp_eq h, cmp_eq (by rw [h])]
  · rw [cmp_gt h, cmp_gt (Int.mul_lt_mul_of_pos_right h hc')]

theorem signed_scale (s : Bool) (m i p : Nat) (h : i ≤ p) : Ieee.signed s m (p - i) * ((2 ^ i : Nat) : Int) = if s then -((m * 2 ^ p : Nat) : Int) else ((m * 2 ^ p : Nat) : Int) := by
  have e : m * 2 ^ p = (m <<< (p - i)) * 2 ^ i := by
    rw [Nat.shiftLeft_eq, Nat.mul_assoc, ← Nat.pow_add]
    congr 2
    omega
  unfold Ieee.signed
  cases s
  · simp only [if_neg (show ¬ false = true by decide)]
    rw [e, Int.natCast_mul]
  · simp only [if_pos]
    rw [e, Int.natCast_mul, Int.neg_mul]

theorem order_eq (x y : Nat) (hx : x < 18446744073709551616) (hy : y < 18446744073709551616) (nx : x % 9223372036854775808 ≤ 9218868437227405312) (ny : y % 9223372036854775808 ≤ 9218868437227405312) :
    FloatKind.f64.format.order x y = some (compare (sv x) (sv y)) := by
  have hinf : 0 < nv 9218868437227405312 := by have := nv_lt (r := 0) (s := 9218868437227405312) (by omega); omega
  unfold Ieee.Format.order sv
  rcases Nat.lt_or_eq_of_le nx with fx | fx
  · obtain ⟨m, p, ex, vx⟩ := read_fin x hx fx
    have lx := nv_lt fx
    rw [ex, ← vx]
    rw [← vx] at lx
    rcases Nat.lt_or_eq_of_le ny with fy | fy
    · obtain ⟨n, q, ey, vy⟩ := read_fin y hy fy
      rw [ey, ← vy]
      show some (compare _ _) = _
      congr 1
      have hb : min ((p : Int) - 1074) ((q : Int) - 1074) = ((min p q : Nat) : Int) - 1074 := by omega
      rw [hb]
      have t1 : ((p : Int) - 1074 - (((min p q : Nat) : Int) - 1074)).toNat = p - min p q := by omega
      have t2 : ((q : Int) - 1074 - (((min p q : Nat) : Int) - 1074)).toNat = q - min p q := by omega
      rw [t1, t2, cmp_scale _ _ (2 ^ min p q) (Nat.two_pow_pos _), signed_scale _ _ _ _ (Nat.min_le_left _ _), signed_scale _ _ _ _ (Nat.min_le_right _ _)]
      simp only [decide_eq_true_eq]
    · rw [read_inf y hy fy, fy]
      show some (if decide (9223372036854775808 ≤ y) = true then Ordering.gt else Ordering.lt) = _
      congr 1
      by_cases hy2 : 9223372036854775808 ≤ y
      · rw [if_pos (by simpa using hy2), if_pos hy2]
        symm; apply cmp_gt
        split <;> omega
      · rw [if_neg (by simpa using hy2), if_neg hy2]
        symm; apply cmp_lt
        split <;> omega
  · rw [read_inf x hx fx, fx]
    rcases Nat.lt_or_eq_of_le ny with fy | fy
    · obtain ⟨n, q, ey, vy⟩ := read_fin y hy fy
      have ly := nv_lt fy
      rw [ey, ← vy]
      rw [← vy] at ly
      show some (if decide (9223372036854775808 ≤ x) = true then Ordering.lt else Ordering.gt) = _
      congr 1
      by_cases hx2 : 9223372036854775808 ≤ x
      · rw [if_pos (by simpa using hx2), if_pos hx2]
        symm; apply cmp_lt
        split <;> omega
      · rw [if_neg (by simpa using hx2), if_neg hx2]
        symm; apply cmp_gt
        split <;> omega
    · rw [read_inf y hy fy, fy]
      show some (compare (decide (9223372036854775808 ≤ y)).toNat (decide (9223372036854775808 ≤ x)).toNat) = _
      congr 1
      by_cases hx2 : 9223372036854775808 ≤ x <;> by_cases hy2 : 9223372036854775808 ≤ y
      · rw [if_pos hx2, if_pos hy2, decide_eq_true hx2, decide_eq_true hy2, cmp_eq rfl]; rfl
      · rw [if_pos hx2, if_neg hy2, decide_eq_true hx2, decide_eq_false hy2, cmp_lt (by omega)]; rfl
      · rw [if_neg hx2, if_pos hy2, decide_eq_false hx2, decide_eq_true hy2, cmp_gt (by omega)]; rfl
      · rw [if_neg hx2, if_neg hy2, decide_eq_false hx2, decide_eq_false hy2, cmp_eq rfl]; rfl
theorem key_num (x : Nat) (nx : x % 9223372036854775808 ≤ 9218868437227405312) : keyOf x = if 9223372036854775808 ≤ x then -1 - ((x % 9223372036854775808 : Nat) : Int) else ((x % 9223372036854775808 : Nat) : Int) := by
  unfold keyOf; rw [if_neg (by omega)]
theorem key_sv (x y : Nat) (nx : x % 9223372036854775808 ≤ 9218868437227405312) (ny : y % 9223372036854775808 ≤ 9218868437227405312) (h : sv x < sv y) : keyOf x < keyOf y := by
  apply Classical.byContradiction
  intro hn
  have hz := nv_zero
  rw [key_num x nx, key_num y ny] at hn
  unfold sv at h
  by_cases hx2 : 9223372036854775808 ≤ x <;> by_cases hy2 : 9223372036854775808 ≤ y
  · rw [if_pos hx2, if_pos hy2] at h hn
    have := nv_le (r := x % 9223372036854775808) (s := y % 9223372036854775808) (by omega)
    omega
  · rw [if_pos hx2, if_neg hy2] at h hn
    omega
  · rw [if_neg hx2, if_pos hy2] at h hn
    omega
  · rw [if_neg hx2, if_neg hy2] at h hn
    have := nv_le (r := y % 9223372036854775808) (s := x % 9223372036854775808) (by omega)
    omega
/-- Where '<' tells, the places tell the same. -/
theorem lt_key (x y : Nat) (hx : x < 18446744073709551616) (hy : y < 18446744073709551616) (h : FloatKind.f64.format.order x y = some .lt) : keyOf x < keyOf y := by
  by_cases nx : 9218868437227405312 < x % 9223372036854775808
  · rw [order_nan_l x y nx] at h; cases h
  by_cases ny : 9218868437227405312 < y % 9223372036854775808
  · rw [order_nan_r x y ny] at h; cases h
  rw [order_eq x y hx hy (by omega) (by omega)] at h
  exact key_sv x y (by omega) (by omega) (Int.compare_eq_lt.1 (Option.some.inj h))
theorem gt_key (x y : Nat) (hx : x < 18446744073709551616) (hy : y < 18446744073709551616) (h : FloatKind.f64.format.order x y = some .gt) : keyOf y < keyOf x := by
  by_cases nx : 9218868437227405312 < x % 9223372036854775808
  · rw [order_nan_l x y nx] at h; cases h
  by_cases ny : 9218868437227405312 < y % 9223372036854775808
  · rw [order_nan_r x y ny] at h; cases h
  rw [order_eq x y hx hy (by omega) (by omega)] at h
  exact key_sv y x (by omega) (by omega) (Int.compare_eq_gt.1 (Option.some.inj h))
theorem canon_key (x y : Nat) (hx : x < 18446744073709551616) (hy : y < 18446744073709551616) : canonOf x = canonOf y ↔ keyOf x = keyOf y := by
  unfold canonOf keyOf
  split <;> split <;> (try split) <;> (try split) <;> constructor <;> intro h <;> omega
theorem order_self (x : Nat) (hx : x < 18446744073709551616) : (FloatKind.f64.format.order x x != some .eq) = decide (9218868437227405312 < x % 9223372036854775808) := by
  by_cases h : 9218868437227405312 < x % 9223372036854775808
  · rw [order_nan_l x x h, decide_eq_true h]; rfl
  · rw [order_eq x x hx hx (by omega) (by omega), cmp_eq rfl, decide_eq_false h]; rfl
/-- The number at a place, and the error's number. -/
def unkeyOf (k : Int) : Nat :=
  if k < -9218868437227405313 ∨ 9218868437227405313 < k then 0 else if k = 9218868437227405313 then 9221120237041090561 else if k < 0 then (-1 - k).toNat + 9223372036854775808 else k.toNat
def unkeyErr (k : Int) : Int := if k < -9218868437227405313 ∨ 9218868437227405313 < k then 1 else 0
theorem unkey_lt (k : Int) : unkeyOf k < 18446744073709551616 := by
  unfold unkeyOf; split
  · omega
  · split
    · omega
    · split <;> omega
theorem unkey_key (x : Nat) (hx : x < 18446744073709551616) : unkeyOf (keyOf x) = canonOf x ∧ unkeyErr (keyOf x) = 0 := by
  unfold unkeyOf unkeyErr keyOf canonOf
  by_cases h : 9218868437227405312 < x % 9223372036854775808
  · rw [if_pos h, if_pos h]
    exact ⟨by rw [if_neg (by omega), if_pos rfl], by rw [if_neg (by omega)]⟩
  · rw [if_neg h, if_neg h]
    by_cases h2 : 9223372036854775808 ≤ x
    · rw [if_pos h2]
      exact ⟨by rw [if_neg (by omega), if_neg (by omega), if_pos (by omega)]; omega, by rw [if_neg (by omega)]⟩
    · rw [if_neg h2]
      exact ⟨by rw [if_neg (by omega), if_neg (by omega), if_neg (by omega)]; omega, by rw [if_neg (by omega)]⟩
theorem unkey_neg_w (k : Int) (h1 : -9218868437227405313 ≤ k) (h0 : k < 0) : (bits .or .u64 (-1 - k) 9223372036854775808).toNat = (-1 - k).toNat + 9223372036854775808 := by
  obtain ⟨n, hn⟩ := Int.eq_ofNat_of_zero_le (show 0 ≤ -1 - k by omega)
  rw [hn]
  have h := u64_or_nat n 9223372036854775808 (by omega) (by omega)
  have e : n ||| 9223372036854775808 = n + 9223372036854775808 := by
    rw [Nat.or_comm, Nat.add_comm]
    exact nat_join 63 9223372036854775808 n (by decide) (by simp only [Nat.reducePow]; omega)
  rw [e] at h
  have h' : bits .or .u64 (n : Int) 9223372036854775808 = ((n + 9223372036854775808 : Nat) : Int) := h
  rw [h']
  omega
theorem sv_zero : sv 0 = 0 := by decide
theorem order_zero (x : Nat) (hx : x < 18446744073709551616) : (FloatKind.f64.format.order x 0 == some .eq) = decide (x % 9223372036854775808 = 0) := by
  by_cases h : 9218868437227405312 < x % 9223372036854775808
  · rw [order_nan_l x 0 h, decide_eq_false (by omega)]; rfl
  · rw [order_eq x 0 hx (by omega) (by omega) (by omega), sv_zero]
    by_cases h0 : x % 9223372036854775808 = 0
    · have e : sv x = 0 := by unfold sv; rw [h0, nv_zero]; split <;> rfl
      rw [decide_eq_true h0, cmp_eq e]; rfl
    · have e : sv x ≠ 0 := by
        have := nv_lt (r := 0) (s := x % 9223372036854775808) (by omega)
        unfold sv; split <;> omega
      rw [decide_eq_false h0]
      rcases Int.lt_or_gt_of_ne e with e | e
      · rw [cmp_lt e]; rfl
      · rw [cmp_gt e]; rfl
end Go.Proofs.Ythakhmnlpmfdgaa
