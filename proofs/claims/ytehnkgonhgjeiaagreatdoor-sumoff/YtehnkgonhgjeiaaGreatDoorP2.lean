
/- How numbers of binary64 stand to each other, told by their bits: the order of their values is that of a whole number made of the bits; no program is spoken of. -/
import Derived.Test.YtehnkgonhgjeiaaGreatDoorP1
import GoSem.Core.Float
namespace Go.Proofs.YtehnkgonhgjeiaaGreatDoor
open Go

/-- The value of a magnitude, in steps of 2^-1074. -/
def nv (r : Nat) : Nat := if r < 4503599627370496 then r else (4503599627370496 + r % 4503599627370496) * 2 ^ (r / 4503599627370496 - 1)
theorem nv_zero : nv 0 = 0 := by decide
theorem nv_lt {r s : Nat} (h : r < s) : nv r < nv s := by
  unfold nv
  by_cases h2 : s < 4503599627370496
  · rw [if_pos (by omega), if_pos h2]; exact h
  · rw [if_neg h2]
    have hp := Nat.two_pow_pos (s / 4503599627370496 - 1)
    by_cases h1 : r < 4503599627370496
    · rw [if_pos h1]
      have := Nat.le_mul_of_pos_right (4503599627370496 + s % 4503599627370496) hp
      omega
    · rw [if_neg h1]
      by_cases hq : r / 4503599627370496 = s / 4503599627370496
      · rw [hq]
        exact Nat.mul_lt_mul_of_pos_right (by omega) hp
      · have hlt : r / 4503599627370496 < s / 4503599627370496 := by omega
        have e1 : (4503599627370496 + r % 4503599627370496) * 2 ^ (r / 4503599627370496 - 1) < (2 * 4503599627370496) * 2 ^ (r / 4503599627370496 - 1) :=
          Nat.mul_lt_mul_of_pos_right (by omega) (Nat.two_pow_pos _)
        have e2 : (2 * 4503599627370496) * 2 ^ (r / 4503599627370496 - 1) = 4503599627370496 * 2 ^ (r / 4503599627370496) := by
          obtain ⟨j, hj⟩ : ∃ j, r / 4503599627370496 = j + 1 := ⟨r / 4503599627370496 - 1, by omega⟩
          rw [hj, Nat.add_sub_cancel, Nat.pow_succ]; omega
        have e3 : 4503599627370496 * 2 ^ (r / 4503599627370496) ≤ 4503599627370496 * 2 ^ (s / 4503599627370496 - 1) :=
          Nat.mul_le_mul_left _ (Nat.pow_le_pow_right (by omega) (by omega))
        have e4 : 4503599627370496 * 2 ^ (s / 4503599627370496 - 1) ≤ (4503599627370496 + s % 4503599627370496) * 2 ^ (s / 4503599627370496 - 1) :=
          Nat.mul_le_mul_right _ (by omega)
        omega
theorem nv_le {r s : Nat} (h : r ≤ s) : nv r ≤ nv s := by
  rcases Nat.lt_or_eq_of_le h with h | h
  · exact Nat.le_of_lt (nv_lt h)
  · rw [h]; exact Nat.le_refl _
/-- The value of a number's bits, with its sign, in steps of 2^-1074 (an infinity: what would come next). -/
def sv (x : Nat) : Int := if 9223372036854775808 ≤ x then -(nv (x % 9223372036854775808) : Int) else (nv (x % 9223372036854775808) : Int)

theorem fmt_sw : FloatKind.f64.format.signWeight = 9223372036854775808 := by decide
theorem fmt_bin : FloatKind.f64.format.binade = 4503599627370496 := by decide
theorem fmt_inf : FloatKind.f64.format.infRung = 9218868437227405312 := by decide
theorem fmt_lp : FloatKind.f64.format.leastPlace = -1074 := by decide

theorem sign_read (x : Nat) (hx : x < 18446744073709551616) : (x / 9223372036854775808 % 2 == 1) = decide (9223372036854775808 ≤ x) := by
  by_cases h : 9223372036854775808 ≤ x
  · have : x / 9223372036854775808 = 1 := by omega
    rw [decide_eq_true h, this]; rfl
  · have : x / 9223372036854775808 = 0 := by omega
    rw [decide_eq_false h, this]; rfl
theorem read_fin (x : Nat) (hx : x < 18446744073709551616) (h : x % 9223372036854775808 < 9218868437227405312) :
    ∃ m : Nat, ∃ p : Nat, FloatKind.f64.format.read x = .number (decide (9223372036854775808 ≤ x)) m ((p : Int) - 1074) ∧ m * 2 ^ p = nv (x % 9223372036854775808) := by
  unfold Ieee.Format.read
  rw [fmt_sw, fmt_bin, fmt_inf, fmt_lp, sign_read x hx]
  unfold nv
  by_cases h1 : x % 9223372036854775808 < 4503599627370496
  · exact ⟨x % 9223372036854775808, 0, by simp only [if_pos h1]; rfl, by rw [if_pos h1]; omega⟩
  · refine ⟨4503599627370496 + x % 9223372036854775808 % 4503599627370496, x % 9223372036854775808 / 4503599627370496 - 1, ?_, by rw [if_neg h1]⟩
    simp only [if_neg h1, if_pos h]
    congr 1
theorem read_inf (x : Nat) (hx : x < 18446744073709551616) (h : x % 9223372036854775808 = 9218868437227405312) :
    FloatKind.f64.format.read x = .infinity (decide (9223372036854775808 ≤ x)) := by
  unfold Ieee.Format.read
  rw [fmt_sw, fmt_bin, fmt_inf, fmt_lp, sign_read x hx]
  simp only [h]
  rfl
theorem read_nan (x : Nat) (h : 9218868437227405312 < x % 9223372036854775808) : ∃ s t, FloatKind.f64.format.read x = .nan s t := by
  unfold Ieee.Format.read
  rw [fmt_sw, fmt_bin, fmt_inf]
  refine ⟨(x / 9223372036854775808 % 2 == 1), x % 9223372036854775808 - 9218868437227405312, ?_⟩
  simp only
  rw [if_neg (by omega), if_neg (by omega), if_neg (by omega)]

theorem order_nan_l (x y : Nat) (h : 9218868437227405312 < x % 9223372036854775808) : FloatKind.f64.format.order x y = none := by
  obtain ⟨s, t, e⟩ := read_nan x h
  unfold Ieee.Format.order
  rw [e]; rfl
theorem order_nan_r (x y : Nat) (h : 9218868437227405312 < y % 9223372036854775808) : FloatKind.f64.format.order x y = none := by
  obtain ⟨s, t, e⟩ := read_nan y h
  unfold Ieee.Format.order
  rw [e]
  cases FloatKind.f64.format.read x <;> rfl

theorem cmp_lt {a b : Int} (h : a < b) : compare a b = .lt := Int.compare_eq_lt.2 h
theorem cmp_gt {a b : Int} (h : b < a) : compare a b = .gt := Int.compare_eq_gt.2 h
theorem cmp_eq {a b : Int} (h : a = b) : compare a b = .eq := Int.compare_eq_eq.2 h
theorem cmp_scale (a b : Int) (c : Nat) (hc : 0 < c) : compare a b = compare (a * c) (b * c) := by
  have hc' : (0 : Int) < c := by omega
  rcases Int.lt_trichotomy a b with h | h | h
  · rw [cmp_lt h, cmp_lt (Int.mul_lt_mul_of_pos_right h hc')]
  · rw [cmp_eq h, cmp_eq (by rw [h])]
  · rw [cmp_gt h, cmp_gt (Int.mul_lt_mul_of_pos_right h hc')]

theorem signed_scale (s : Bool) (m i p : Nat) (h : i ≤ p) : Ieee.signed s m (p - i) * ((2 ^ i : Nat) : Int) = if s then -((m * 2 ^ p : Nat) : Int) else ((m * 2 ^ p : Nat) : Int) := by
  have e : m * 2 ^ p = (m <<< (p - i)) * 2 ^ i := by
    rw [Nat.shiftLeft_eq, Nat.mul_assoc, ← Nat.pow_add]
    congr 2
    omega
  unfold Ieee.signed
  cases s
  · simp only [if_neg (show ¬ false = true by decide)]
    rw [e, Int.natCast_mul]
  · simp only [if_pos]
    rw [e, Int.natCast_mul, Int.neg_mul]

theorem order_eq (x y : Nat) (hx : x < 18446744073709551616) (hy : y < 18446744073709551616) (nx : x % 9223372036854775808 ≤ 9218868437227405312) (ny : y % 9223372036854775808 ≤ 9218868437227405312) :
    FloatKind.f64.format.order x y = some (compare (sv x) (sv y)) := by
  have hinf : 0 < nv 9218868437227405312 := by have := nv_lt (r := 0) (s := 9218868437227405312) (by omega); omega
  unfold Ieee.Format.order sv
  rcases Nat.lt_or_eq_of_le nx with fx | fx
  · obtain ⟨m, p, ex, vx⟩ := read_fin x hx fx
    have lx := nv_lt fx
    rw [ex, ← vx]
    rw [← vx] at lx
    rcases Nat.lt_or_eq_of_le ny with fy | fy
    · obtain ⟨n, q, ey, vy⟩ := read_fin y hy fy
      rw [ey, ← vy]
      show some (compare _ _) = _
      congr 1
      have hb : min ((p : Int) - 1074) ((q : Int) - 1074) = ((min p q : Nat) : Int) - 1074 := by omega
      rw [hb]
      have t1 : ((p : Int) - 1074 - (((min p q : Nat) : Int) - 1074)).toNat = p - min p q := by omega
      have t2 : ((q : Int) - 1074 - (((min p q : Nat) : Int) - 1074)).toNat = q - min p q := by omega
      rw [t1, t2, cmp_scale _ _ (2 ^ min p q) (Nat.two_pow_pos _), signed_scale _ _ _ _ (Nat.min_le_left _ _), signed_scale _ _ _ _ (Nat.min_le_right _ _)]
      simp only [decide_eq_true_eq]
    · rw [read_inf y hy fy, fy]
      show some (if decide (9223372036854775808 ≤ y) = true then Ordering.gt else Ordering.lt) = _
      congr 1
      by_cases hy2 : 9223372036854775808 ≤ y
      · rw [if_pos (by simpa using hy2), if_pos hy2]
        symm; apply cmp_gt
        split <;> omega
      · rw [if_neg (by simpa using hy2), if_neg hy2]
        symm; apply cmp_lt
        split <;> omega
  · rw [read_inf x hx fx, fx]
    rcases Nat.lt_or_eq_of_le ny with fy | fy
    · obtain ⟨n, q, ey, vy⟩ := read_fin y hy fy
      have ly := nv_lt fy
      rw [ey, ← vy]
      rw [← vy] at ly
      show some (if decide (9223372036854775808 ≤ x) = true then Ordering.lt else Ordering.gt) = _
      congr 1
      by_cases hx2 : 9223372036854775808 ≤ x
      · rw [if_pos (by simpa using hx2), if_pos hx2]
        symm; apply cmp_lt
        split <;> omega
      · rw [if_neg (by simpa using hx2), if_neg hx2]
        symm; apply cmp_gt
        split <;> omega
    · rw [read_inf y hy fy, fy]
      show some (compare (decide (9223372036854775808 ≤ y)).toNat (decide (9223372036854775808 ≤ x)).toNat) = _
      congr 1
      by_cases hx2 : 9223372036854775808 ≤ x <;> by_cases hy2 : 9223372036854775808 ≤ y
      · rw [if_pos hx2, if_pos hy2, decide_eq_true hx2, decide_eq_true hy2, cmp_eq rfl]; rfl
      · rw [if_pos hx2, if_neg hy2, decide_eq_true hx2, decide_eq_false hy2, cmp_lt (by omega)]; rfl
      · rw [if_neg hx2, if_pos hy2, decide_eq_false hx2, decide_eq_true hy2, cmp_gt (by omega)]; rfl
      · rw [if_neg hx2, if_neg hy2, decide_eq_false hx2, decide_eq_false hy2, cmp_eq rfl]; rfl
theorem key_num (x : Nat) (nx : x % 9223372036854775808 ≤ 9218868437227405312) : keyOf x = if 9223372036854775808 ≤ x then -1 - ((x % 9223372036854775808 : Nat) : Int) else ((x % 9223372036854775808 : Nat) : Int) := by
  unfold keyOf; rw [if_neg (by omega)]
theorem key_sv (x y : Nat) (nx : x % 9223372036854775808 ≤ 9218868437227405312) (ny : y % 9223372036854775808 ≤ 9218868437227405312) (h : sv x < sv y) : keyOf x < keyOf y := by
  apply Classical.byContradiction
  intro hn
  have hz := nv_zero
  rw [key_num x nx, key_num y ny] at hn
  unfold sv at h
  by_cases hx2 : 9223372036854775808 ≤ x <;> by_cases hy2 : 9223372036854775808 ≤ y
  · rw [if_pos hx2, if_pos hy2] at h hn
    have := nv_le (r := x % 9223372036854775808) (s := y % 9223372036854775808) (by omega)
    omega
  · rw [if_pos hx2, if_neg hy2] at h hn
    omega
  · rw [if_neg hx2, if_pos hy2] at h hn
    omega
  · rw [if_neg hx2, if_neg hy2] at h hn
    have := nv_le (r := y % 9223372036854775808) (s := x % 9223372036854775808) (by omega)
    omega
/-- Where '<' tells, the places tell the same. -/
theorem lt_key (x y : Nat) (hx : x < 18446744073709551616) (hy : y < 18446744073709551616) (h : FloatKind.f64.format.order x y = some .lt) : keyOf x < keyOf y := by
  by_cases nx : 9218868437227405312 < x % 9223372036854775808
  · rw [order_nan_l x y nx] at h; cases h
  by_cases ny : 9218868437227405312 < y % 9223372036854775808
  · rw [order_nan_r x y ny] at h; cases h
  rw [order_eq x y hx hy (by omega) (by omega)] at h
  exact key_sv x y (by omega) (by omega) (Int.compare_eq_lt.1 (Option.some.inj h))
theorem gt_key (x y : Nat) (hx : x < 18446744073709551616) (hy : y < 18446744073709551616) (h : FloatKind.f64.format.order x y = some .gt) : keyOf y < keyOf x := by
  by_cases nx : 9218868437227405312 < x % 9223372036854775808
  · rw [order_nan_l x y nx] at h; cases h
  by_cases ny : 9218868437227405312 < y % 9223372036854775808
  · rw [order_nan_r x y ny] at h; cases h
  rw [order_eq x y hx hy (by omega) (by omega)] at h
  exact key_sv y x (by omega) (by omega) (Int.compare_eq_gt.1 (Option.some.inj h))
theorem canon_key (x y : Nat) (hx : x < 18446744073709551616) (hy : y < 18446744073709551616) : canonOf x = canonOf y ↔ keyOf x = keyOf y := by
  unfold canonOf keyOf
  split <;> split <;> (try split) <;> (try split) <;> constructor <;> intro h <;> omega
theorem order_self (x : Nat) (hx : x < 18446744073709551616) : (FloatKind.f64.format.order x x != some .eq) = decide (9218868437227405312 < x % 9223372036854775808) := by
  by_cases h : 9218868437227405312 < x % 9223372036854775808
  · rw [order_nan_l x x h, decide_eq_true h]; rfl
  · rw [order_eq x x hx hx (by omega) (by omega), cmp_eq rfl, decide_eq_false h]; rfl
/-- The number at a place, and the error's number. -/
def unkeyOf (k : Int) : Nat :=
  if k < -9218868437227405313 ∨ 9218868437227405313 < k then 0 else if k = 9218868437227405313 then 9221120237041090561 else if k < 0 then (-1 - k).toNat + 9223372036854775808 else k.toNat
def unkeyErr (k : Int) : Int := if k < -9218868437227405313 ∨ 9218868437227405313 < k then 1 else 0
theorem unkey_lt (k : Int) : unkeyOf k < 18446744073709551616 := by
  unfold unkeyOf; split
  · omega
  · split
    · omega
    · split <;> omega
theorem unkey_key (x : Nat) (hx : x < 18446744073709551616) : unkeyOf (keyOf x) = canonOf x ∧ unkeyErr (keyOf x) = 0 := by
  unfold unkeyOf unkeyErr keyOf canonOf
  by_cases h : 9218868437227405312 < x % 9223372036854775808
  · rw [if_pos h, if_pos h]
    exact ⟨by rw [if_neg (by omega), if_pos rfl], by rw [if_neg (by omega)]⟩
  · rw [if_neg h, if_neg h]
    by_cases h2 : 9223372036854775808 ≤ x
    · rw [if_pos h2]
      exact ⟨by rw [if_neg (by omega), if_neg (by omega), if_pos (by omega)]; omega, by rw [if_neg (by omega)]⟩
    · rw [if_neg h2]
      exact ⟨by rw [if_neg (by omega), if_neg (by omega), if_neg (by omega)]; omega, by rw [if_neg (by omega)]⟩
theorem unkey_neg_w (k : Int) (h1 : -9218868437227405313 ≤ k) (h0 : k < 0) : (bits .or .u64 (-1 - k) 9223372036854775808).toNat = (-1 - k).toNat + 9223372036854775808 := by
  obtain ⟨n, hn⟩ := Int.eq_ofNat_of_zero_le (show 0 ≤ -1 - k by omega)
  rw [hn]
  have h := u64_or_nat n 9223372036854775808 (by omega) (by omega)
  have e : n ||| 9223372036854775808 = n + 9223372036854775808 := by
    rw [Nat.or_comm, Nat.add_comm]
    exact nat_join 63 9223372036854775808 n (by decide) (by simp only [Nat.reducePow]; omega)
  rw [e] at h
  have h' : bits .or .u64 (n : Int) 9223372036854775808 = ((n + 9223372036854775808 : Nat) : Int) := h
  rw [h']
  omega
theorem sv_zero : sv 0 = 0 := by decide
theorem order_zero (x : Nat) (hx : x < 18446744073709551616) : (FloatKind.f64.format.order x 0 == some .eq) = decide (x % 9223372036854775808 = 0) := by
  by_cases h : 9218868437227405312 < x % 9223372036854775808
  · rw [order_nan_l x 0 h, decide_eq_false (by omega)]; rfl
  · rw [order_eq x 0 hx (by omega) (by omega) (by omega), sv_zero]
    by_cases h0 : x % 9223372036854775808 = 0
    · have e : sv x = 0 := by unfold sv; rw [h0, nv_zero]; split <;> rfl
      rw [decide_eq_true h0, cmp_eq e]; rfl
    · have e : sv x ≠ 0 := by
        have := nv_lt (r := 0) (s := x % 9223372036854775808) (by omega)
        unfold sv; split <;> omega
      rw [decide_eq_false h0]
      rcases Int.lt_or_gt_of_ne e with e | e
      · rw [cmp_lt e]; rfl
      · rw [cmp_gt e]; rfl
end Go.Proofs.YtehnkgonhgjeiaaGreatDoor

namespace Go.Proofs.YtehnkgonhgjeiaaGreatDoor
open Go Go.RowKit Go.IntWalk

/-- The next number's bits. -/
def nextOf (x : Nat) : Nat :=
  if canonOf x = 9221120237041090561 ∨ canonOf x = 9218868437227405312 then canonOf x else if canonOf x = 9223372036854775808 then 1 else if 9223372036854775808 ≤ canonOf x then canonOf x - 1 else canonOf x + 1
/-- The bits with the other sign. -/
def flipOf (x : Nat) : Nat := if 9223372036854775808 ≤ x then x - 9223372036854775808 else x + 9223372036854775808
def prevOf (x : Nat) : Nat := if canonOf x = 9221120237041090561 then 9221120237041090561 else flipOf (nextOf (flipOf (canonOf x)))
theorem canon_cases (x : Nat) : canonOf x = 9221120237041090561 ∨ canonOf x % 9223372036854775808 ≤ 9218868437227405312 := by
  unfold canonOf
  split
  · exact Or.inl rfl
  · right; omega
theorem next_lt {x : Nat} (hx : x < 18446744073709551616) : nextOf x < 18446744073709551616 := by
  have := canon_lt hx
  have := canon_cases x
  unfold nextOf
  split
  · omega
  · split
    · omega
    · split <;> omega
theorem flip_lt {x : Nat} (hx : x < 18446744073709551616) : flipOf x < 18446744073709551616 := by unfold flipOf; split <;> omega
theorem flip_flip {x : Nat} (hx : x < 18446744073709551616) : flipOf (flipOf x) = x := by unfold flipOf; split <;> split <;> omega
theorem xor_sign (x : Nat) (hx : x < 18446744073709551616) : bits .xor .u64 (x : Int) 9223372036854775808 = (flipOf x : Int) := by
  have h := u64_xor_nat x 9223372036854775808 hx (by omega)
  have e : x ^^^ 9223372036854775808 = flipOf x := by
    apply Nat.eq_of_testBit_eq
    intro i
    have h63 : (9223372036854775808 : Nat) = 2 ^ 63 := by decide
    unfold flipOf
    rw [Nat.testBit_xor]
    by_cases hs : 9223372036854775808 ≤ x
    · rw [if_pos hs]
      obtain ⟨m, hm⟩ : ∃ m, x = 2 ^ 63 + m := ⟨x - 2 ^ 63, by omega⟩
      have hml : m < 2 ^ 63 := by omega
      have e1 : x - 9223372036854775808 = m := by omega
      rw [e1, hm, h63, Nat.testBit_two_pow]
      by_cases hi : i = 63
      · subst hi
        rw [Nat.testBit_two_pow_add_eq, Nat.testBit_lt_two_pow hml]; rfl
      · have e2 : (2 ^ 63 + m).testBit i = m.testBit i := by
          rcases Nat.lt_or_gt_of_ne hi with hi | hi
          · rw [Nat.testBit_two_pow_add_gt hi]
          · rw [Nat.testBit_lt_two_pow (x := 2 ^ 63 + m) (i := i) (Nat.lt_of_lt_of_le (by omega : 2 ^ 63 + m < 2 ^ 64) (Nat.pow_le_pow_right (by omega) (by omega))),
              Nat.testBit_lt_two_pow (x := m) (i := i) (Nat.lt_of_lt_of_le hml (Nat.pow_le_pow_right (by omega) (by omega)))]
        rw [e2]
        have : decide (63 = i) = false := by simpa using (fun h => hi h.symm)
        rw [this]; simp
    · rw [if_neg hs]
      have hml : x < 2 ^ 63 := by omega
      have e1 : x + 9223372036854775808 = 2 ^ 63 + x := by omega
      rw [e1, h63, Nat.testBit_two_pow]
      by_cases hi : i = 63
      · subst hi
        rw [Nat.testBit_two_pow_add_eq, Nat.testBit_lt_two_pow hml]; rfl
      · have e2 : (2 ^ 63 + x).testBit i = x.testBit i := by
          rcases Nat.lt_or_gt_of_ne hi with hi | hi
          · rw [Nat.testBit_two_pow_add_gt hi]
          · rw [Nat.testBit_lt_two_pow (x := 2 ^ 63 + x) (i := i) (Nat.lt_of_lt_of_le (by omega : 2 ^ 63 + x < 2 ^ 64) (Nat.pow_le_pow_right (by omega) (by omega))),
              Nat.testBit_lt_two_pow (x := x) (i := i) (Nat.lt_of_lt_of_le hml (Nat.pow_le_pow_right (by omega) (by omega)))]
        rw [e2]
        have : decide (63 = i) = false := by simpa using (fun h => hi h.symm)
        rw [this]; simp
  rw [e] at h
  exact h
theorem key_next (x : Nat) (hx : x < 18446744073709551616) (hn : x % 9223372036854775808 ≤ 9218868437227405312) (h1 : x ≠ 9218868437227405312) (h2 : x ≠ 9223372036854775808) : keyOf (nextOf x) = keyOf x + 1 := by
  have hc : canonOf x = x := by unfold canonOf; rw [if_neg (by omega)]
  unfold nextOf
  rw [hc, if_neg (by omega), if_neg h2]
  by_cases hs : 9223372036854775808 ≤ x
  · rw [if_pos hs, key_num _ (by omega), key_num _ hn, if_pos hs, if_pos (by omega)]
    omega
  · rw [if_neg hs, key_num _ (by omega), key_num _ hn, if_neg hs, if_neg (by omega)]
    omega
theorem next_num (x : Nat) (hx : x < 18446744073709551616) (hn : x % 9223372036854775808 ≤ 9218868437227405312) : nextOf x % 9223372036854775808 ≤ 9218868437227405312 := by
  have hc : canonOf x = x := by unfold canonOf; rw [if_neg (by omega)]
  unfold nextOf
  rw [hc]
  split
  · exact hn
  · split
    · omega
    · split <;> omega
theorem next_eq (x c : Nat) (h : canonOf x = c) : nextOf x = if c = 9221120237041090561 ∨ c = 9218868437227405312 then c else if c = 9223372036854775808 then 1 else if 9223372036854775808 ≤ c then c - 1 else c + 1 := by
  unfold nextOf; rw [h]
theorem next_w1 {x c : Nat} (hc : canonOf x = c) (h : (c : Int) = 9221120237041090561) : (c : Int) = (nextOf x : Int) := by
  rw [next_eq x c hc, if_pos (Or.inl (by omega))]
theorem next_w2 {x c : Nat} (hc : canonOf x = c) (h : ((c : Int) == 9221120237041090561) = true ∨ ((c : Int) == 9218868437227405312) = true) : (c : Int) = (nextOf x : Int) := by
  rw [beq_iff_eq, beq_iff_eq] at h
  rw [next_eq x c hc, if_pos (by omega)]
theorem next_w3 {x c : Nat} (hc : canonOf x = c) (h : ((c : Int) == 9223372036854775808) = true) : (1 : Int) = (nextOf x : Int) := by
  rw [beq_iff_eq] at h
  rw [next_eq x c hc, if_neg (by omega), if_pos (by omega)]; rfl
theorem next_w4 {x c : Nat} (hc : canonOf x = c) (hl : c < 18446744073709551616) (_h : ((c : Int) == 9221120237041090561) = false ∧ ((c : Int) == 9218868437227405312) = false) (h2 : ((c : Int) == 9223372036854775808) = false)
    (h3 : (bits .and .u64 (c : Int) 9223372036854775808 != 0) = true) : IntKind.u64.wrap ((c : Int) - 1) = (nextOf x : Int) := by
  simp only [beq_eq_false_iff_ne, ne_eq] at h2
  have h4 : 9223372036854775808 ≤ c := by
    apply Classical.byContradiction
    intro h4
    rw [and_sign c hl, if_neg h4] at h3
    simp at h3
  rw [next_eq x c hc, if_neg (by omega), if_neg (by omega), if_pos h4, IntKind.wrap_u64]
  omega
theorem next_w5 {x c : Nat} (hc : canonOf x = c) (hl : c < 18446744073709551616) (_hk : c = 9221120237041090561 ∨ c % 9223372036854775808 ≤ 9218868437227405312) (h : ((c : Int) == 9221120237041090561) = false ∧ ((c : Int) == 9218868437227405312) = false) (h2 : ((c : Int) == 9223372036854775808) = false)
    (h3 : (bits .and .u64 (c : Int) 9223372036854775808 != 0) = false) : IntKind.u64.wrap ((c : Int) + 1) = (nextOf x : Int) := by
  simp only [beq_eq_false_iff_ne, ne_eq] at h h2
  have h4 : ¬ 9223372036854775808 ≤ c := by
    intro h4
    rw [and_sign c hl, if_pos h4] at h3
    simp at h3
  rw [next_eq x c hc, if_neg (by omega), if_neg (by omega), if_neg h4, IntKind.wrap_u64]
  omega
end Go.Proofs.YtehnkgonhgjeiaaGreatDoor
