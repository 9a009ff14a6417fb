
/- Plain arithmetic on the bits of numbers: magnitudes, the one NaN, places in the total order; no program is spoken of. -/
import Derived.WalkKit
import Derived.WalkSmall
import Derived.Laws.BitsAllLaws
import Derived.Laws.Bits64
import Derived.Laws.ShiftsVarLaws
namespace Go.Proofs.Ythakhmnlpmfdgaa
open Go Go.RowKit Go.IntWalk

/-- The bits with all NaNs made one. -/
def canonOf (x : Nat) : Nat := if 9218868437227405312 < x % 9223372036854775808 then 9221120237041090561 else x
/-- The place in the total order. -/
def keyOf (x : Nat) : Int :=
  if 9218868437227405312 < x % 9223372036854775808 then 9218868437227405313
  else if 9223372036854775808 ≤ x then -1 - ((x % 9223372036854775808 : Nat) : Int) else ((x % 9223372036854775808 : Nat) : Int)

theorem hid {p : Prop} (h : p) : Hid p := h
theorem ret_int {k : IntKind} {a b : Int} (h : a = b) : Ending.returned (.int k a) = .returned (.int k b) := by rw [h]
theorem ret_bool {a b : Bool} (h : a = b) : Ending.returned (.bool a) = .returned (.bool b) := by rw [h]

theorem ret_bii {a a' : Bool} {k k2 : IntKind} {b b' c c' : Int} (h0 : a = a') (h1 : b = b') (h2 : c = c') : Ending.returned (.tuple #[.bool a, .int k b, .int k2 c]) = .returned (.tuple #[.bool a', .int k b', .int k2 c']) := by rw [h0, h1, h2]
theorem ret_ii {k k2 : IntKind} {b b' c c' : Int} (h1 : b = b') (h2 : c = c') : Ending.returned (.tuple #[.int k b, .int k2 c]) = .returned (.tuple #[.int k b', .int k2 c']) := by rw [h1, h2]
theorem ret_parts {a a' : Bool} {b b' c c' d d' : Int} (h0 : a = a') (h1 : b = b') (h2 : c = c') (h3 : d = d') : Ending.returned (.tuple #[.agg #[.bool a, .int .u64 b, .int .i64 c], .int .i64 d]) = .returned (.tuple #[.agg #[.bool a', .int .u64 b', .int .i64 c'], .int .i64 d']) := by rw [h0, h1, h2, h3]
theorem ret_fi {a a' : Nat} {c c' : Int} (h1 : a = a') (h2 : c = c') : Ending.returned (.tuple #[.float .f64 a, .int .i64 c]) = .returned (.tuple #[.float .f64 a', .int .i64 c']) := by rw [h1, h2]
theorem ret_f {a a' : Nat} (h1 : a = a') : Ending.returned (.float .f64 a) = .returned (.float .f64 a') := by rw [h1]
theorem bl_alloc {w w1 : World} {o : Obj} (hb : Below (w.alloc o).heap.size (w.alloc o) w1) : Below w.heap.size w w1 := ((Below.refl _ _).alloc (Nat.le_refl _) _).trans (hb.mono (by simp))
theorem bl_alloc2 {w w1 : World} {o o2 : Obj} (hb : Below ((w.alloc o).alloc o2).heap.size ((w.alloc o).alloc o2) w1) : Below w.heap.size w w1 := (((Below.refl _ _).alloc (Nat.le_refl _) _).alloc (by simp) _).trans (hb.mono (by simp; omega))
theorem bl_al {w w1 : World} (h : Below w.heap.size w w1) (o : Obj) : Below w.heap.size w (w1.alloc o) := h.alloc h.size o
theorem bl_then {w w1 w2 : World} (h1 : Below w.heap.size w w1) (h2 : Below w1.heap.size w1 w2) : Below w.heap.size w w2 := h1.trans (h2.mono h1.size)
theorem bl_drewN {w w1 : World} (n : Nat) (h1 : Below w.heap.size w w1) : Below w.heap.size w (w1.drewN n) := below_drewN h1 n

theorem nat_beq (a b : Nat) : ((a : Int) == (b : Int)) = (a == b) := by
  rw [Bool.eq_iff_iff]; simp only [beq_iff_eq]; omega

theorem andNot_sign (x : Nat) (hx : x < 18446744073709551616) :
    bits .andNot .u64 (x : Int) 9223372036854775808 = ((x % 9223372036854775808 : Nat) : Int) := by
  have h := u64_andNot_nat x 9223372036854775808 hx (by omega)
  have e : x &&& (18446744073709551615 - 9223372036854775808) = x % 9223372036854775808 := by
    have := Nat.and_two_pow_sub_one_eq_mod x 63
    simpa using this
  rw [e] at h
  exact h
theorem and_sign (x : Nat) (hx : x < 18446744073709551616) :
    bits .and .u64 (x : Int) 9223372036854775808 = ((if 9223372036854775808 ≤ x then 9223372036854775808 else 0 : Nat) : Int) := by
  have h := u64_and_nat x 9223372036854775808 hx (by omega)
  have e : x &&& 9223372036854775808 = if 9223372036854775808 ≤ x then 9223372036854775808 else 0 := by
    have h1 := and_bit_var 64 x 63 (by omega)
    have h2 : ((2 : Int) ^ min (63 : Int).toNat 64 % 2 ^ 64).toNat = 9223372036854775808 := by decide
    rw [h2, if_neg (by omega)] at h1
    rw [h1]
    have h3 : (2 : Nat) ^ (63 : Int).toNat = 9223372036854775808 := by decide
    rw [h3]
    split <;> omega
  rw [e] at h
  exact h

theorem key_w1 {x : Nat} (hx : x < 18446744073709551616) (h : 9218868437227405312 < wrap64 (bits .andNot .u64 (x : Int) 9223372036854775808)) :
    (9218868437227405313 : Int) = keyOf x := by
  rw [andNot_sign x hx, wrap64_in _ (by omega)] at h
  unfold keyOf
  rw [if_pos (by omega)]
theorem key_w2 {x : Nat} (hx : x < 18446744073709551616) (h : wrap64 (bits .andNot .u64 (x : Int) 9223372036854775808) ≤ 9218868437227405312)
    (h2 : (bits .and .u64 (x : Int) 9223372036854775808 != 0) = true) :
    wrap64 (-1 - wrap64 (bits .andNot .u64 (x : Int) 9223372036854775808)) = keyOf x := by
  rw [andNot_sign x hx] at h ⊢
  rw [wrap64_in ((x % 9223372036854775808 : Nat) : Int) (by omega)] at h ⊢
  rw [wrap64_in _ (by omega)]
  rw [and_sign x hx] at h2
  have h3 : 9223372036854775808 ≤ x := by
    apply Classical.byContradiction
    intro h4
    rw [if_neg h4] at h2
    simp at h2
  unfold keyOf
  rw [if_neg (by omega), if_pos h3]
theorem key_w3 {x : Nat} (hx : x < 18446744073709551616) (h : wrap64 (bits .andNot .u64 (x : Int) 9223372036854775808) ≤ 9218868437227405312)
    (h2 : (bits .and .u64 (x : Int) 9223372036854775808 != 0) = false) :
    wrap64 (bits .andNot .u64 (x : Int) 9223372036854775808) = keyOf x := by
  rw [andNot_sign x hx] at h ⊢
  rw [wrap64_in ((x % 9223372036854775808 : Nat) : Int) (by omega)] at h ⊢
  rw [and_sign x hx] at h2
  have h3 : ¬ 9223372036854775808 ≤ x := by
    intro h4
    rw [if_pos h4] at h2
    simp at h2
  unfold keyOf
  rw [if_neg (by omega), if_neg h3]
theorem canon_w1 {x : Nat} (hx : x < 18446744073709551616) (h : 9218868437227405312 < bits .andNot .u64 (x : Int) 9223372036854775808) :
    (9221120237041090561 : Int) = (canonOf x : Int) := by
  rw [andNot_sign x hx] at h
  unfold canonOf
  rw [if_pos (by omega)]; rfl
theorem canon_w2 {x : Nat} (hx : x < 18446744073709551616) (h : bits .andNot .u64 (x : Int) 9223372036854775808 ≤ 9218868437227405312) :
    (x : Int) = (canonOf x : Int) := by
  rw [andNot_sign x hx] at h
  unfold canonOf
  rw [if_neg (by omega)]
theorem canon_lt {x : Nat} (hx : x < 18446744073709551616) : canonOf x < 18446744073709551616 := by
  unfold canonOf; split <;> omega
/-- The fields: the sign, the exponent's, the fraction's. -/
def negOf (x : Nat) : Bool := decide (9223372036854775808 ≤ canonOf x)
def expOf (x : Nat) : Nat := canonOf x / 4503599627370496 % 2048
def fracOf (x : Nat) : Nat := canonOf x % 4503599627370496
theorem and_frac (x : Nat) (hx : x < 18446744073709551616) : bits .and .u64 (x : Int) 4503599627370495 = ((x % 4503599627370496 : Nat) : Int) := by
  have h := u64_and_nat x 4503599627370495 hx (by omega)
  have e : x &&& 4503599627370495 = x % 4503599627370496 := by
    have := Nat.and_two_pow_sub_one_eq_mod x 52
    simpa using this
  rw [e] at h
  exact h
theorem and_exp (x : Nat) (hx : x < 18446744073709551616) : bits .and .u64 (x : Int) 2047 = ((x % 2048 : Nat) : Int) := by
  have h := u64_and_nat x 2047 hx (by omega)
  have e : x &&& 2047 = x % 2048 := by
    have := Nat.and_two_pow_sub_one_eq_mod x 11
    simpa using this
  rw [e] at h
  exact h
theorem neg_w {x : Nat} (hx : x < 18446744073709551616) : (bits .and .u64 (canonOf x : Int) 9223372036854775808 != 0) = negOf x := by
  rw [and_sign _ (canon_lt hx)]
  unfold negOf
  by_cases h : 9223372036854775808 ≤ canonOf x
  · rw [if_pos h, decide_eq_true h]; rfl
  · rw [if_neg h, decide_eq_false h]; rfl
theorem exp_w {x : Nat} (hx : x < 18446744073709551616) : wrap64 (bits .and .u64 ((canonOf x : Int) / 4503599627370496) 2047) = (expOf x : Int) := by
  have h1 := canon_lt hx
  have h2 : ((canonOf x : Int) / 4503599627370496) = ((canonOf x / 4503599627370496 : Nat) : Int) := by omega
  rw [h2, and_exp _ (by omega), wrap64_in _ (by omega)]
  rfl
theorem frac_w {x : Nat} (hx : x < 18446744073709551616) : bits .and .u64 (canonOf x : Int) 4503599627370495 = (fracOf x : Int) := by
  rw [and_frac _ (canon_lt hx)]; rfl
theorem key_bd (x : Nat) : -9218868437227405313 ≤ keyOf x ∧ keyOf x ≤ 9218868437227405313 := by
  unfold keyOf; split
  · omega
  · split <;> omega
end Go.Proofs.Ythakhmnlpmfdgaa
