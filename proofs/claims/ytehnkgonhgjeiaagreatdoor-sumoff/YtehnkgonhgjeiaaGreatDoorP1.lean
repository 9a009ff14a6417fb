
/- Plain arithmetic on the bits of numbers: magnitudes, the one NaN, places in the total order; no program is spoken of. -/
import Derived.WalkKit
import Derived.WalkSmall
import Derived.Laws.BitsAllLaws
import Derived.Laws.Bits64
import Derived.Laws.ShiftsVarLaws
namespace Go.Proofs.YtehnkgonhgjeiaaGreatDoor
open Go Go.RowKit Go.IntWalk

/-- The bits with all NaNs made one. -/
def canonOf (x : Nat) : Nat := if 9218868437227405312 < x % 9223372036854775808 then 9221120237041090561 else x
/-- The place in the total order. -/
def keyOf (x : Nat) : Int :=
  if 9218868437227405312 < x % 9223372036854775808 then 9218868437227405313
  else if 9223372036854775808 ≤ x then -1 - ((x % 9223372036854775808 : Nat) : Int) else ((x % 9223372036854775808 : Nat) : Int)

theorem hid {p : Prop} (h : p) : Hid p := h
theorem ret_int {k : IntKind} {a b : Int} (h : a = b) : Ending.returned (.int k a) = .returned (.int k b) := by rw [h]
theorem ret_bool {a b : Bool} (h : a = b) : Ending.returned (.bool a) = .returned (.bool b) := by rw [h]

theorem ret_bii {a a' : Bool} {k k2 : IntKind} {b b' c c' : Int} (h0 : a = a') (h1 : b = b') (h2 : c = c') : Ending.returned (.tuple #[.bool a, .int k b, .int k2 c]) = .returned (.tuple #[.bool a', .int k b', .int k2 c']) := by rw [h0, h1, h2]
theorem ret_ii {k k2 : IntKind} {b b' c c' : Int} (h1 : b = b') (h2 : c = c') : Ending.returned (.tuple #[.int k b, .int k2 c]) = .returned (.tuple #[.int k b', .int k2 c']) := by rw [h1, h2]
theorem ret_parts {a a' : Bool} {b b' c c' d d' : Int} (h0 : a = a') (h1 : b = b') (h2 : c = c') (h3 : d = d') : Ending.returned (.tuple #[.agg #[.bool a, .int .u64 b, .int .i64 c], .int .i64 d]) = .returned (.tuple #[.agg #[.bool a', .int .u64 b', .int .i64 c'], .int .i64 d']) := by rw [h0, h1, h2, h3]
theorem ret_fi {a a' : Nat} {c c' : Int} (h1 : a = a') (h2 : c = c') : Ending.returned (.tuple #[.float .f64 a, .int .i64 c]) = .returned (.tuple #[.float .f64 a', .int .i64 c']) := by rw [h1, h2]
theorem ret_f {a a' : Nat} (h1 : a = a') : Ending.returned (.float .f64 a) = .returned (.float .f64 a') := by rw [h1]
theorem bl_alloc {w w1 : World} {o : Obj} (hb : Below (w.alloc o).heap.size (w.alloc o) w1) : Below w.heap.size w w1 := ((Below.refl _ _).alloc (Nat.le_refl _) _).trans (hb.mono (by simp))
theorem bl_alloc2 {w w1 : World} {o o2 : Obj} (hb : Below ((w.alloc o).alloc o2).heap.size ((w.alloc o).alloc o2) w1) : Below w.heap.size w w1 := (((Below.refl _ _).alloc (Nat.le_refl _) _).alloc (by simp) _).trans (hb.mono (by simp; omega))
theorem bl_al {w w1 : World} (h : Below w.heap.size w w1) (o : Obj) : Below w.heap.size w (w1.alloc o) := h.alloc h.size o
theorem bl_then {w w1 w2 : World} (h1 : Below w.heap.size w w1) (h2 : Below w1.heap.size w1 w2) : Below w.heap.size w w2 := h1.trans (h2.mono h1.size)
theorem bl_drewN {w w1 : World} (n : Nat) (h1 : Below w.heap.size w w1) : Below w.heap.size w (w1.drewN n) := below_drewN h1 n

theorem nat_beq (a b : Nat) : ((a : Int) == (b : Int)) = (a == b) := by
  rw [Bool.eq_iff_iff]; simp only [beq_iff_eq]; omega

theorem andNot_sign (x : Nat) (hx : x < 18446744073709551616) :
    bits .andNot .u64 (x : Int) 9223372036854775808 = ((x % 9223372036854775808 : Nat) : Int) := by
  have h := u64_andNot_nat x 9223372036854775808 hx (by omega)
  have e : x &&& (18446744073709551615 - 9223372036854775808) = x % 9223372036854775808 := by
    have := Nat.and_two_pow_sub_one_eq_mod x 63
    simpa using this
  rw [e] at h
  exact h
theorem and_sign (x : Nat) (hx : x < 18446744073709551616) :
    bits .and .u64 (x : Int) 9223372036854775808 = ((if 9223372036854775808 ≤ x then 9223372036854775808 else 0 : Nat) : Int) := by
  have h := u64_and_nat x 9223372036854775808 hx (by omega)
  have e : x &&& 9223372036854775808 = if 9223372036854775808 ≤ x then 9223372036854775808 else 0 := by
    have h1 := and_bit_var 64 x 63 (by omega)
    have h2 : ((2 : Int) ^ min (63 : Int).toNat 64 % 2 ^ 64).toNat = 9223372036854775808 := by decide
    rw [h2, if_neg (by omega)] at h1
    rw [h1]
    have h3 : (2 : Nat) ^ (63 : Int).toNat = 9223372036854775808 := by decide
    rw [h3]
    split <;> omega
  rw [e] at h
  exact h

theorem key_w1 {x : Nat} (hx : x < 18446744073709551616) (h : 9218868437227405312 < wrap64 (bits .andNot .u64 (x : Int) 9223372036854775808)) :
    (9218868437227405313 : Int) = keyOf x := by
  rw [andNot_sign x hx, wrap64_in _ (by omega)] at h
  unfold keyOf
  rw [if_pos (by omega)]
theorem key_w2 {x : Nat} (hx : x < 18446744073709551616) (h : wrap64 (bits .andNot .u64 (x : Int) 9223372036854775808) ≤ 9218868437227405312)
    (h2 : (bits .and .u64 (x : Int) 9223372036854775808 != 0) = true) :
    wrap64 (-1 - wrap64 (bits .andNot .u64 (x : Int) 9223372036854775808)) = keyOf x := by
  rw [andNot_sign x hx] at h ⊢
  rw [wrap64_in ((x % 9223372036854775808 : Nat) : Int) (by omega)] at h ⊢
  rw [wrap64_in _ (by omega)]
  rw [and_sign x hx] at h2
  have h3 : 9223372036854775808 ≤ x := by
    apply Classical.byContradiction
    intro h4
    rw [if_neg h4] at h2
    simp at h2
  unfold keyOf
  rw [if_neg (by omega), if_pos h3]
theorem key_w3 {x : Nat} (hx : x < 18446744073709551616) (h : wrap64 (bits .andNot .u64 (x : Int) 9223372036854775808) ≤ 9218868437227405312)
    (h2 : (bits .and .u64 (x : Int) 9223372036854775808 != 0) = false) :
    wrap64 (bits .andNot .u64 (x : Int) 9223372036854775808) = keyOf x := by
  rw [andNot_sign x hx] at h ⊢
  rw [wrap64_in ((x % 9223372036854775808 : Nat) : Int) (by omega)] at h ⊢
  rw [and_sign x hx] at h2
  have h3 : ¬ 9223372036854775808 ≤ x := by
    intro h4
    rw [if_pos h4] at h2
    simp at h2
  unfold keyOf
  rw [if_neg (by omega), if_neg h3]
theorem canon_w1 {x : Nat} (hx : x < 18446744073709551616) (h : 9218868437227405312 < bits .andNot .u64 (x : Int) 9223372036854775808) :
    (9221120237041090561 : Int) = (canonOf x : Int) := by
  rw [andNot_sign x hx] at h
  unfold canonOf
  rw [if_pos (by omega)]; rfl
theorem canon_w2 {x : Nat} (hx : x < 18446744073709551616) (h : bits .andNot .u64 (x : Int) 9223372036854775808 ≤ 9218868437227405312) :
    (x : Int) = (canonOf x : Int) := by
  rw [andNot_sign x hx] at h
  unfold canonOf
  rw [if_neg (by omega)]
theorem canon_lt {x : Nat} (hx : x < 18446744073709551616) : canonOf x < 18446744073709551616 := by
  unfold canonOf; split <;> omega
/-- The fields: the sign, the exponent's, the fraction's. -/
def negOf (x : Nat) : Bool := decide (9223372036854775808 ≤ canonOf x)
def expOf (x : Nat) : Nat := canonOf x / 4503599627370496 % 2048
def fracOf (x : Nat) : Nat := canonOf x % 4503599627370496
theorem and_frac (x : Nat) (hx : x < 18446744073709551616) : bits .and .u64 (x : Int) 4503599627370495 = ((x % 4503599627370496 : Nat) : Int) := by
  have h := u64_and_nat x 4503599627370495 hx (by omega)
  have e : x &&& 4503599627370495 = x % 4503599627370496 := by
    have := Nat.and_two_pow_sub_one_eq_mod x 52
    simpa using this
  rw [e] at h
  exact h
theorem and_exp (x : Nat) (hx : x < 18446744073709551616) : bits .and .u64 (x : Int) 2047 = ((x % 2048 : Nat) : Int) := by
  have h := u64_and_nat x 2047 hx (by omega)
  have e : x &&& 2047 = x % 2048 := by
    have := Nat.and_two_pow_sub_one_eq_mod x 11
    simpa using this
  rw [e] at h
  exact h
theorem neg_w {x : Nat} (hx : x < 18446744073709551616) : (bits .and .u64 (canonOf x : Int) 9223372036854775808 != 0) = negOf x := by
  rw [and_sign _ (canon_lt hx)]
  unfold negOf
  by_cases h : 9223372036854775808 ≤ canonOf x
  · rw [if_pos h, decide_eq_true h]; rfl
  · rw [if_neg h, decide_eq_false h]; rfl
theorem exp_w {x : Nat} (hx : x < 18446744073709551616) : wrap64 (bits .and .u64 ((canonOf x : Int) / 4503599627370496) 2047) = (expOf x : Int) := by
  have h1 := canon_lt hx
  have h2 : ((canonOf x : Int) / 4503599627370496) = ((canonOf x / 4503599627370496 : Nat) : Int) := by omega
  rw [h2, and_exp _ (by omega), wrap64_in _ (by omega)]
  rfl
theorem frac_w {x : Nat} (hx : x < 18446744073709551616) : bits .and .u64 (canonOf x : Int) 4503599627370495 = (fracOf x : Int) := by
  rw [and_frac _ (canon_lt hx)]; rfl
theorem key_bd (x : Nat) : -9218868437227405313 ≤ keyOf x ∧ keyOf x ≤ 9218868437227405313 := by
  unfold keyOf; split
  · omega
  · split <;> omega
end Go.Proofs.YtehnkgonhgjeiaaGreatDoor

namespace Go.Proofs.YtehnkgonhgjeiaaGreatDoor
open Go

def natL : List Nat → Nat
  | [] => 0
  | d :: t => d + 4294967296 * natL t
/-- All words fit; the last one isn't 0. -/
def DigL (L : List Nat) : Prop := ∀ d, d ∈ L → d < 4294967296
def CanL (L : List Nat) : Prop := L ≠ [] → L.getD (L.length - 1) 0 ≠ 0
theorem natL_append (A B : List Nat) : natL (A ++ B) = natL A + 4294967296 ^ A.length * natL B := by
  induction A with
  | nil => show natL B = 0 + 1 * natL B; omega
  | cons d t ih =>
    show d + 4294967296 * natL (t ++ B) = d + 4294967296 * natL t + 4294967296 ^ (t.length + 1) * natL B
    rw [ih, Nat.mul_add, Nat.pow_succ, Nat.mul_comm (4294967296 ^ t.length) 4294967296, Nat.mul_assoc]
    omega
theorem DigL.get {L : List Nat} (h : DigL L) (i : Nat) : L.getD i 0 < 4294967296 := by
  rw [List.getD_eq_getElem?_getD]
  cases hc : L[i]? with
  | none => decide
  | some d => exact h d (List.mem_of_getElem? hc)
theorem DigL.take {L : List Nat} (h : DigL L) (k : Nat) : DigL (L.take k) := fun d hd => h d (List.mem_of_mem_take hd)
theorem natL_lt (L : List Nat) (h : DigL L) : natL L < 4294967296 ^ L.length := by
  induction L with
  | nil => decide
  | cons d t ih =>
    have h1 := h d (List.mem_cons_self ..)
    have h2 := ih (fun e he => h e (List.mem_cons_of_mem _ he))
    show d + 4294967296 * natL t < 4294967296 ^ (t.length + 1)
    rw [Nat.pow_succ, Nat.mul_comm (4294967296 ^ t.length)]
    omega
theorem natL_take_succ (L : List Nat) (k : Nat) (h : k < L.length) : natL (L.take (k + 1)) = natL (L.take k) + 4294967296 ^ k * L.getD k 0 := by
  rw [List.take_succ_eq_append_getElem h, natL_append, List.length_take, Nat.min_eq_left (Nat.le_of_lt h)]
  congr 1
  show _ * (L[k] + 4294967296 * 0) = _
  rw [Nat.mul_zero, Nat.add_zero]
  simp [List.getD, h]
/-- Noughts at the end count for nothing. -/
theorem natL_take_zero (L : List Nat) (k : Nat) (h : k < L.length) (hz : L.getD k 0 = 0) : natL (L.take (k + 1)) = natL (L.take k) := by
  rw [natL_take_succ L k h, hz, Nat.mul_zero, Nat.add_zero]
/-- A list without noughts at its end is the only one of its value. -/
theorem natL_ge (L : List Nat) (h0 : L ≠ []) (hc : CanL L) : 4294967296 ^ (L.length - 1) ≤ natL L := by
  obtain ⟨k, hk⟩ : ∃ k, L.length = k + 1 := ⟨L.length - 1, by have := List.length_pos_iff.2 h0; omega⟩
  have e := natL_take_succ L k (by omega)
  rw [← hk, List.take_length] at e
  have hne := hc h0
  rw [hk] at hne ⊢
  rw [Nat.add_sub_cancel] at hne ⊢
  have : 4294967296 ^ k * 1 ≤ 4294967296 ^ k * L.getD k 0 := Nat.mul_le_mul_left _ (by omega)
  omega
theorem natL_zero (L : List Nat) (hc : CanL L) : natL L = 0 ↔ L = [] := by
  constructor
  · intro h
    apply Classical.byContradiction
    intro h0
    have := natL_ge L h0 hc
    have := Nat.pow_pos (n := L.length - 1) (show 0 < 4294967296 by decide)
    omega
  · intro h; rw [h]; rfl
end Go.Proofs.YtehnkgonhgjeiaaGreatDoor
