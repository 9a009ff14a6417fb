
/- What convert's theNaN, multiplication and Mul do. -/
import Derived.Test.YtpgcelbgmpfliaaDoorQ17
import Derived.Test.YtpgcelbgmpfliaaDoorQ33
namespace Go.Proofs.YtpgcelbgmpfliaaDoor
open Go Go.RowKit Go.IntWalk

/-- The next number's bits. -/
def nextOf (x : Nat) : Nat :=
  if canonOf x = 9221120237041090561 ∨ canonOf x = 9218868437227405312 then canonOf x else if canonOf x = 9223372036854775808 then 1 else if 9223372036854775808 ≤ canonOf x then canonOf x - 1 else canonOf x + 1
/-- The bits with the other sign. -/
def flipOf (x : Nat) : Nat := if 9223372036854775808 ≤ x then x - 9223372036854775808 else x + 9223372036854775808
def prevOf (x : Nat) : Nat := if canonOf x = 9221120237041090561 then 9221120237041090561 else flipOf (nextOf (flipOf (canonOf x)))
theorem canon_cases (x : Nat) : canonOf x = 9221120237041090561 ∨ canonOf x % 9223372036854775808 ≤ 9218868437227405312 := by
  unfold canonOf
  split
  · exact Or.inl rfl
  · right; omega
theorem next_lt {x : Nat} (hx : x < 18446744073709551616) : nextOf x < 18446744073709551616 := by
  have := canon_lt hx
  have := canon_cases x
  unfold nextOf
  split
  · omega
  · split
    · omega
    · split <;> omega
theorem flip_lt {x : Nat} (hx : x < 18446744073709551616) : flipOf x < 18446744073709551616 := by unfold flipOf; split <;> omega
theorem flip_flip {x : Nat} (hx : x < 18446744073709551616) : flipOf (flipOf x) = x := by unfold flipOf; split <;> split <;> omega
theorem xor_sign (x : Nat) (hx : x < 18446744073709551616) : bits .xor .u64 (x : Int) 9223372036854775808 = (flipOf x : Int) := by
  have h := u64_xor_nat x 9223372036854775808 hx (by omega)
  have e : x ^^^ 9223372036854775808 = flipOf x := by
    apply Nat.eq_of_testBit_eq
    intro i
    have h63 : (9223372036854775808 : Nat) = 2 ^ 63 := by decide
    unfold flipOf
    rw [Nat.testBit_xor]
    by_cases hs : 9223372036854775808 ≤ x
    · rw [if_pos hs]
      obtain ⟨m, hm⟩ : ∃ m, x = 2 ^ 63 + m := ⟨x - 2 ^ 63, by omega⟩
      have hml : m < 2 ^ 63 := by omega
      have e1 : x - 9223372036854775808 = m := by omega
      rw [e1, hm, h63, Nat.testBit_two_pow]
      by_cases hi : i = 63
      · subst hi
        rw [Nat.testBit_two_pow_add_eq, Nat.testBit_lt_two_pow hml]; rfl
      · have e2 : (2 ^ 63 + m).testBit i = m.testBit i := by
          rcases Nat.lt_or_gt_of_ne hi with hi | hi
          · rw [Nat.testBit_two_pow_add_gt hi]
          · rw [Nat.testBit_lt_two_pow (x := 2 ^ 63 + m) (i := i) (Nat.lt_of_lt_of_le (by omega : 2 ^ 63 + m < 2 ^ 64) (Nat.pow_le_pow_right (by omega) (by omega))),
              Nat.testBit_lt_two_pow (x := m) (i := i) (Nat.lt_of_lt_of_le hml (Nat.pow_le_pow_right (by omega) (by omega)))]
        rw [e2]
        have : decide (63 = i) = false := by simpa using (fun h => hi h.symm)
        rw [this]; simp
    · rw [if_neg hs]
      have hml : x < 2 ^ 63 := by omega
      have e1 : x + 9223372036854775808 = 2 ^ 63 + x := by omega
      rw [e1, h63, Nat.testBit_two_pow]
      by_cases hi : i = 63
      · subst hi
        rw [Nat.testBit_two_pow_add_eq, Nat.testBit_lt_two_pow hml]; rfl
      · have e2 : (2 ^ 63 + x).testBit i = x.testBit i := by
          rcases Nat.lt_or_gt_of_ne hi with hi | hi
          · rw [Nat.testBit_two_pow_add_gt hi]
          · rw [Nat.testBit_lt_two_pow (x := 2 ^ 63 + x) (i := i) (Nat.lt_of_lt_of_le (by omega : 2 ^ 63 + x < 2 ^ 64) (Nat.pow_le_pow_right (by omega) (by omega))),
              Nat.testBit_lt_two_pow (x := x) (i := i) (Nat.lt_of_lt_of_le hml (Nat.pow_le_pow_right (by omega) (by omega)))]
        rw [e2]
        have : decide (63 = i) = false := by simpa using (fun h => hi h.symm)
        rw [this]; simp
  rw [e] at h
  exact h
theorem key_next (x : Nat) (hx : x < 18446744073709551616) (hn : x % 9223372036854775808 ≤ 9218868437227405312) (h1 : x ≠ 9218868437227405312) (h2 : x ≠ 9223372036854775808) : keyOf (nextOf x) = keyOf x + 1 := by
  have hc : canonOf x = x := by unfold canonOf; rw [if_neg (by omega)]
  unfold nextOf
  rw [hc, if_neg (by omega), if_neg h2]
  by_cases hs : 9223372036854775808 ≤ x
  · rw [if_pos hs, key_num _ (by omega), key_num _ hn, if_pos hs, if_pos (by omega)]
    omega
  · rw [if_neg hs, key_num _ (by omega), key_num _ hn, if_neg hs, if_neg (by omega)]
    omega
theorem next_num (x : Nat) (hx : x < 18446744073709551616) (hn : x % 9223372036854775808 ≤ 9218868437227405312) : nextOf x % 9223372036854775808 ≤ 9218868437227405312 := by
  have hc : canonOf x = x := by unfold canonOf; rw [if_neg (by omega)]
  unfold nextOf
  rw [hc]
  split
  · exact hn
  · split
    · omega
    · split <;> omega
theorem next_eq (x c : Nat) (h : canonOf x = c) : nextOf x = if c = 9221120237041090561 ∨ c = 9218868437227405312 then c else if c = 9223372036854775808 then 1 else if 9223372036854775808 ≤ c then c - 1 else c + 1 := by
  unfold nextOf; rw [h]
theorem next_w1 {x c : Nat} (hc : canonOf x = c) (h : (c : Int) = 9221120237041090561) : (c : Int) = (nextOf x : Int) := by
  rw [next_eq x c hc, if_pos (Or.inl (by omega))]
theorem next_w2 {x c : Nat} (hc : canonOf x = c) (h : ((c : Int) == 9221120237041090561) = true ∨ ((c : Int) == 9218868437227405312) = true) : (c : Int) = (nextOf x : Int) := by
  rw [beq_iff_eq, beq_iff_eq] at h
  rw [next_eq x c hc, if_pos (by omega)]
theorem next_w3 {x c : Nat} (hc : canonOf x = c) (h : ((c : Int) == 9223372036854775808) = true) : (1 : Int) = (nextOf x : Int) := by
  rw [beq_iff_eq] at h
  rw [next_eq x c hc, if_neg (by omega), if_pos (by omega)]; rfl
theorem next_w4 {x c : Nat} (hc : canonOf x = c) (hl : c < 18446744073709551616) (_h : ((c : Int) == 9221120237041090561) = false ∧ ((c : Int) == 9218868437227405312) = false) (h2 : ((c : Int) == 9223372036854775808) = false)
    (h3 : (bits .and .u64 (c : Int) 9223372036854775808 != 0) = true) : IntKind.u64.wrap ((c : Int) - 1) = (nextOf x : Int) := by
  simp only [beq_eq_false_iff_ne, ne_eq] at h2
  have h4 : 9223372036854775808 ≤ c := by
    apply Classical.byContradiction
    intro h4
    rw [and_sign c hl, if_neg h4] at h3
    simp at h3
  rw [next_eq x c hc, if_neg (by omega), if_neg (by omega), if_pos h4, IntKind.wrap_u64]
  omega
theorem next_w5 {x c : Nat} (hc : canonOf x = c) (hl : c < 18446744073709551616) (_hk : c = 9221120237041090561 ∨ c % 9223372036854775808 ≤ 9218868437227405312) (h : ((c : Int) == 9221120237041090561) = false ∧ ((c : Int) == 9218868437227405312) = false) (h2 : ((c : Int) == 9223372036854775808) = false)
    (h3 : (bits .and .u64 (c : Int) 9223372036854775808 != 0) = false) : IntKind.u64.wrap ((c : Int) + 1) = (nextOf x : Int) := by
  simp only [beq_eq_false_iff_ne, ne_eq] at h h2
  have h4 : ¬ 9223372036854775808 ≤ c := by
    intro h4
    rw [and_sign c hl, if_pos h4] at h3
    simp at h3
  rw [next_eq x c hc, if_neg (by omega), if_neg (by omega), if_neg h4, IntKind.wrap_u64]
  omega
end Go.Proofs.YtpgcelbgmpfliaaDoor

namespace Go.Proofs.YtpgcelbgmpfliaaDoor
open Go Go.RowKit Go.IntWalk

def flip32 (x : Nat) : Nat := if 2147483648 ≤ x then x - 2147483648 else x + 2147483648
theorem flip_sign (s : Bool) (r : Nat) (h : r < 9223372036854775808) : flipOf (signN s r) = signN (!s) r := by
  cases s
  · show flipOf r = r + 9223372036854775808
    unfold flipOf; rw [if_neg (by omega)]
  · show flipOf (r + 9223372036854775808) = r
    unfold flipOf; rw [if_pos (by omega)]; omega
theorem flip_sign32 (s : Bool) (r : Nat) (h : r < 2147483648) : flip32 (signN32 s r) = signN32 (!s) r := by
  cases s
  · show flip32 r = r + 2147483648
    unfold flip32; rw [if_neg (by omega)]
  · show flip32 (r + 2147483648) = r
    unfold flip32; rw [if_pos (by omega)]; omega
theorem flip_mod (x : Nat) (hx : x < 18446744073709551616) : flipOf x % 9223372036854775808 = x % 9223372036854775808 ∧ decide (9223372036854775808 ≤ flipOf x) = !decide (9223372036854775808 ≤ x) := by
  unfold flipOf
  by_cases h : 9223372036854775808 ≤ x
  · rw [if_pos h, decide_eq_true h]; exact ⟨by omega, decide_eq_false (by omega)⟩
  · rw [if_neg h, decide_eq_false h]; exact ⟨by omega, decide_eq_true (by omega)⟩
theorem nearest_any (m : Nat) (p : Int) : ∃ R, R ≤ 9218868437227405312 ∧ ∀ s, FloatKind.f64.format.nearest s m p = signN s R := by
  by_cases h : m = 0
  · refine ⟨0, by decide, fun s => ?_⟩
    unfold Ieee.Format.nearest
    rw [if_pos h, word_sign]
  · obtain ⟨l, hl⟩ : ∃ l, max (p + (m.log2 : Int) - (FloatKind.f64.format.fractionBits : Int)) FloatKind.f64.format.leastPlace = l := ⟨_, rfl⟩
    refine ⟨min ((l - FloatKind.f64.format.leastPlace).toNat * FloatKind.f64.format.binade + Ieee.Toward.even.cut false (m <<< (p - l).toNat) (l - p).toNat) FloatKind.f64.format.infRung, by rw [fmt_inf]; exact Nat.min_le_right _ _, fun s => ?_⟩
    rw [← word_sign]
    unfold Ieee.Format.nearest
    rw [if_neg h]
    simp only [hl]
    rfl
theorem read_flip (x : Nat) (hx : x < 18446744073709551616) : FloatKind.f64.format.read (flipOf x) = (FloatKind.f64.format.read x).opposite := by
  obtain ⟨e1, e2⟩ := flip_mod x hx
  have hf := flip_lt hx
  unfold Ieee.Format.read
  rw [fmt_sw, fmt_bin, fmt_inf, fmt_lp, sign_read x hx, sign_read _ hf, e1, e2]
  simp only
  split
  · rfl
  · split
    · rfl
    · split <;> rfl
theorem write_form (d : Ieee.Datum) (h : d.isNaN = false) : ∃ s R, R ≤ 9218868437227405312 ∧ FloatKind.f64.format.write d = signN s R ∧ FloatKind.f64.format.write d.opposite = signN (!s) R := by
  cases d with
  | number s m p =>
    obtain ⟨R, hR, hn⟩ := nearest_any m p
    exact ⟨s, R, hR, hn s, hn (!s)⟩
  | infinity s =>
    refine ⟨s, 9218868437227405312, Nat.le_refl _, ?_, ?_⟩
    · show FloatKind.f64.format.word s FloatKind.f64.format.infRung = _
      rw [word_sign, fmt_inf]
    · show FloatKind.f64.format.word (!s) FloatKind.f64.format.infRung = _
      rw [word_sign, fmt_inf]
  | nan s t => cases h
theorem product_flip (d e : Ieee.Datum) : d.opposite.product e = (d.product e).map Ieee.Datum.opposite ∧ ∀ c, d.product e = some c → c.isNaN = false := by
  cases d with
  | nan s t => cases e <;> exact ⟨rfl, fun c h => by cases h⟩
  | infinity s =>
    cases e with
    | nan t u => exact ⟨rfl, fun c h => by cases h⟩
    | infinity t =>
      refine ⟨?_, fun c h => by cases h; rfl⟩
      show some (Ieee.Datum.infinity (!s ^^ t)) = some (Ieee.Datum.infinity (!(s ^^ t)))
      cases s <;> cases t <;> rfl
    | number t n j =>
      refine ⟨?_, fun c h => ?_⟩
      · show (if n = 0 then none else some (Ieee.Datum.infinity (!s ^^ t))) = (if n = 0 then none else some (Ieee.Datum.infinity (s ^^ t))).map Ieee.Datum.opposite
        split
        · rfl
        · show some (Ieee.Datum.infinity (!s ^^ t)) = some (Ieee.Datum.infinity (!(s ^^ t)))
          cases s <;> cases t <;> rfl
      · have h' : (if n = 0 then none else some (Ieee.Datum.infinity (s ^^ t))) = some c := h
        split at h'
        · cases h'
        · cases h'; rfl
  | number s m i =>
    cases e with
    | nan t u => exact ⟨rfl, fun c h => by cases h⟩
    | infinity t =>
      refine ⟨?_, fun c h => ?_⟩
      · show (if m = 0 then none else some (Ieee.Datum.infinity (t ^^ !s))) = (if m = 0 then none else some (Ieee.Datum.infinity (t ^^ s))).map Ieee.Datum.opposite
        split
        · rfl
        · show some (Ieee.Datum.infinity (t ^^ !s)) = some (Ieee.Datum.infinity (!(t ^^ s)))
          cases s <;> cases t <;> rfl
      · have h' : (if m = 0 then none else some (Ieee.Datum.infinity (t ^^ s))) = some c := h
        split at h'
        · cases h'
        · cases h'; rfl
    | number t n j =>
      refine ⟨?_, fun c h => by cases h; rfl⟩
      show some (Ieee.Datum.number (!s ^^ t) (m * n) (i + j)) = some (Ieee.Datum.number (!(s ^^ t)) (m * n) (i + j))
      cases s <;> cases t <;> rfl
/-- A product with one sign turned. -/
theorem mul_flip (A B : Nat) (hA : A < 18446744073709551616) : (FloatKind.f64.format.mul A B = none → FloatKind.f64.format.mul (flipOf A) B = none) ∧ ∀ p, FloatKind.f64.format.mul A B = some p → (∃ s R, R ≤ 9218868437227405312 ∧ p = signN s R) ∧ FloatKind.f64.format.mul (flipOf A) B = some (flipOf p) := by
  unfold Ieee.Format.mul
  rw [read_flip A hA]
  obtain ⟨h1, h2⟩ := product_flip (FloatKind.f64.format.read A) (FloatKind.f64.format.read B)
  rw [h1]
  cases hc : (FloatKind.f64.format.read A).product (FloatKind.f64.format.read B) with
  | none => exact ⟨fun _ => rfl, fun p h => by cases h⟩
  | some c =>
    refine ⟨fun h => (by cases h), fun p h => ?_⟩
    obtain ⟨s, R, hR, e1, e2⟩ := write_form c (h2 c hc)
    have hp : p = signN s R := by
      have : some (FloatKind.f64.format.write c) = some p := h
      rw [e1] at this
      exact (Option.some.inj this).symm
    refine ⟨⟨s, R, hR, hp⟩, ?_⟩
    show some (FloatKind.f64.format.write c.opposite) = some (flipOf p)
    rw [e2, hp, flip_sign s R (by omega)]
theorem mul_nan (A B : Nat) (h : 9218868437227405312 < A % 9223372036854775808 ∨ 9218868437227405312 < B % 9223372036854775808) : FloatKind.f64.format.mul A B = none := by
  unfold Ieee.Format.mul
  rcases h with h | h
  · obtain ⟨s, t, e⟩ := read_nan A h
    rw [e]; rfl
  · obtain ⟨s, t, e⟩ := read_nan B h
    rw [e]
    cases FloatKind.f64.format.read A <;> rfl

/-- Rounding with the sign turned. -/
theorem nMag_turn (m : Nat) (e mode : Int) (neg : Bool) : nMag m e (turnM mode) (!neg) = nMag m e mode neg := by
  have hs : rSteps 24 (-126) m e (turnM mode) (!neg) = rSteps 24 (-126) m e mode neg := by unfold rSteps; rw [stepQ_turn]
  have ho : rOver 24 (-126) 127 m e (turnM mode) (!neg) ↔ rOver 24 (-126) 127 m e mode neg := by unfold rOver; rw [hs]
  unfold nMag
  rw [hs, grows_turn]
  by_cases h : rOver 24 (-126) 127 m e mode neg
  · rw [if_pos h, if_pos (ho.2 h)]
  · rw [if_neg h, if_neg (fun c => h (ho.1 c))]
theorem canon_flip (x : Nat) (hx : x < 18446744073709551616) (hn : x % 9223372036854775808 ≤ 9218868437227405312) : expOf (flipOf x) = expOf x ∧ mantOf (flipOf x) = mantOf x := by
  obtain ⟨e1, _⟩ := flip_mod x hx
  have c1 : canonOf x = x := by unfold canonOf; rw [if_neg (by omega)]
  have c2 : canonOf (flipOf x) = flipOf x := by unfold canonOf; rw [if_neg (by omega)]
  have h1 : expOf (flipOf x) = expOf x := by
    unfold expOf; rw [c1, c2]; unfold flipOf; split <;> omega
  have h2 : fracOf (flipOf x) = fracOf x := by
    unfold fracOf; rw [c1, c2]; unfold flipOf; split <;> omega
  refine ⟨h1, ?_⟩
  unfold mantOf
  rw [h1, h2]
theorem parts_flip (x : Nat) (hx : x < 18446744073709551616) (hn : x % 9223372036854775808 ≤ 9218868437227405312) : pMant (flipOf x) = pMant x ∧ pExp (flipOf x) = pExp x ∧ pErr (flipOf x) = pErr x := by
  obtain ⟨h1, h2⟩ := canon_flip x hx hn
  refine ⟨?_, ?_, ?_⟩
  · unfold pMant; rw [h1, h2]
  · unfold pExp; rw [h1, h2]
  · unfold pErr; rw [h1]
/-- Are two singles the same but for the sign, or both the NaN? -/
def Mir (a b : Nat) : Prop := a = 2143289344 ∧ b = 2143289344 ∨ ∃ s r, r ≤ 2139095040 ∧ a = signN32 s r ∧ b = signN32 (!s) r
theorem narrow_flip (x : Nat) (mode : Int) (hx : x < 18446744073709551616) : Mir (narrowOf x mode) (narrowOf (flipOf x) (turnM mode)) ∧ narrowFl (flipOf x) (turnM mode) = narrowFl x mode := by
  obtain ⟨e1, e2⟩ := flip_mod x hx
  unfold narrowOf narrowFl
  rw [e1, e2]
  by_cases hn : 9218868437227405312 < x % 9223372036854775808
  · rw [if_pos hn, if_pos hn, if_pos (Or.inl (Nat.le_of_lt hn)), if_pos (Or.inl (Nat.le_of_lt hn))]
    exact ⟨Or.inl ⟨rfl, rfl⟩, rfl⟩
  · obtain ⟨p1, p2, p3⟩ := parts_flip x hx (by omega)
    rw [if_neg hn, if_neg hn, p1, p2]
    obtain ⟨s, hs⟩ : ∃ s, decide (9223372036854775808 ≤ x) = s := ⟨_, rfl⟩
    rw [hs]
    by_cases hi : x % 9223372036854775808 = 9218868437227405312
    · rw [if_pos hi, if_pos hi, if_pos (Or.inl (by omega)), if_pos (Or.inl (by omega))]
      exact ⟨Or.inr ⟨s, _, Nat.le_refl _, rfl, rfl⟩, rfl⟩
    · rw [if_neg hi, if_neg hi]
      by_cases h0 : x % 9223372036854775808 = 0
      · rw [if_pos h0, if_pos h0, if_pos (Or.inr h0), if_pos (Or.inr h0)]
        exact ⟨Or.inr ⟨s, 0, by decide, rfl, rfl⟩, rfl⟩
      · rw [if_neg h0, if_neg h0, if_neg (by omega), if_neg (by omega), nMag_turn, (rnd_turn 24 (-126) 127 (pMant x) (pExp x) mode s).2]
        exact ⟨Or.inr ⟨s, _, (n_conv _ _ _ _).2, rfl, rfl⟩, rfl⟩
end Go.Proofs.YtpgcelbgmpfliaaDoor

namespace Go.Proofs.YtpgcelbgmpfliaaDoor
open Go.RowKit Go.IntWalk

/-- A float operation without an answer gives some NaN. -/
theorem nan_arith (op : BinOp) (x y : Nat) (hop : op = .add ∨ op = .sub ∨ op = .mul ∨ op = .quo) (h : floatBits op .f64 x y = none) : ∃ f : World → Nat, (∀ w, f w < 18446744073709551616 ∧ 9218868437227405312 < f w % 9223372036854775808) ∧ ∀ (t : TypeId) (w : World), (binOp op t (.float .f64 x) (.float .f64 y)).run Tryd.prog w = .ok (.float .f64 (f w)) w.drew := by
  refine ⟨fun w => (Question.nanBits .f64 x y).cut (w.tape w.drawn (Question.nanBits .f64 x y)), fun w => ?_, fun t w => ?_⟩
  · show (_ % 2) * 2 ^ 63 + 0x7ff0000000000000 + 1 + (_ / 2) % (2 ^ 52 - 1) < 18446744073709551616 ∧ 9218868437227405312 < ((_ % 2) * 2 ^ 63 + 0x7ff0000000000000 + 1 + (_ / 2) % (2 ^ 52 - 1)) % 9223372036854775808
    exact nan_form64 _ _ (Nat.mod_lt _ (by decide)) (Nat.mod_lt _ (by decide))
  · unfold floatBits at h
    rcases hop with rfl | rfl | rfl | rfl <;> simp only at h <;> simp [binOp, Op.floatArith, h, Question.forced]
set_option maxHeartbeats 400000 in
theorem nan_lib (w : World) : Calls Tryd.prog 70 #[] w fun r w' => r = .returned (.float .f64 9221120237041090561) ∧ w' = w := by
  have h2 := f64fromI'
  go_enter Tryd.func70, Tryd.ntmps70
  go_wp2
  go_ret
  exact ⟨rfl, rfl⟩
set_option maxHeartbeats 400000 in
theorem theNaN_any (w : World) : Calls Tryd.prog 57 #[] w fun r w' => r = .returned (.float .f32 2143289344) ∧ Below w.heap.size w w' := by
  obtain ⟨f, hf, hc⟩ := narrow_nan_run 9221120237041090561 (by decide)
  have HF := hid hf
  clear hf
  go_enter Tryd.func57, Tryd.ntmps57
  go_wp2_with fail
  refine (nan_lib _).mono ?_
  rintro r w1 ⟨rfl, rfl⟩
  go_wp2_with fail
  refine (Canon_any32 (f w1) _ (HF.out w1).1).mono ?_
  rintro e w3 ⟨rfl, hb3⟩
  have hcn : canonOf32 (f w1) = 2143289344 := by unfold canonOf32; rw [if_pos (HF.out w1).2]
  rw [hcn]
  go_wp2
  go_ret
  exact ⟨rfl, ⟨hb3.os, hb3.tape, hb3.output, hb3.size, hb3.block⟩⟩
set_option maxHeartbeats 400000 in
theorem mult_some (A B p : Nat) (mode : Int) (w : World) (hp : p < 18446744073709551616) (hn : p % 9223372036854775808 ≤ 9218868437227405312) (h : FloatKind.f64.format.mul A B = some p) (hT : Tab w) (hs : 1 < w.heap.size) :
    Calls Tryd.prog 34 #[.float .f64 A, .float .f64 B, .int .i64 mode] w fun e w' => e = .returned (.tuple #[.float .f32 (narrowOf p mode), .int .i64 (narrowFl p mode)]) ∧ Below w.heap.size w w' := by
  have ha : ∀ w : World, (binOp .mul 30 (.float .f64 A) (.float .f64 B)).run Tryd.prog w = .ok (.float .f64 p) w := fun w => run_float_arith w .mul _ .f64 A B p h
  have HI := hid (fun (w : World) => isnan_any p w hp)
  rw [decide_eq_false (by omega)] at HI
  have HN := hid (narrow_any p mode w hp hT hs)
  obtain ⟨X, HX⟩ : ∃ X, Hid (narrowOf p mode = X) := ⟨_, rfl⟩
  obtain ⟨Y, HY⟩ : ∃ Y, Hid (narrowFl p mode = Y) := ⟨_, rfl⟩
  rw [HX.out, HY.out] at HN ⊢
  clear h hn hp
  go_enter Tryd.func34, Tryd.ntmps34
  go_wp2_with fail
  refine (HI.out _).mono ?_
  rintro r w1 ⟨rfl, rfl⟩
  go_wp2_with fail
  refine HN.out.mono ?_
  rintro r w2 ⟨rfl, hb⟩
  go_wp2
  go_ret2
  exact ⟨rfl, hb⟩
set_option maxHeartbeats 400000 in
theorem mult_bad (A B : Nat) (mode : Int) (w : World) (hA : A < 18446744073709551616) (hB : B < 18446744073709551616) (nA : A % 9223372036854775808 ≤ 9218868437227405312) (nB : B % 9223372036854775808 ≤ 9218868437227405312) (h : FloatKind.f64.format.mul A B = none) :
    Calls Tryd.prog 34 #[.float .f64 A, .float .f64 B, .int .i64 mode] w fun e w' => e = .returned (.tuple #[.float .f32 2143289344, .int .i64 8]) ∧ Below w.heap.size w w' := by
  obtain ⟨f, hf, ha⟩ := nan_arith .mul A B (by simp) h
  have HF := hid hf
  have H1 := hid (fun (w : World) => isnan_any A w hA)
  have H2 := hid (fun (w : World) => isnan_any B w hB)
  rw [decide_eq_false (by omega)] at H1 H2
  have H3 := hid (fun (v w : World) => isnan_any (f v) w (hf v).1)
  clear h nA nB hA hB hf
  go_enter Tryd.func34, Tryd.ntmps34
  go_wp2_with fail
  refine (H3.out w _).mono ?_
  rw [decide_eq_true (HF.out w).2]
  rintro r w1 ⟨rfl, rfl⟩
  go_wp2_with fail
  refine (H1.out _).mono ?_
  rintro r w1 ⟨rfl, rfl⟩
  go_wp2_with fail
  refine (H2.out _).mono ?_
  rintro r w1 ⟨rfl, rfl⟩
  go_wp2_with fail
  refine (theNaN_any _).mono ?_
  rintro r w2 ⟨rfl, hb⟩
  go_wp2
  go_ret2
  exact ⟨rfl, ⟨hb.os, hb.tape, hb.output, hb.size, hb.block⟩⟩
set_option maxHeartbeats 400000 in
theorem mult_nan (A B : Nat) (mode : Int) (w : World) (hA : A < 18446744073709551616) (hB : B < 18446744073709551616) (hn : 9218868437227405312 < A % 9223372036854775808 ∨ 9218868437227405312 < B % 9223372036854775808) (hT : Tab w) (hs : 1 < w.heap.size) :
    Calls Tryd.prog 34 #[.float .f64 A, .float .f64 B, .int .i64 mode] w fun e w' => e = .returned (.tuple #[.float .f32 2143289344, .int .i64 0]) ∧ Below w.heap.size w w' := by
  obtain ⟨f, hf, ha⟩ := nan_arith .mul A B (by simp) (mul_nan A B hn)
  have HF := hid hf
  have H1 := hid (fun (w : World) => isnan_any A w hA)
  have H2 := hid (fun (w : World) => isnan_any B w hB)
  have H3 := hid (fun (v w : World) => isnan_any (f v) w (hf v).1)
  have hN : ∀ w v, Tab w → 1 < w.heap.size → Calls Tryd.prog 32 #[.float .f64 (f v), .int .i64 mode] w fun e w' => e = .returned (.tuple #[.float .f32 2143289344, .int .i64 0]) ∧ Below w.heap.size w w' := by
    intro w v hT hs
    have e1 : narrowOf (f v) mode = 2143289344 := by unfold narrowOf; rw [if_pos (hf v).2]
    have e2 : narrowFl (f v) mode = 0 := by unfold narrowFl; rw [if_pos (Or.inl (Nat.le_of_lt (hf v).2))]
    have := narrow_any (f v) mode w (hf v).1 hT hs
    rw [e1, e2] at this
    exact this
  have HN := hid hN
  clear hA hB hf hN
  have hTd : Tab w.drew := fun j hj => hT j hj
  by_cases h1 : 9218868437227405312 < A % 9223372036854775808
  · rw [decide_eq_true h1] at H1
    clear hn h1
    go_enter Tryd.func34, Tryd.ntmps34
    go_wp2_with fail
    refine (H3.out w _).mono ?_
    rw [decide_eq_true (HF.out w).2]
    rintro r w1 ⟨rfl, rfl⟩
    go_wp2_with fail
    refine (H1.out _).mono ?_
    rintro r w1 ⟨rfl, rfl⟩
    go_wp2_with fail
    refine (HN.out _ w hTd hs).mono ?_
    rintro r w2 ⟨rfl, hb⟩
    go_wp2
    go_ret2
    exact ⟨rfl, ⟨hb.os, hb.tape, hb.output, hb.size, hb.block⟩⟩
  · have h2 : 9218868437227405312 < B % 9223372036854775808 := by
      rcases hn with hn | hn
      · exact absurd hn h1
      · exact hn
    rw [decide_eq_false h1] at H1
    rw [decide_eq_true h2] at H2
    clear hn h1 h2
    go_enter Tryd.func34, Tryd.ntmps34
    go_wp2_with fail
    refine (H3.out w _).mono ?_
    rw [decide_eq_true (HF.out w).2]
    rintro r w1 ⟨rfl, rfl⟩
    go_wp2_with fail
    refine (H1.out _).mono ?_
    rintro r w1 ⟨rfl, rfl⟩
    go_wp2_with fail
    refine (H2.out _).mono ?_
    rintro r w1 ⟨rfl, rfl⟩
    go_wp2_with fail
    refine (HN.out _ w hTd hs).mono ?_
    rintro r w2 ⟨rfl, hb⟩
    go_wp2
    go_ret2
    exact ⟨rfl, ⟨hb.os, hb.tape, hb.output, hb.size, hb.block⟩⟩
end Go.Proofs.YtpgcelbgmpfliaaDoor
