
/- The other sign, in plain arithmetic: of numbers, of what is rounded, of products and quotients. -/
import Derived.Test.YtdhifmkfdpbpcaaDoorCvAwake
import Derived.Test.YtdhifmkfdpbpcaaDoorNumsN
namespace Go.Proofs.YtdhifmkfdpbpcaaDoor
open Go Go.RowKit Go.IntWalk

def flip32 (x : Nat) : Nat := if 2147483648 ≤ x then x - 2147483648 else x + 2147483648
theorem flip_sign (s : Bool) (r : Nat) (h : r < 9223372036854775808) : flipOf (signN s r) = signN (!s) r := by
  cases s
  · show flipOf r = r + 9223372036854775808
    unfold flipOf; rw [if_neg (by omega)]
  · show flipOf (r + 9223372036854775808) = r
    unfold flipOf; rw [if_pos (by omega)]; omega
theorem flip_sign32 (s : Bool) (r : Nat) (h : r < 2147483648) : flip32 (signN32 s r) = signN32 (!s) r := by
  cases s
  · show flip32 r = r + 2147483648
    unfold flip32; rw [if_neg (by omega)]
  · show flip32 (r + 2147483648) = r
    unfold flip32; rw [if_pos (by omega)]; omega
theorem flip_mod (x : Nat) (hx : x < 18446744073709551616) : flipOf x % 9223372036854775808 = x % 9223372036854775808 ∧ decide (9223372036854775808 ≤ flipOf x) = !decide (9223372036854775808 ≤ x) := by
  unfold flipOf
  by_cases h : 9223372036854775808 ≤ x
  · rw [if_pos h, decide_eq_true h]; exact ⟨by omega, decide_eq_false (by omega)⟩
  · rw [if_neg h, decide_eq_false h]; exact ⟨by omega, decide_eq_true (by omega)⟩
theorem nearest_any (m : Nat) (p : Int) : ∃ R, R ≤ 9218868437227405312 ∧ ∀ s, FloatKind.f64.format.nearest s m p = signN s R := by
  by_cases h : m = 0
  · refine ⟨0, by decide, fun s => ?_⟩
    unfold Ieee.Format.nearest
    rw [if_pos h, word_sign]
  · obtain ⟨l, hl⟩ : ∃ l, max (p + (m.log2 : Int) - (FloatKind.f64.format.fractionBits : Int)) FloatKind.f64.format.leastPlace = l := ⟨_, rfl⟩
    refine ⟨min ((l - FloatKind.f64.format.leastPlace).toNat * FloatKind.f64.format.binade + Ieee.Toward.even.cut false (m <<< (p - l).toNat) (l - p).toNat) FloatKind.f64.format.infRung, by rw [fmt_inf]; exact Nat.min_le_right _ _, fun s => ?_⟩
    rw [← word_sign]
    unfold Ieee.Format.nearest
    rw [if_neg h]
    simp only [hl]
    rfl
theorem read_flip (x : Nat) (hx : x < 18446744073709551616) : FloatKind.f64.format.read (flipOf x) = (FloatKind.f64.format.read x).opposite := by
  obtain ⟨e1, e2⟩ := flip_mod x hx
  have hf := flip_lt hx
  unfold Ieee.Format.read
  rw [fmt_sw, fmt_bin, fmt_inf, fmt_lp, sign_read x hx, sign_read _ hf, e1, e2]
  simp only
  split
  · rfl
  · split
    · rfl
    · split <;> rfl
theorem write_form (d : Ieee.Datum) (h : d.isNaN = false) : ∃ s R, R ≤ 9218868437227405312 ∧ FloatKind.f64.format.write d = signN s R ∧ FloatKind.f64.format.write d.opposite = signN (!s) R := by
  cases d with
  | number s m p =>
    obtain ⟨R, hR, hn⟩ := nearest_any m p
    exact ⟨s, R, hR, hn s, hn (!s)⟩
  | infinity s =>
    refine ⟨s, 9218868437227405312, Nat.le_refl _, ?_, ?_⟩
    · show FloatKind.f64.format.word s FloatKind.f64.format.infRung = _
      rw [word_sign, fmt_inf]
    · show FloatKind.f64.format.word (!s) FloatKind.f64.format.infRung = _
      rw [word_sign, fmt_inf]
  | nan s t => cases h
theorem product_flip (d e : Ieee.Datum) : d.opposite.product e = (d.product e).map Ieee.Datum.opposite ∧ ∀ c, d.product e = some c → c.isNaN = false := by
  cases d with
  | nan s t => cases e <;> exact ⟨rfl, fun c h => by cases h⟩
  | infinity s =>
    cases e with
    | nan t u => exact ⟨rfl, fun c h => by cases h⟩
    | infinity t =>
      refine ⟨?_, fun c h => by cases h; rfl⟩
      show some (Ieee.Datum.infinity (!s ^^ t)) = some (Ieee.Datum.infinity (!(s ^^ t)))
      cases s <;> cases t <;> rfl
    | number t n j =>
      refine ⟨?_, fun c h => ?_⟩
      · show (if n = 0 then none else some (Ieee.Datum.infinity (!s ^^ t))) = (if n = 0 then none else some (Ieee.Datum.infinity (s ^^ t))).map Ieee.Datum.opposite
        split
        · rfl
        · show some (Ieee.Datum.infinity (!s ^^ t)) = some (Ieee.Datum.infinity (!(s ^^ t)))
          cases s <;> cases t <;> rfl
      · have h' : (if n = 0 then none else some (Ieee.Datum.infinity (s ^^ t))) = some c := h
        split at h'
        · cases h'
        · cases h'; rfl
  | number s m i =>
    cases e with
    | nan t u => exact ⟨rfl, fun c h => by cases h⟩
    | infinity t =>
      refine ⟨?_, fun c h => ?_⟩
      · show (if m = 0 then none else some (Ieee.Datum.infinity (t ^^ !s))) = (if m = 0 then none else some (Ieee.Datum.infinity (t ^^ s))).map Ieee.Datum.opposite
        split
        · rfl
        · show some (Ieee.Datum.infinity (t ^^ !s)) = some (Ieee.Datum.infinity (!(t ^^ s)))
          cases s <;> cases t <;> rfl
      · have h' : (if m = 0 then none else some (Ieee.Datum.infinity (t ^^ s))) = some c := h
        split at h'
        · cases h'
        · cases h'; rfl
    | number t n j =>
      refine ⟨?_, fun c h => by cases h; rfl⟩
      show some (Ieee.Datum.number (!s ^^ t) (m * n) (i + j)) = some (Ieee.Datum.number (!(s ^^ t)) (m * n) (i + j))
      cases s <;> cases t <;> rfl
/-- A product with one sign turned. -/
theorem mul_flip (A B : Nat) (hA : A < 18446744073709551616) : (FloatKind.f64.format.mul A B = none → FloatKind.f64.format.mul (flipOf A) B = none) ∧ ∀ p, FloatKind.f64.format.mul A B = some p → (∃ s R, R ≤ 9218868437227405312 ∧ p = signN s R) ∧ FloatKind.f64.format.mul (flipOf A) B = some (flipOf p) := by
  unfold Ieee.Format.mul
  rw [read_flip A hA]
  obtain ⟨h1, h2⟩ := product_flip (FloatKind.f64.format.read A) (FloatKind.f64.format.read B)
  rw [h1]
  cases hc : (FloatKind.f64.format.read A).product (FloatKind.f64.format.read B) with
  | none => exact ⟨fun _ => rfl, fun p h => by cases h⟩
  | some c =>
    refine ⟨fun h => (by cases h), fun p h => ?_⟩
    obtain ⟨s, R, hR, e1, e2⟩ := write_form c (h2 c hc)
    have hp : p = signN s R := by
      have : some (FloatKind.f64.format.write c) = some p := h
      rw [e1] at this
      exact (Option.some.inj this).symm
    refine ⟨⟨s, R, hR, hp⟩, ?_⟩
    show some (FloatKind.f64.format.write c.opposite) = some (flipOf p)
    rw [e2, hp, flip_sign s R (by omega)]
theorem mul_nan (A B : Nat) (h : 9218868437227405312 < A % 9223372036854775808 ∨ 9218868437227405312 < B % 9223372036854775808) : FloatKind.f64.format.mul A B = none := by
  unfold Ieee.Format.mul
  rcases h with h | h
  · obtain ⟨s, t, e⟩ := read_nan A h
    rw [e]; rfl
  · obtain ⟨s, t, e⟩ := read_nan B h
    rw [e]
    cases FloatKind.f64.format.read A <;> rfl

/-- Rounding with the sign turned. -/
theorem nMag_turn (m : Nat) (e mode : Int) (neg : Bool) : nMag m e (turnM mode) (!neg) = nMag m e mode neg := by
  have hs : rSteps 24 (-126) m e (turnM mode) (!neg) = rSteps 24 (-126) m e mode neg := by unfold rSteps; rw [stepQ_turn]
  have ho : rOver 24 (-126) 127 m e (turnM mode) (!neg) ↔ rOver 24 (-126) 127 m e mode neg := by unfold rOver; rw [hs]
  unfold nMag
  rw [hs, grows_turn]
  by_cases h : rOver 24 (-126) 127 m e mode neg
  · rw [if_pos h, if_pos (ho.2 h)]
  · rw [if_neg h, if_neg (fun c => h (ho.1 c))]
theorem canon_flip (x : Nat) (hx : x < 18446744073709551616) (hn : x % 9223372036854775808 ≤ 9218868437227405312) : expOf (flipOf x) = expOf x ∧ mantOf (flipOf x) = mantOf x := by
  obtain ⟨e1, _⟩ := flip_mod x hx
  have c1 : canonOf x = x := by unfold canonOf; rw [if_neg (by omega)]
  have c2 : canonOf (flipOf x) = flipOf x := by unfold canonOf; rw [if_neg (by omega)]
  have h1 : expOf (flipOf x) = expOf x := by
    unfold expOf; rw [c1, c2]; unfold flipOf; split <;> omega
  have h2 : fracOf (flipOf x) = fracOf x := by
    unfold fracOf; rw [c1, c2]; unfold flipOf; split <;> omega
  refine ⟨h1, ?_⟩
  unfold mantOf
  rw [h1, h2]
theorem parts_flip (x : Nat) (hx : x < 18446744073709551616) (hn : x % 9223372036854775808 ≤ 9218868437227405312) : pMant (flipOf x) = pMant x ∧ pExp (flipOf x) = pExp x ∧ pErr (flipOf x) = pErr x := by
  obtain ⟨h1, h2⟩ := canon_flip x hx hn
  refine ⟨?_, ?_, ?_⟩
  · unfold pMant; rw [h1, h2]
  · unfold pExp; rw [h1, h2]
  · unfold pErr; rw [h1]
/-- Are two singles the same but for the sign, or both the NaN? -/
def Mir (a b : Nat) : Prop := a = 2143289344 ∧ b = 2143289344 ∨ ∃ s r, r ≤ 2139095040 ∧ a = signN32 s r ∧ b = signN32 (!s) r
theorem narrow_flip (x : Nat) (mode : Int) (hx : x < 18446744073709551616) : Mir (narrowOf x mode) (narrowOf (flipOf x) (turnM mode)) ∧ narrowFl (flipOf x) (turnM mode) = narrowFl x mode := by
  obtain ⟨e1, e2⟩ := flip_mod x hx
  unfold narrowOf narrowFl
  rw [e1, e2]
  by_cases hn : 9218868437227405312 < x % 9223372036854775808
  · rw [if_pos hn, if_pos hn, if_pos (Or.inl (Nat.le_of_lt hn)), if_pos (Or.inl (Nat.le_of_lt hn))]
    exact ⟨Or.inl ⟨rfl, rfl⟩, rfl⟩
  · obtain ⟨p1, p2, p3⟩ := parts_flip x hx (by omega)
    rw [if_neg hn, if_neg hn, p1, p2]
    obtain ⟨s, hs⟩ : ∃ s, decide (9223372036854775808 ≤ x) = s := ⟨_, rfl⟩
    rw [hs]
    by_cases hi : x % 9223372036854775808 = 9218868437227405312
    · rw [if_pos hi, if_pos hi, if_pos (Or.inl (by omega)), if_pos (Or.inl (by omega))]
      exact ⟨Or.inr ⟨s, _, Nat.le_refl _, rfl, rfl⟩, rfl⟩
    · rw [if_neg hi, if_neg hi]
      by_cases h0 : x % 9223372036854775808 = 0
      · rw [if_pos h0, if_pos h0, if_pos (Or.inr h0), if_pos (Or.inr h0)]
        exact ⟨Or.inr ⟨s, 0, by decide, rfl, rfl⟩, rfl⟩
      · rw [if_neg h0, if_neg h0, if_neg (by omega), if_neg (by omega), nMag_turn, (rnd_turn 24 (-126) 127 (pMant x) (pExp x) mode s).2]
        exact ⟨Or.inr ⟨s, _, (n_conv _ _ _ _).2, rfl, rfl⟩, rfl⟩
end Go.Proofs.YtdhifmkfdpbpcaaDoor
