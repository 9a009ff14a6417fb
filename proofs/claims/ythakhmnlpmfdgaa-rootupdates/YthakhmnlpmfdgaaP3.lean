
/- Rounding to binary64 where nothing is lost, and sums and differences that are exact; no program is spoken of. -/
import Derived.Test.YthakhmnlpmfdgaaP2
import Ieee.Arith
namespace Go.Proofs.Ythakhmnlpmfdgaa
open Go

theorem log2_mul_pow (m p : Nat) (h : m ≠ 0) : (m * 2 ^ p).log2 = m.log2 + p := by
  have hne : m * 2 ^ p ≠ 0 := Nat.mul_ne_zero h (Nat.pos_iff_ne_zero.1 (Nat.two_pow_pos p))
  rw [Nat.log2_eq_iff hne]
  have h1 := Nat.log2_self_le h
  have h2 := Nat.lt_log2_self (n := m)
  constructor
  · rw [Nat.pow_add]; exact Nat.mul_le_mul_right _ h1
  · have e : m.log2 + p + 1 = (m.log2 + 1) + p := by omega
    rw [e, Nat.pow_add]
    exact Nat.mul_lt_mul_of_pos_right h2 (Nat.two_pow_pos p)
/-- Where the dropped digits are noughts, cutting is dividing. -/
theorem cut_exact (way : Ieee.Toward) (s : Bool) (n d k : Nat) (hd : d ≤ n.log2 + 2) (h : n = k * 2 ^ d) : way.cut s n d = k := by
  unfold Ieee.Toward.cut
  have e1 : min d (n.log2 + 2) = d := Nat.min_eq_left hd
  have e2 : (1 <<< d : Nat) = 2 ^ d := by rw [Nat.shiftLeft_eq, Nat.one_mul]
  have hp := Nat.two_pow_pos d
  have e3 : n / 2 ^ d = k := by rw [h, Nat.mul_div_cancel _ hp]
  have e4 : n % 2 ^ d = 0 := by rw [h, Nat.mul_mod_left]
  simp only [e1, e2, e3, e4]
  cases way
  · have : ¬ 2 ^ d < 2 * 0 := by omega
    have h2 : (2 ^ d == 2 * 0) = false := by
      rw [beq_eq_false_iff_ne]; omega
    simp [this, h2]
  · simp
  · simp
  · simp

theorem fmt_fb : FloatKind.f64.format.fractionBits = 52 := by decide
/-- What is a number already is not rounded. -/
theorem nearest_nv (s : Bool) (mag p r : Nat) (h0 : mag ≠ 0) (hr : r < 9218868437227405312) (h : mag * 2 ^ p = nv r) :
    FloatKind.f64.format.nearest s mag ((p : Int) - 1074) = FloatKind.f64.format.word s r := by
  unfold Ieee.Format.nearest
  rw [if_neg h0, fmt_fb, fmt_lp, fmt_bin, fmt_inf]
  have hV : nv r ≠ 0 := by rw [← h]; exact Nat.mul_ne_zero h0 (Nat.pos_iff_ne_zero.1 (Nat.two_pow_pos p))
  have hlog : (nv r).log2 = mag.log2 + p := by rw [← h]; exact log2_mul_pow mag p h0
  -- e: the place of the last digit that is kept; K: what is kept
  obtain ⟨e, K, hle, hK, hrung⟩ : ∃ e K : Nat, e = (nv r).log2 - 52 ∧ nv r = K * 2 ^ e ∧ e * 4503599627370496 + K = r := by
    by_cases hs : r < 4503599627370496
    · have hn : nv r = r := by unfold nv; rw [if_pos hs]
      refine ⟨0, r, ?_, by rw [hn]; omega, by omega⟩
      have : (nv r).log2 < 52 := by rw [Nat.log2_lt hV, hn]; simpa using hs
      omega
    · have hn : nv r = (4503599627370496 + r % 4503599627370496) * 2 ^ (r / 4503599627370496 - 1) := by unfold nv; rw [if_neg hs]
      refine ⟨r / 4503599627370496 - 1, 4503599627370496 + r % 4503599627370496, ?_, hn, by omega⟩
      have : (nv r).log2 = 52 + (r / 4503599627370496 - 1) := by
        rw [hn, log2_mul_pow _ _ (by omega)]
        congr 1
        rw [Nat.log2_eq_iff (by omega)]
        have h52 : (2 : Nat) ^ 52 = 4503599627370496 := by decide
        have h53 : (2 : Nat) ^ (52 + 1) = 9007199254740992 := by decide
        rw [h52, h53]
        omega
      omega
  have hlast : max ((p : Int) - 1074 + (mag.log2 : Int) - ((52 : Nat) : Int)) (-1074) = (e : Int) - 1074 := by omega
  simp only [hlast]
  have t1 : ((p : Int) - 1074 - ((e : Int) - 1074)).toNat = p - e := by omega
  have t2 : ((e : Int) - 1074 - ((p : Int) - 1074)).toNat = e - p := by omega
  have t3 : ((e : Int) - 1074 - -1074).toNat = e := by omega
  rw [t1, t2, t3]
  have hcut : Ieee.Toward.even.cut s (mag <<< (p - e)) (e - p) = K := by
    apply cut_exact
    · rw [Nat.shiftLeft_eq, log2_mul_pow _ _ h0]
      omega
    · rw [Nat.shiftLeft_eq]
      rcases Nat.le_total e p with hep | hep
      · have z : e - p = 0 := by omega
        rw [z, Nat.pow_zero, Nat.mul_one]
        have hp := Nat.two_pow_pos e
        apply Nat.eq_of_mul_eq_mul_right hp
        rw [Nat.mul_assoc, ← Nat.pow_add, Nat.sub_add_cancel hep, h, hK]
      · have z : p - e = 0 := by omega
        rw [z, Nat.pow_zero, Nat.mul_one]
        have hp := Nat.two_pow_pos p
        apply Nat.eq_of_mul_eq_mul_right hp
        rw [h, hK, Nat.mul_assoc, ← Nat.pow_add, Nat.sub_add_cancel hep]
  rw [hcut, hrung, Nat.min_eq_left (by omega)]
theorem nearest_zero (s : Bool) (p : Int) : FloatKind.f64.format.nearest s 0 p = FloatKind.f64.format.word s 0 := by
  unfold Ieee.Format.nearest; rw [if_pos rfl]
theorem word_false (r : Nat) : FloatKind.f64.format.word false r = r := by unfold Ieee.Format.word; rw [if_neg (by decide)]
theorem word_true (r : Nat) : FloatKind.f64.format.word true r = 9223372036854775808 + r := by unfold Ieee.Format.word; rw [if_pos rfl, fmt_sw]

/-- The sum of two finite numbers: what is rounded, and its value. -/
theorem sum_val (s t : Bool) (m n p q : Nat) (A B : Int) (hA : A = if s then -((m * 2 ^ p : Nat) : Int) else ((m * 2 ^ p : Nat) : Int)) (hB : B = if t then -((n * 2 ^ q : Nat) : Int) else ((n * 2 ^ q : Nat) : Int)) :
    ∃ mag b : Nat, (Ieee.Datum.number s m ((p : Int) - 1074)).sum (.number t n ((q : Int) - 1074)) = some (.number (if A + B = 0 then s && t else decide (A + B < 0)) mag ((b : Int) - 1074)) ∧ mag * 2 ^ b = (A + B).natAbs := by
  have hb : min ((p : Int) - 1074) ((q : Int) - 1074) = ((min p q : Nat) : Int) - 1074 := by omega
  have t1 : ((p : Int) - 1074 - (((min p q : Nat) : Int) - 1074)).toNat = p - min p q := by omega
  have t2 : ((q : Int) - 1074 - (((min p q : Nat) : Int) - 1074)).toNat = q - min p q := by omega
  have e1 := signed_scale s m (min p q) p (Nat.min_le_left _ _)
  have e2 := signed_scale t n (min p q) q (Nat.min_le_right _ _)
  have hsum : (Ieee.signed s m (p - min p q) + Ieee.signed t n (q - min p q)) * ((2 ^ min p q : Nat) : Int) = A + B := by
    rw [Int.add_mul, e1, e2, hA, hB]
  have hp : (0 : Int) < ((2 ^ min p q : Nat) : Int) := by have := Nat.two_pow_pos (min p q); omega
  obtain ⟨T, hT⟩ : ∃ T, T = Ieee.signed s m (p - min p q) + Ieee.signed t n (q - min p q) := ⟨_, rfl⟩
  rw [← hT] at hsum
  refine ⟨T.natAbs, min p q, ?_, ?_⟩
  · show some (Ieee.Datum.number _ _ _) = _
    simp only [hb, t1, t2, ← hT]
    have z1 : T = 0 ↔ A + B = 0 := by
      rw [← hsum]
      constructor
      · intro h; rw [h, Int.zero_mul]
      · intro h
        rcases Int.mul_eq_zero.1 h with h | h
        · exact h
        · omega
    have z2 : T < 0 ↔ A + B < 0 := by
      rw [← hsum]
      constructor
      · intro h; exact Int.mul_neg_of_neg_of_pos h hp
      · intro h
        apply Classical.byContradiction
        intro h2
        have := Int.mul_nonneg (show 0 ≤ T by omega) (Int.le_of_lt hp)
        omega
    by_cases c : A + B = 0
    · rw [if_pos (z1.2 c), if_pos c]
    · rw [if_neg (fun h => c (z1.1 h)), if_neg c, decide_eq_decide.2 z2]
  · rw [← hsum, Int.natAbs_mul]
    rfl

theorem sv_form (x : Nat) (m p : Nat) (h : m * 2 ^ p = nv (x % 9223372036854775808)) : sv x = if (decide (9223372036854775808 ≤ x)) then -((m * 2 ^ p : Nat) : Int) else ((m * 2 ^ p : Nat) : Int) := by
  unfold sv; rw [h]; simp only [decide_eq_true_eq]
/-- A difference of finite numbers that is a magnitude's value: nothing is lost. -/
theorem sub_exact (x y r : Nat) (hx : x < 18446744073709551616) (hy : y < 18446744073709551616) (fx : x % 9223372036854775808 < 9218868437227405312) (fy : y % 9223372036854775808 < 9218868437227405312) (hr : r < 9218868437227405312) (h0 : sv y < sv x) (h : (sv x - sv y).natAbs = nv r) :
    FloatKind.f64.format.sub x y = some r := by
  obtain ⟨m, p, ex, vx⟩ := read_fin x hx fx
  obtain ⟨n, q, ey, vy⟩ := read_fin y hy fy
  unfold Ieee.Format.sub
  rw [ex, ey]
  have hA := sv_form x m p vx
  have hB : -sv y = if (!decide (9223372036854775808 ≤ y)) then -((n * 2 ^ q : Nat) : Int) else ((n * 2 ^ q : Nat) : Int) := by
    rw [sv_form y n q vy]
    by_cases c : 9223372036854775808 ≤ y <;> simp [c]
  obtain ⟨mag, b, e, hv⟩ := sum_val _ _ m n p q (sv x) (-sv y) hA hB
  show ((Ieee.Datum.number _ m _).sum (.number (!decide (9223372036854775808 ≤ y)) n _)).map _ = _
  rw [e]
  have c1 : ¬ sv x + -sv y = 0 := by omega
  have c2 : ¬ sv x + -sv y < 0 := by omega
  rw [if_neg c1, decide_eq_false c2]
  have hv' : mag * 2 ^ b = nv r := by rw [hv, ← h]; congr 1
  have hm0 : mag ≠ 0 := by
    intro hz
    rw [hz, Nat.zero_mul] at hv
    omega
  show some (FloatKind.f64.format.nearest false mag ((b : Int) - 1074)) = some r
  rw [nearest_nv false mag b r hm0 hr hv', word_false]
end Go.Proofs.Ythakhmnlpmfdgaa
