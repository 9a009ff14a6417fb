
/- Plain arithmetic on neighbours and steps of singles; no program is spoken of. -/
import Derived.Test.YtfeojdmffipinaaDoorS1
import Derived.Test.YtfeojdmffipinaaDoorRefUlp
namespace Go.Proofs.YtfeojdmffipinaaDoor
open Go Go.RowKit Go.IntWalk

open Go Go.RowKit Go.IntWalk

/-- The next number's bits. -/
def nextOf32 (x : Nat) : Nat :=
  if canonOf32 x = 2143289344 ∨ canonOf32 x = 2139095040 then canonOf32 x else if canonOf32 x = 2147483648 then 1 else if 2147483648 ≤ canonOf32 x then canonOf32 x - 1 else canonOf32 x + 1
/-- The bits with the other sign. -/
def flipOf32 (x : Nat) : Nat := if 2147483648 ≤ x then x - 2147483648 else x + 2147483648
def prevOf32 (x : Nat) : Nat := if canonOf32 x = 2143289344 then 2143289344 else flipOf32 (nextOf32 (flipOf32 (canonOf32 x)))
theorem canon_cases32 (x : Nat) : canonOf32 x = 2143289344 ∨ canonOf32 x % 2147483648 ≤ 2139095040 := by
  unfold canonOf32
  split
  · exact Or.inl rfl
  · right; omega
theorem next_lt32 {x : Nat} (hx : x < 4294967296) : nextOf32 x < 4294967296 := by
  have := canon_lt32 hx
  have := canon_cases32 x
  unfold nextOf32
  split
  · omega
  · split
    · omega
    · split <;> omega
theorem flip_lt32 {x : Nat} (hx : x < 4294967296) : flipOf32 x < 4294967296 := by unfold flipOf32; split <;> omega
theorem flip_flip32 {x : Nat} (hx : x < 4294967296) : flipOf32 (flipOf32 x) = x := by unfold flipOf32; split <;> split <;> omega
theorem xor_sign32 (x : Nat) (hx : x < 4294967296) : bits .xor .u32 (x : Int) 2147483648 = (flipOf32 x : Int) := by
  have h := u32_xor_nat x 2147483648 hx (by omega)
  have e : x ^^^ 2147483648 = flipOf32 x := by
    apply Nat.eq_of_testBit_eq
    intro i
    have h31 : (2147483648 : Nat) = 2 ^ 31 := by decide
    unfold flipOf32
    rw [Nat.testBit_xor]
    by_cases hs : 2147483648 ≤ x
    · rw [if_pos hs]
      obtain ⟨m, hm⟩ : ∃ m, x = 2 ^ 31 + m := ⟨x - 2 ^ 31, by omega⟩
      have hml : m < 2 ^ 31 := by omega
      have e1 : x - 2147483648 = m := by omega
      rw [e1, hm, h31, Nat.testBit_two_pow]
      by_cases hi : i = 31
      · subst hi
        rw [Nat.testBit_two_pow_add_eq, Nat.testBit_lt_two_pow hml]; rfl
      · have e2 : (2 ^ 31 + m).testBit i = m.testBit i := by
          rcases Nat.lt_or_gt_of_ne hi with hi | hi
          · rw [Nat.testBit_two_pow_add_gt hi]
          · rw [Nat.testBit_lt_two_pow (x := 2 ^ 31 + m) (i := i) (Nat.lt_of_lt_of_le (by omega : 2 ^ 31 + m < 2 ^ 32) (Nat.pow_le_pow_right (by omega) (by omega))),
              Nat.testBit_lt_two_pow (x := m) (i := i) (Nat.lt_of_lt_of_le hml (Nat.pow_le_pow_right (by omega) (by omega)))]
        rw [e2]
        have : decide (31 = i) = false := by simpa using (fun h => hi h.symm)
        rw [this]; simp
    · rw [if_neg hs]
      have hml : x < 2 ^ 31 := by omega
      have e1 : x + 2147483648 = 2 ^ 31 + x := by omega
      rw [e1, h31, Nat.testBit_two_pow]
      by_cases hi : i = 31
      · subst hi
        rw [Nat.testBit_two_pow_add_eq, Nat.testBit_lt_two_pow hml]; rfl
      · have e2 : (2 ^ 31 + x).testBit i = x.testBit i := by
          rcases Nat.lt_or_gt_of_ne hi with hi | hi
          · rw [Nat.testBit_two_pow_add_gt hi]
          · rw [Nat.testBit_lt_two_pow (x := 2 ^ 31 + x) (i := i) (Nat.lt_of_lt_of_le (by omega : 2 ^ 31 + x < 2 ^ 32) (Nat.pow_le_pow_right (by omega) (by omega))),
              Nat.testBit_lt_two_pow (x := x) (i := i) (Nat.lt_of_lt_of_le hml (Nat.pow_le_pow_right (by omega) (by omega)))]
        rw [e2]
        have : decide (31 = i) = false := by simpa using (fun h => hi h.symm)
        rw [this]; simp
  rw [e] at h
  exact h
theorem next_num32 (x : Nat) (hx : x < 4294967296) (hn : x % 2147483648 ≤ 2139095040) : nextOf32 x % 2147483648 ≤ 2139095040 := by
  have hc : canonOf32 x = x := by unfold canonOf32; rw [if_neg (by omega)]
  unfold nextOf32
  rw [hc]
  split
  · exact hn
  · split
    · omega
    · split <;> omega
theorem next_eq32 (x c : Nat) (h : canonOf32 x = c) : nextOf32 x = if c = 2143289344 ∨ c = 2139095040 then c else if c = 2147483648 then 1 else if 2147483648 ≤ c then c - 1 else c + 1 := by
  unfold nextOf32; rw [h]
theorem next_w132 {x c : Nat} (hc : canonOf32 x = c) (h : (c : Int) = 2143289344) : (c : Int) = (nextOf32 x : Int) := by
  rw [next_eq32 x c hc, if_pos (Or.inl (by omega))]
theorem next_w232 {x c : Nat} (hc : canonOf32 x = c) (h : ((c : Int) == 2143289344) = true ∨ ((c : Int) == 2139095040) = true) : (c : Int) = (nextOf32 x : Int) := by
  rw [beq_iff_eq, beq_iff_eq] at h
  rw [next_eq32 x c hc, if_pos (by omega)]
theorem next_w332 {x c : Nat} (hc : canonOf32 x = c) (h : ((c : Int) == 2147483648) = true) : (1 : Int) = (nextOf32 x : Int) := by
  rw [beq_iff_eq] at h
  rw [next_eq32 x c hc, if_neg (by omega), if_pos (by omega)]; rfl
theorem next_w432 {x c : Nat} (hc : canonOf32 x = c) (hl : c < 4294967296) (_h : ((c : Int) == 2143289344) = false ∧ ((c : Int) == 2139095040) = false) (h2 : ((c : Int) == 2147483648) = false)
    (h3 : (bits .and .u32 (c : Int) 2147483648 != 0) = true) : IntKind.u32.wrap ((c : Int) - 1) = (nextOf32 x : Int) := by
  simp only [beq_eq_false_iff_ne, ne_eq] at h2
  have h4 : 2147483648 ≤ c := by
    apply Classical.byContradiction
    intro h4
    rw [and_sign32 c hl, if_neg h4] at h3
    simp at h3
  rw [next_eq32 x c hc, if_neg (by omega), if_neg (by omega), if_pos h4, IntKind.wrap_u32']
  omega
theorem next_w532 {x c : Nat} (hc : canonOf32 x = c) (hl : c < 4294967296) (_hk : c = 2143289344 ∨ c % 2147483648 ≤ 2139095040) (h : ((c : Int) == 2143289344) = false ∧ ((c : Int) == 2139095040) = false) (h2 : ((c : Int) == 2147483648) = false)
    (h3 : (bits .and .u32 (c : Int) 2147483648 != 0) = false) : IntKind.u32.wrap ((c : Int) + 1) = (nextOf32 x : Int) := by
  simp only [beq_eq_false_iff_ne, ne_eq] at h h2
  have h4 : ¬ 2147483648 ≤ c := by
    intro h4
    rw [and_sign32 c hl, if_pos h4] at h3
    simp at h3
  rw [next_eq32 x c hc, if_neg (by omega), if_neg (by omega), if_neg h4, IntKind.wrap_u32']
  omega
theorem fmt_fb32 : FloatKind.f32.format.fractionBits = 23 := by decide
/-- What is a number already is not rounded. -/
theorem nearest_nv32 (s : Bool) (mag p r : Nat) (h0 : mag ≠ 0) (hr : r < 2139095040) (h : mag * 2 ^ p = nv32 r) :
    FloatKind.f32.format.nearest s mag ((p : Int) - 149) = FloatKind.f32.format.word s r := by
  unfold Ieee.Format.nearest
  rw [if_neg h0, fmt_fb32, fmt_lp32, fmt_bin32, fmt_inf32]
  have hV : nv32 r ≠ 0 := by rw [← h]; exact Nat.mul_ne_zero h0 (Nat.pos_iff_ne_zero.1 (Nat.two_pow_pos p))
  have hlog : (nv32 r).log2 = mag.log2 + p := by rw [← h]; exact log2_mul_pow mag p h0
  -- e: the place of the last digit that is kept; K: what is kept
  obtain ⟨e, K, hle, hK, hrung⟩ : ∃ e K : Nat, e = (nv32 r).log2 - 23 ∧ nv32 r = K * 2 ^ e ∧ e * 8388608 + K = r := by
    by_cases hs : r < 8388608
    · have hn : nv32 r = r := by unfold nv32; rw [if_pos hs]
      refine ⟨0, r, ?_, by rw [hn]; omega, by omega⟩
      have : (nv32 r).log2 < 23 := by rw [Nat.log2_lt hV, hn]; simpa using hs
      omega
    · have hn : nv32 r = (8388608 + r % 8388608) * 2 ^ (r / 8388608 - 1) := by unfold nv32; rw [if_neg hs]
      refine ⟨r / 8388608 - 1, 8388608 + r % 8388608, ?_, hn, by omega⟩
      have : (nv32 r).log2 = 23 + (r / 8388608 - 1) := by
        rw [hn, log2_mul_pow _ _ (by omega)]
        congr 1
        rw [Nat.log2_eq_iff (by omega)]
        have h23 : (2 : Nat) ^ 23 = 8388608 := by decide
        have h53 : (2 : Nat) ^ (23 + 1) = 16777216 := by decide
        rw [h23, h53]
        omega
      omega
  have hlast : max ((p : Int) - 149 + (mag.log2 : Int) - ((23 : Nat) : Int)) (-149) = (e : Int) - 149 := by omega
  simp only [hlast]
  have t1 : ((p : Int) - 149 - ((e : Int) - 149)).toNat = p - e := by omega
  have t2 : ((e : Int) - 149 - ((p : Int) - 149)).toNat = e - p := by omega
  have t3 : ((e : Int) - 149 - -149).toNat = e := by omega
  rw [t1, t2, t3]
  have hcut : Ieee.Toward.even.cut s (mag <<< (p - e)) (e - p) = K := by
    apply cut_exact
    · rw [Nat.shiftLeft_eq, log2_mul_pow _ _ h0]
      omega
    · rw [Nat.shiftLeft_eq]
      rcases Nat.le_total e p with hep | hep
      · have z : e - p = 0 := by omega
        rw [z, Nat.pow_zero, Nat.mul_one]
        have hp := Nat.two_pow_pos e
        apply Nat.eq_of_mul_eq_mul_right hp
        rw [Nat.mul_assoc, ← Nat.pow_add, Nat.sub_add_cancel hep, h, hK]
      · have z : p - e = 0 := by omega
        rw [z, Nat.pow_zero, Nat.mul_one]
        have hp := Nat.two_pow_pos p
        apply Nat.eq_of_mul_eq_mul_right hp
        rw [h, hK, Nat.mul_assoc, ← Nat.pow_add, Nat.sub_add_cancel hep]
  rw [hcut, hrung, Nat.min_eq_left (by omega)]
theorem word_false32 (r : Nat) : FloatKind.f32.format.word false r = r := by unfold Ieee.Format.word; rw [if_neg (by decide)]
/-- The sum of two finite numbers: what is rounded, and its value. -/
theorem sum_val32 (s t : Bool) (m n p q : Nat) (A B : Int) (hA : A = if s then -((m * 2 ^ p : Nat) : Int) else ((m * 2 ^ p : Nat) : Int)) (hB : B = if t then -((n * 2 ^ q : Nat) : Int) else ((n * 2 ^ q : Nat) : Int)) :
    ∃ mag b : Nat, (Ieee.Datum.number s m ((p : Int) - 149)).sum (.number t n ((q : Int) - 149)) = some (.number (if A + B = 0 then s && t else decide (A + B < 0)) mag ((b : Int) - 149)) ∧ mag * 2 ^ b = (A + B).natAbs := by
  have hb : min ((p : Int) - 149) ((q : Int) - 149) = ((min p q : Nat) : Int) - 149 := by omega
  have t1 : ((p : Int) - 149 - (((min p q : Nat) : Int) - 149)).toNat = p - min p q := by omega
  have t2 : ((q : Int) - 149 - (((min p q : Nat) : Int) - 149)).toNat = q - min p q := by omega
  have e1 := signed_scale s m (min p q) p (Nat.min_le_left _ _)
  have e2 := signed_scale t n (min p q) q (Nat.min_le_right _ _)
  have hsum : (Ieee.signed s m (p - min p q) + Ieee.signed t n (q - min p q)) * ((2 ^ min p q : Nat) : Int) = A + B := by
    rw [Int.add_mul, e1, e2, hA, hB]
  have hp : (0 : Int) < ((2 ^ min p q : Nat) : Int) := by have := Nat.two_pow_pos (min p q); omega
  obtain ⟨T, hT⟩ : ∃ T, T = Ieee.signed s m (p - min p q) + Ieee.signed t n (q - min p q) := ⟨_, rfl⟩
  rw [← hT] at hsum
  refine ⟨T.natAbs, min p q, ?_, ?_⟩
  · show some (Ieee.Datum.number _ _ _) = _
    simp only [hb, t1, t2, ← hT]
    have z1 : T = 0 ↔ A + B = 0 := by
      rw [← hsum]
      constructor
      · intro h; rw [h, Int.zero_mul]
      · intro h
        rcases Int.mul_eq_zero.1 h with h | h
        · exact h
        · omega
    have z2 : T < 0 ↔ A + B < 0 := by
      rw [← hsum]
      constructor
      · intro h; exact Int.mul_neg_of_neg_of_pos h hp
      · intro h
        apply Classical.byContradiction
        intro h2
        have := Int.mul_nonneg (show 0 ≤ T by omega) (Int.le_of_lt hp)
        omega
    by_cases c : A + B = 0
    · rw [if_pos (z1.2 c), if_pos c]
    · rw [if_neg (fun h => c (z1.1 h)), if_neg c, decide_eq_decide.2 z2]
  · rw [← hsum, Int.natAbs_mul]
    rfl

theorem sv_form32 (x : Nat) (m p : Nat) (h : m * 2 ^ p = nv32 (x % 2147483648)) : sv32 x = if (decide (2147483648 ≤ x)) then -((m * 2 ^ p : Nat) : Int) else ((m * 2 ^ p : Nat) : Int) := by
  unfold sv32; rw [h]; simp only [decide_eq_true_eq]
/-- A difference of finite numbers that is a magnitude's value: nothing is lost. -/
theorem sub_exact32 (x y r : Nat) (hx : x < 4294967296) (hy : y < 4294967296) (fx : x % 2147483648 < 2139095040) (fy : y % 2147483648 < 2139095040) (hr : r < 2139095040) (h0 : sv32 y < sv32 x) (h : (sv32 x - sv32 y).natAbs = nv32 r) :
    FloatKind.f32.format.sub x y = some r := by
  obtain ⟨m, p, ex, vx⟩ := read_fin32 x hx fx
  obtain ⟨n, q, ey, vy⟩ := read_fin32 y hy fy
  unfold Ieee.Format.sub
  rw [ex, ey]
  have hA := sv_form32 x m p vx
  have hB : -sv32 y = if (!decide (2147483648 ≤ y)) then -((n * 2 ^ q : Nat) : Int) else ((n * 2 ^ q : Nat) : Int) := by
    rw [sv_form32 y n q vy]
    by_cases c : 2147483648 ≤ y <;> simp [c]
  obtain ⟨mag, b, e, hv⟩ := sum_val32 _ _ m n p q (sv32 x) (-sv32 y) hA hB
  show ((Ieee.Datum.number _ m _).sum (.number (!decide (2147483648 ≤ y)) n _)).map _ = _
  rw [e]
  have c1 : ¬ sv32 x + -sv32 y = 0 := by omega
  have c2 : ¬ sv32 x + -sv32 y < 0 := by omega
  rw [if_neg c1, decide_eq_false c2]
  have hv' : mag * 2 ^ b = nv32 r := by rw [hv, ← h]; congr 1
  have hm0 : mag ≠ 0 := by
    intro hz
    rw [hz, Nat.zero_mul] at hv
    omega
  show some (FloatKind.f32.format.nearest false mag ((b : Int) - 149)) = some r
  rw [nearest_nv32 false mag b r hm0 hr hv', word_false32]
open Go

theorem nv_step32 (r : Nat) : nv32 (r + 1) = nv32 r + 2 ^ (max (r / 8388608) 1 - 1) := by
  unfold nv32
  by_cases h1 : r + 1 < 8388608
  · have e : max (r / 8388608) 1 - 1 = 0 := by omega
    rw [if_pos h1, if_pos (by omega), e]
  · rw [if_neg h1]
    by_cases h2 : r < 8388608
    · have e : max (r / 8388608) 1 - 1 = 0 := by omega
      have e2 : r + 1 = 8388608 := by omega
      have e3 : (8388608 + 8388608 % 8388608) * 2 ^ (8388608 / 8388608 - 1) = 8388608 := by decide
      rw [if_pos h2, e, e2, e3]
    · rw [if_neg h2]
      by_cases h3 : (r + 1) % 8388608 = 0
      · obtain ⟨q, hq⟩ : ∃ q, r / 8388608 = q + 1 := ⟨r / 8388608 - 1, by omega⟩
        have e1 : (r + 1) / 8388608 = q + 2 := by omega
        have e2 : r % 8388608 = 8388607 := by omega
        have e3 : max (q + 1) 1 - 1 = q := by omega
        rw [h3, e1, e2, hq, e3]
        have e4 : q + 2 - 1 = q + 1 := by omega
        have e5 : q + 1 - 1 = q := by omega
        rw [e4, e5, Nat.pow_succ]
        omega
      · have e1 : (r + 1) / 8388608 = r / 8388608 := by omega
        have e2 : (r + 1) % 8388608 = r % 8388608 + 1 := by omega
        have e3 : max (r / 8388608) 1 - 1 = r / 8388608 - 1 := by omega
        rw [e1, e2, e3, ← Nat.add_assoc, Nat.add_mul, Nat.one_mul]
/-- The bits of 2^(k - 149). -/
def powN32 (k : Nat) : Nat := if k ≤ 22 then 2 ^ k else (k - 22) * 8388608
theorem nv_pow32 (k : Nat) : nv32 (powN32 k) = 2 ^ k := by
  unfold powN32
  by_cases h : k ≤ 22
  · rw [if_pos h]
    have h1 : (2 : Nat) ^ k ≤ 2 ^ 22 := Nat.pow_le_pow_right (by omega) h
    have h2 : (2 : Nat) ^ 22 = 4194304 := by decide
    unfold nv32
    rw [if_pos (by omega)]
  · rw [if_neg h]
    unfold nv32
    have e1 : (k - 22) * 8388608 / 8388608 = k - 22 := Nat.mul_div_cancel _ (by omega)
    have e2 : (k - 22) * 8388608 % 8388608 = 0 := Nat.mul_mod_left _ _
    rw [if_neg (by omega), e1, e2]
    have e3 : (8388608 + 0 : Nat) = 2 ^ 23 := by decide
    rw [e3, ← Nat.pow_add]
    congr 1
    omega
theorem pow_lt_inf32 (k : Nat) (h : k ≤ 253) : powN32 k < 2139095040 := by
  unfold powN32
  split
  · rename_i h2
    have h1 : (2 : Nat) ^ k ≤ 2 ^ 22 := Nat.pow_le_pow_right (by omega) h2
    have h2 : (2 : Nat) ^ 22 = 4194304 := by decide
    omega
  · omega
theorem order_eq'32 (x y : Nat) (hx : x < 4294967296) (hy : y < 4294967296) (nx : x % 2147483648 ≤ 2139095040) (ny : y % 2147483648 ≤ 2139095040) :
    (FloatKind.f32.format.order x y == some .eq) = decide (sv32 x = sv32 y) := by
  rw [order_eq32 x y hx hy nx ny]
  rcases Int.lt_trichotomy (sv32 x) (sv32 y) with h | h | h
  · rw [cmp_lt h, decide_eq_false (by omega)]; rfl
  · rw [cmp_eq h, decide_eq_true h]; rfl
  · rw [cmp_gt h, decide_eq_false (by omega)]; rfl

/-- The step above the magnitude of x, as a power: 2^(stepOf32 x - 149). -/
def stepOf32 (x : Nat) : Nat := max (x % 2147483648 / 8388608) 1 - 1
theorem step_exp32 (x : Nat) (nx : x % 2147483648 < 2139095040) : max (expOf32 x) 1 = stepOf32 x + 1 ∧ expOf32 x < 255 := by
  have e : expOf32 x = x % 2147483648 / 8388608 := by
    unfold expOf32 canonOf32
    rw [if_neg (by omega)]
    omega
  unfold stepOf32
  rw [e]
  omega
/-- What Next gives, by cases on the sign. -/
theorem next_pos32 (x : Nat) (h : x < 2139095040) : nextOf32 x = x + 1 := by
  have hc : canonOf32 x = x := by unfold canonOf32; rw [if_neg (by omega)]
  unfold nextOf32
  rw [hc, if_neg (by omega), if_neg (by omega), if_neg (by omega)]
theorem next_neg32 (x : Nat) (h1 : 2147483648 < x) (h2 : x ≤ 4286578688) : nextOf32 x = x - 1 := by
  have hc : canonOf32 x = x := by unfold canonOf32; rw [if_neg (by omega)]
  unfold nextOf32
  rw [hc, if_neg (by omega), if_neg (by omega), if_pos (by omega)]
theorem next_nzero32 : nextOf32 2147483648 = 1 := by decide
theorem next_inf32 : nextOf32 2139095040 = 2139095040 := by decide
theorem prev_pos32 (x : Nat) (h1 : 0 < x) (h : x < 2139095040) : prevOf32 (x + 1) = x := by
  have hc : canonOf32 (x + 1) = x + 1 := by unfold canonOf32; rw [if_neg (by omega)]
  unfold prevOf32
  rw [hc, if_neg (by omega)]
  have e1 : flipOf32 (x + 1) = x + 1 + 2147483648 := by unfold flipOf32; rw [if_neg (by omega)]
  rw [e1, next_neg32 _ (by omega) (by omega)]
  unfold flipOf32
  rw [if_pos (by omega)]
  omega
theorem sv_pos32 (x : Nat) (h : x < 2147483648) : sv32 x = (nv32 x : Int) := by
  unfold sv32
  rw [if_neg (by omega), Nat.mod_eq_of_lt h]
theorem xor_flip32 (x : Nat) (hx : x < 4294967296) : x ^^^ 2147483648 = flipOf32 x := by
  have h := u32_xor_nat x 2147483648 hx (by omega)
  have h2 := xor_sign32 x hx
  have h3 : ((x ^^^ 2147483648 : Nat) : Int) = (flipOf32 x : Int) := by rw [← h2, ← h]; rfl
  omega
/-- The step of any number. -/
def ulpOf32 (x : Nat) : Nat := if expOf32 x = 255 then canonOf32 x % 2147483648 else powN32 (stepOf32 x)
theorem exp_top32 (x : Nat) (_hx : x < 4294967296) : expOf32 x = 255 ↔ ¬ x % 2147483648 < 2139095040 := by
  unfold expOf32 canonOf32
  split <;> constructor <;> intro h <;> omega

theorem step_eq32 (r : Nat) (h : r < 2147483648) : stepOf32 r = max (r / 8388608) 1 - 1 := by
  unfold stepOf32
  rw [Nat.mod_eq_of_lt h]
theorem step_le32 (r : Nat) (h : r % 2147483648 < 2139095040) : stepOf32 r ≤ 253 := by unfold stepOf32; omega
/-- The difference of neighbours is the step. -/
theorem sub_next32 (a : Nat) (h : a + 1 < 2139095040) : FloatKind.f32.format.sub (a + 1) a = some (powN32 (stepOf32 a)) := by
  have s1 := sv_pos32 a (by omega)
  have s2 := sv_pos32 (a + 1) (by omega)
  have hlt := nv_lt32 (Nat.lt_succ_self a)
  have hst := nv_step32 a
  refine sub_exact32 (a + 1) a _ (by omega) (by omega) (by omega) (by omega) (pow_lt_inf32 _ (step_le32 a (by omega))) (by rw [s1, s2]; exact Int.ofNat_lt.2 hlt) ?_
  rw [nv_pow32, s1, s2, step_eq32 _ (by omega)]
  exact abs_pos _ _ _ hst
theorem max_test32 (a : Nat) (h : a < 2139095040) : (FloatKind.f32.format.order a 2139095039 == some .eq) = decide (a = 2139095039) := by
  rw [order_eq'32 a _ (by omega) (by omega) (by omega) (by omega), sv_pos32 a (by omega), sv_pos32 2139095039 (by omega)]
  apply decide_eq_decide.2
  constructor
  · intro h2
    apply Classical.byContradiction
    intro h3
    have := nv_lt32 (r := a) (s := 2139095039) (by omega)
    omega
  · intro h2; rw [h2]

end Go.Proofs.YtfeojdmffipinaaDoor
