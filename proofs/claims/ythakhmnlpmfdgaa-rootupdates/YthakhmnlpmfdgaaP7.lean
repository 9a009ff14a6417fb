
/- Plain arithmetic on the bits of singles; no program is spoken of. -/
import Derived.Test.YthakhmnlpmfdgaaP5
import Derived.Test.YthakhmnlpmfdgaaP2
namespace Go.Proofs.Ythakhmnlpmfdgaa
open Go Go.RowKit Go.IntWalk

open Go Go.RowKit Go.IntWalk

/-- The bits with all NaNs made one. -/
def canonOf32 (x : Nat) : Nat := if 2139095040 < x % 2147483648 then 2143289344 else x
theorem andNot_sign32 (x : Nat) (hx : x < 4294967296) :
    bits .andNot .u32 (x : Int) 2147483648 = ((x % 2147483648 : Nat) : Int) := by
  have h := u32_andNot_nat x 2147483648 hx (by omega)
  have e : x &&& (4294967295 - 2147483648) = x % 2147483648 := by
    have := Nat.and_two_pow_sub_one_eq_mod x 31
    simpa using this
  rw [e] at h
  exact h
theorem and_sign32 (x : Nat) (hx : x < 4294967296) :
    bits .and .u32 (x : Int) 2147483648 = ((if 2147483648 ≤ x then 2147483648 else 0 : Nat) : Int) := by
  have h := u32_and_nat x 2147483648 hx (by omega)
  have e : x &&& 2147483648 = if 2147483648 ≤ x then 2147483648 else 0 := by
    have h1 := and_bit_var 32 x 31 (by omega)
    have h2 : ((2 : Int) ^ min (31 : Int).toNat 32 % 2 ^ 32).toNat = 2147483648 := by decide
    rw [h2, if_neg (by omega)] at h1
    rw [h1]
    have h3 : (2 : Nat) ^ (31 : Int).toNat = 2147483648 := by decide
    rw [h3]
    split <;> omega
  rw [e] at h
  exact h

theorem canon_w132 {x : Nat} (hx : x < 4294967296) (h : 2139095040 < bits .andNot .u32 (x : Int) 2147483648) :
    (2143289344 : Int) = (canonOf32 x : Int) := by
  rw [andNot_sign32 x hx] at h
  unfold canonOf32
  rw [if_pos (by omega)]; rfl
theorem canon_w232 {x : Nat} (hx : x < 4294967296) (h : bits .andNot .u32 (x : Int) 2147483648 ≤ 2139095040) :
    (x : Int) = (canonOf32 x : Int) := by
  rw [andNot_sign32 x hx] at h
  unfold canonOf32
  rw [if_neg (by omega)]
theorem canon_lt32 {x : Nat} (hx : x < 4294967296) : canonOf32 x < 4294967296 := by
  unfold canonOf32; split <;> omega
/-- The fields: the sign, the exponent's, the fraction's. -/
def negOf32 (x : Nat) : Bool := decide (2147483648 ≤ canonOf32 x)
def expOf32 (x : Nat) : Nat := canonOf32 x / 8388608 % 256
def fracOf32 (x : Nat) : Nat := canonOf32 x % 8388608
theorem and_frac32 (x : Nat) (hx : x < 4294967296) : bits .and .u32 (x : Int) 8388607 = ((x % 8388608 : Nat) : Int) := by
  have h := u32_and_nat x 8388607 hx (by omega)
  have e : x &&& 8388607 = x % 8388608 := by
    have := Nat.and_two_pow_sub_one_eq_mod x 23
    simpa using this
  rw [e] at h
  exact h
theorem and_exp32 (x : Nat) (hx : x < 4294967296) : bits .and .u32 (x : Int) 255 = ((x % 256 : Nat) : Int) := by
  have h := u32_and_nat x 255 hx (by omega)
  have e : x &&& 255 = x % 256 := by
    have := Nat.and_two_pow_sub_one_eq_mod x 8
    simpa using this
  rw [e] at h
  exact h
theorem neg_w32 {x : Nat} (hx : x < 4294967296) : (bits .and .u32 (canonOf32 x : Int) 2147483648 != 0) = negOf32 x := by
  rw [and_sign32 _ (canon_lt32 hx)]
  unfold negOf32
  by_cases h : 2147483648 ≤ canonOf32 x
  · rw [if_pos h, decide_eq_true h]; rfl
  · rw [if_neg h, decide_eq_false h]; rfl
theorem exp_w32 {x : Nat} (hx : x < 4294967296) : wrap64 (bits .and .u32 ((canonOf32 x : Int) / 8388608) 255) = (expOf32 x : Int) := by
  have h1 := canon_lt32 hx
  have h2 : ((canonOf32 x : Int) / 8388608) = ((canonOf32 x / 8388608 : Nat) : Int) := by omega
  rw [h2, and_exp32 _ (by omega), wrap64_in _ (by omega)]
  rfl
theorem frac_w32 {x : Nat} (hx : x < 4294967296) : bits .and .u32 (canonOf32 x : Int) 8388607 = (fracOf32 x : Int) := by
  rw [and_frac32 _ (canon_lt32 hx)]; rfl
open Go

/-- The value of a magnitude, in steps of 2^-149. -/
def nv32 (r : Nat) : Nat := if r < 8388608 then r else (8388608 + r % 8388608) * 2 ^ (r / 8388608 - 1)
theorem nv_zero32 : nv32 0 = 0 := by decide
theorem nv_lt32 {r s : Nat} (h : r < s) : nv32 r < nv32 s := by
  unfold nv32
  by_cases h2 : s < 8388608
  · rw [if_pos (by omega), if_pos h2]; exact h
  · rw [if_neg h2]
    have hp := Nat.two_pow_pos (s / 8388608 - 1)
    by_cases h1 : r < 8388608
    · rw [if_pos h1]
      have := Nat.le_mul_of_pos_right (8388608 + s % 8388608) hp
      omega
    · rw [if_neg h1]
      by_cases hq : r / 8388608 = s / 8388608
      · rw [hq]
        exact Nat.mul_lt_mul_of_pos_right (by omega) hp
      · have hlt : r / 8388608 < s / 8388608 := by omega
        have e1 : (8388608 + r % 8388608) * 2 ^ (r / 8388608 - 1) < (2 * 8388608) * 2 ^ (r / 8388608 - 1) :=
          Nat.mul_lt_mul_of_pos_right (by omega) (Nat.two_pow_pos _)
        have e2 : (2 * 8388608) * 2 ^ (r / 8388608 - 1) = 8388608 * 2 ^ (r / 8388608) := by
          obtain ⟨j, hj⟩ : ∃ j, r / 8388608 = j + 1 := ⟨r / 8388608 - 1, by omega⟩
          rw [hj, Nat.add_sub_cancel, Nat.pow_succ]; omega
        have e3 : 8388608 * 2 ^ (r / 8388608) ≤ 8388608 * 2 ^ (s / 8388608 - 1) :=
          Nat.mul_le_mul_left _ (Nat.pow_le_pow_right (by omega) (by omega))
        have e4 : 8388608 * 2 ^ (s / 8388608 - 1) ≤ (8388608 + s % 8388608) * 2 ^ (s / 8388608 - 1) :=
          Nat.mul_le_mul_right _ (by omega)
        omega
theorem nv_le32 {r s : Nat} (h : r ≤ s) : nv32 r ≤ nv32 s := by
  rcases Nat.lt_or_eq_of_le h with h | h
  · exact Nat.le_of_lt (nv_lt32 h)
  · rw [h]; exact Nat.le_refl _
/-- The value of a number's bits, with its sign, in steps of 2^-149 (an infinity: what would come next). -/
def sv32 (x : Nat) : Int := if 2147483648 ≤ x then -(nv32 (x % 2147483648) : Int) else (nv32 (x % 2147483648) : Int)

theorem fmt_sw32 : FloatKind.f32.format.signWeight = 2147483648 := by decide
theorem fmt_bin32 : FloatKind.f32.format.binade = 8388608 := by decide
theorem fmt_inf32 : FloatKind.f32.format.infRung = 2139095040 := by decide
theorem fmt_lp32 : FloatKind.f32.format.leastPlace = -149 := by decide

theorem sign_read32 (x : Nat) (hx : x < 4294967296) : (x / 2147483648 % 2 == 1) = decide (2147483648 ≤ x) := by
  by_cases h : 2147483648 ≤ x
  · have : x / 2147483648 = 1 := by omega
    rw [decide_eq_true h, this]; rfl
  · have : x / 2147483648 = 0 := by omega
    rw [decide_eq_false h, this]; rfl
theorem read_fin32 (x : Nat) (hx : x < 4294967296) (h : x % 2147483648 < 2139095040) :
    ∃ m : Nat, ∃ p : Nat, FloatKind.f32.format.read x = .number (decide (2147483648 ≤ x)) m ((p : Int) - 149) ∧ m * 2 ^ p = nv32 (x % 2147483648) := by
  unfold Ieee.Format.read
  rw [fmt_sw32, fmt_bin32, fmt_inf32, fmt_lp32, sign_read32 x hx]
  unfold nv32
  by_cases h1 : x % 2147483648 < 8388608
  · exact ⟨x % 2147483648, 0, by simp only [if_pos h1]; rfl, by rw [if_pos h1]; omega⟩
  · refine ⟨8388608 + x % 2147483648 % 8388608, x % 2147483648 / 8388608 - 1, ?_, by rw [if_neg h1]⟩
    simp only [if_neg h1, if_pos h]
    congr 1
theorem read_inf32 (x : Nat) (hx : x < 4294967296) (h : x % 2147483648 = 2139095040) :
    FloatKind.f32.format.read x = .infinity (decide (2147483648 ≤ x)) := by
  unfold Ieee.Format.read
  rw [fmt_sw32, fmt_bin32, fmt_inf32, fmt_lp32, sign_read32 x hx]
  simp only [h]
  rfl
theorem read_nan32 (x : Nat) (h : 2139095040 < x % 2147483648) : ∃ s t, FloatKind.f32.format.read x = .nan s t := by
  unfold Ieee.Format.read
  rw [fmt_sw32, fmt_bin32, fmt_inf32]
  refine ⟨(x / 2147483648 % 2 == 1), x % 2147483648 - 2139095040, ?_⟩
  simp only
  rw [if_neg (by omega), if_neg (by omega), if_neg (by omega)]

theorem order_nan_l32 (x y : Nat) (h : 2139095040 < x % 2147483648) : FloatKind.f32.format.order x y = none := by
  obtain ⟨s, t, e⟩ := read_nan32 x h
  unfold Ieee.Format.order
  rw [e]; rfl
theorem order_nan_r32 (x y : Nat) (h : 2139095040 < y % 2147483648) : FloatKind.f32.format.order x y = none := by
  obtain ⟨s, t, e⟩ := read_nan32 y h
  unfold Ieee.Format.order
  rw [e]
  cases FloatKind.f32.format.read x <;> rfl

theorem order_eq32 (x y : Nat) (hx : x < 4294967296) (hy : y < 4294967296) (nx : x % 2147483648 ≤ 2139095040) (ny : y % 2147483648 ≤ 2139095040) :
    FloatKind.f32.format.order x y = some (compare (sv32 x) (sv32 y)) := by
  have hinf : 0 < nv32 2139095040 := by have := nv_lt32 (r := 0) (s := 2139095040) (by omega); omega
  unfold Ieee.Format.order sv32
  rcases Nat.lt_or_eq_of_le nx with fx | fx
  · obtain ⟨m, p, ex, vx⟩ := read_fin32 x hx fx
    have lx := nv_lt32 fx
    rw [ex, ← vx]
    rw [← vx] at lx
    rcases Nat.lt_or_eq_of_le ny with fy | fy
    · obtain ⟨n, q, ey, vy⟩ := read_fin32 y hy fy
      rw [ey, ← vy]
      show some (compare _ _) = _
      congr 1
      have hb : min ((p : Int) - 149) ((q : Int) - 149) = ((min p q : Nat) : Int) - 149 := by omega
      rw [hb]
      have t1 : ((p : Int) - 149 - (((min p q : Nat) : Int) - 149)).toNat = p - min p q := by omega
      have t2 : ((q : Int) - 149 - (((min p q : Nat) : Int) - 149)).toNat = q - min p q := by omega
      rw [t1, t2, cmp_scale _ _ (2 ^ min p q) (Nat.two_pow_pos _), signed_scale _ _ _ _ (Nat.min_le_left _ _), signed_scale _ _ _ _ (Nat.min_le_right _ _)]
      simp only [decide_eq_true_eq]
    · rw [read_inf32 y hy fy, fy]
      show some (if decide (2147483648 ≤ y) = true then Ordering.gt else Ordering.lt) = _
      congr 1
      by_cases hy2 : 2147483648 ≤ y
      · rw [if_pos (by simpa using hy2), if_pos hy2]
        symm; apply cmp_gt
        split <;> omega
      · rw [if_neg (by simpa using hy2), if_neg hy2]
        symm; apply cmp_lt
        split <;> omega
  · rw [read_inf32 x hx fx, fx]
    rcases Nat.lt_or_eq_of_le ny with fy | fy
    · obtain ⟨n, q, ey, vy⟩ := read_fin32 y hy fy
      have ly := nv_lt32 fy
      rw [ey, ← vy]
      rw [← vy] at ly
      show some (if decide (2147483648 ≤ x) = true then Ordering.lt else Ordering.gt) = _
      congr 1
      by_cases hx2 : 2147483648 ≤ x
      · rw [if_pos (by simpa using hx2), if_pos hx2]
        symm; apply cmp_lt
        split <;> omega
      · rw [if_neg (by simpa using hx2), if_neg hx2]
        symm; apply cmp_gt
        split <;> omega
    · rw [read_inf32 y hy fy, fy]
      show some (compare (decide (2147483648 ≤ y)).toNat (decide (2147483648 ≤ x)).toNat) = _
      congr 1
      by_cases hx2 : 2147483648 ≤ x <;> by_cases hy2 : 2147483648 ≤ y
      · rw [if_pos hx2, if_pos hy2, decide_eq_true hx2, decide_eq_true hy2, cmp_eq rfl]; rfl
      · rw [if_pos hx2, if_neg hy2, decide_eq_true hx2, decide_eq_false hy2, cmp_lt (by omega)]; rfl
      · rw [if_neg hx2, if_pos hy2, decide_eq_false hx2, decide_eq_true hy2, cmp_gt (by omega)]; rfl
      · rw [if_neg hx2, if_neg hy2, decide_eq_false hx2, decide_eq_false hy2, cmp_eq rfl]; rfl
theorem order_self32 (x : Nat) (hx : x < 4294967296) : (FloatKind.f32.format.order x x != some .eq) = decide (2139095040 < x % 2147483648) := by
  by_cases h : 2139095040 < x % 2147483648
  · rw [order_nan_l32 x x h, decide_eq_true h]; rfl
  · rw [order_eq32 x x hx hx (by omega) (by omega), cmp_eq rfl, decide_eq_false h]; rfl
theorem sv_zero32 : sv32 0 = 0 := by decide
theorem order_zero32 (x : Nat) (hx : x < 4294967296) : (FloatKind.f32.format.order x 0 == some .eq) = decide (x % 2147483648 = 0) := by
  by_cases h : 2139095040 < x % 2147483648
  · rw [order_nan_l32 x 0 h, decide_eq_false (by omega)]; rfl
  · rw [order_eq32 x 0 hx (by omega) (by omega) (by omega), sv_zero32]
    by_cases h0 : x % 2147483648 = 0
    · have e : sv32 x = 0 := by unfold sv32; rw [h0, nv_zero32]; split <;> rfl
      rw [decide_eq_true h0, cmp_eq e]; rfl
    · have e : sv32 x ≠ 0 := by
        have := nv_lt32 (r := 0) (s := x % 2147483648) (by omega)
        unfold sv32; split <;> omega
      rw [decide_eq_false h0]
      rcases Int.lt_or_gt_of_ne e with e | e
      · rw [cmp_lt e]; rfl
      · rw [cmp_gt e]; rfl
/-- The bits of a sign and a magnitude. -/
def signN32 (neg : Bool) (x : Nat) : Nat := if neg then x + 2147483648 else x
theorem or_sign32 (x : Nat) (hx : x < 2147483648) : bits .or .u32 (x : Int) 2147483648 = (signN32 true x : Int) := by
  have h := u32_or_nat x 2147483648 (by omega) (by omega)
  have e : x ||| 2147483648 = x + 2147483648 := by
    rw [Nat.or_comm, Nat.add_comm]
    exact nat_join 31 2147483648 x (by decide) (by simpa using hx)
  rw [e] at h
  exact h
/-- A magnitude of its two fields. -/
def packN32 (X f : Nat) : Nat := X * 8388608 + f
theorem pack_w32 (X f : Nat) (hX : X < 256) (hf : f < 8388608) : bits .or .u32 (IntKind.u32.wrap (IntKind.u32.wrap (X : Int) * 8388608)) (f : Int) = (packN32 X f : Int) := by
  have e : IntKind.u32.wrap (IntKind.u32.wrap (X : Int) * 8388608) = ((X * 8388608 : Nat) : Int) := by
    rw [IntKind.wrap_u32', IntKind.wrap_u32']; omega
  rw [e, u32_or_nat _ _ (by omega) (by omega), nat_join 23 _ _ (by omega) (by simpa using hf)]
  rfl
theorem pack_lt32 (X f : Nat) (hX : X < 256) (hf : f < 8388608) : packN32 X f < 2147483648 := by unfold packN32; omega
theorem signN_false32 (x : Nat) : signN32 false x = x := by unfold signN32; rw [if_neg (by decide)]
theorem exp_lt32 (x : Nat) : expOf32 x < 256 := by unfold expOf32; omega
theorem frac_lt32 (x : Nat) : fracOf32 x < 8388608 := by unfold fracOf32; omega
/-- The class that the fields tell. -/
def classN32 (x : Nat) : Nat := if expOf32 x = 255 then (if fracOf32 x = 0 then 2 else 1) else if expOf32 x = 0 then (if fracOf32 x = 0 then 3 else 4) else 5
open Go.RowKit Go.IntWalk

theorem neg_r32 {x : Nat} (hx : x < 4294967296) : ((canonOf32 x : Int) / 2147483648 == 1) = negOf32 x := by
  have hl := canon_lt32 hx
  unfold negOf32
  rw [Bool.eq_iff_iff, beq_iff_eq, decide_eq_true_eq]
  omega
theorem exp_r32 {x : Nat} (hx : x < 4294967296) : (canonOf32 x : Int) / 8388608 % 256 = (expOf32 x : Int) := by
  have hl := canon_lt32 hx
  unfold expOf32
  omega
theorem frac_r32 (x : Nat) : (canonOf32 x : Int) % 8388608 = (fracOf32 x : Int) := by
  unfold fracOf32
  omega

/-- The bits of three fields, and the error's number. -/
abbrev joinBad32 (e : Int) (f : Nat) : Prop := e < 0 ∨ 255 < e ∨ 8388607 < f
def joinOf32 (neg : Bool) (e : Int) (f : Nat) : Nat := if joinBad32 e f then 0 else canonOf32 (signN32 neg (packN32 e.toNat f))
def joinErr32 (e : Int) (f : Nat) : Int := if joinBad32 e f then 1 else 0
theorem sign_lt32 {neg : Bool} {m : Nat} (h : m < 2147483648) : signN32 neg m < 4294967296 := by unfold signN32; split <;> omega

open Go.RowKit Go.IntWalk

theorem canon_canon32 (x : Nat) : canonOf32 (canonOf32 x) = canonOf32 x := by
  unfold canonOf32
  by_cases h : 2139095040 < x % 2147483648
  · rw [if_pos h]; rfl
  · rw [if_neg h, if_neg h]
theorem join_canon32 (neg : Bool) (e : Int) (f : Nat) : (joinOf32 neg e f == canonOf32 (joinOf32 neg e f)) = true := by
  rw [beq_iff_eq]
  unfold joinOf32
  split
  · rfl
  · rw [canon_canon32]
theorem join_lt32 (neg : Bool) (e : Int) (f : Nat) : joinOf32 neg e f < 4294967296 := by
  unfold joinOf32
  by_cases h : joinBad32 e f
  · rw [if_pos h]; omega
  · rw [if_neg h]
    unfold joinBad32 at h
    exact canon_lt32 (sign_lt32 (pack_lt32 _ _ (by omega) (by omega)))
end Go.Proofs.Ythakhmnlpmfdgaa
