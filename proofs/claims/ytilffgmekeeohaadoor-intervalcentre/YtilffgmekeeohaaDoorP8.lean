
/- Plain arithmetic on neighbours; no program is spoken of. -/
import Derived.Test.YtilffgmekeeohaaDoorP3
import Derived.Test.YtilffgmekeeohaaDoorP6
import Derived.Test.YtilffgmekeeohaaDoorP7
namespace Go.Proofs.YtilffgmekeeohaaDoor
open Go Go.RowKit Go.IntWalk

/-- The next number's bits. -/
def nextOf (x : Nat) : Nat :=
  if canonOf x = 9221120237041090561 ∨ canonOf x = 9218868437227405312 then canonOf x else if canonOf x = 9223372036854775808 then 1 else if 9223372036854775808 ≤ canonOf x then canonOf x - 1 else canonOf x + 1
/-- The bits with the other sign. -/
def flipOf (x : Nat) : Nat := if 9223372036854775808 ≤ x then x - 9223372036854775808 else x + 9223372036854775808
def prevOf (x : Nat) : Nat := if canonOf x = 9221120237041090561 then 9221120237041090561 else flipOf (nextOf (flipOf (canonOf x)))
theorem canon_cases (x : Nat) : canonOf x = 9221120237041090561 ∨ canonOf x % 9223372036854775808 ≤ 9218868437227405312 := by
  unfold canonOf
  split
  · exact Or.inl rfl
  · right; omega
theorem next_lt {x : Nat} (hx : x < 18446744073709551616) : nextOf x < 18446744073709551616 := by
  have := canon_lt hx
  have := canon_cases x
  unfold nextOf
  split
  · omega
  · split
    · omega
    · split <;> omega
theorem flip_lt {x : Nat} (hx : x < 18446744073709551616) : flipOf x < 18446744073709551616 := by unfold flipOf; split <;> omega
theorem flip_flip {x : Nat} (hx : x < 18446744073709551616) : flipOf (flipOf x) = x := by unfold flipOf; split <;> split <;> omega
theorem xor_sign (x : Nat) (hx : x < 18446744073709551616) : bits .xor .u64 (x : Int) 9223372036854775808 = (flipOf x : Int) := by
  have h := u64_xor_nat x 9223372036854775808 hx (by omega)
  have e : x ^^^ 9223372036854775808 = flipOf x := by
    apply Nat.eq_of_testBit_eq
    intro i
    have h63 : (9223372036854775808 : Nat) = 2 ^ 63 := by decide
    unfold flipOf
    rw [Nat.testBit_xor]
    by_cases hs : 9223372036854775808 ≤ x
    · rw [if_pos hs]
      obtain ⟨m, hm⟩ : ∃ m, x = 2 ^ 63 + m := ⟨x - 2 ^ 63, by omega⟩
      have hml : m < 2 ^ 63 := by omega
      have e1 : x - 9223372036854775808 = m := by omega
      rw [e1, hm, h63, Nat.testBit_two_pow]
      by_cases hi : i = 63
      · subst hi
        rw [Nat.testBit_two_pow_add_eq, Nat.testBit_lt_two_pow hml]; rfl
      · have e2 : (2 ^ 63 + m).testBit i = m.testBit i := by
          rcases Nat.lt_or_gt_of_ne hi with hi | hi
          · rw [Nat.testBit_two_pow_add_gt hi]
          · rw [Nat.testBit_lt_two_pow (x := 2 ^ 63 + m) (i := i) (Nat.lt_of_lt_of_le (by omega : 2 ^ 63 + m < 2 ^ 64) (Nat.pow_le_pow_right (by omega) (by omega))),
              Nat.testBit_lt_two_pow (x := m) (i := i) (Nat.lt_of_lt_of_le hml (Nat.pow_le_pow_right (by omega) (by omega)))]
        rw [e2]
        have : decide (63 = i) = false := by simpa using (fun h => hi h.symm)
        rw [this]; simp
    · rw [if_neg hs]
      have hml : x < 2 ^ 63 := by omega
      have e1 : x + 9223372036854775808 = 2 ^ 63 + x := by omega
      rw [e1, h63, Nat.testBit_two_pow]
      by_cases hi : i = 63
      · subst hi
        rw [Nat.testBit_two_pow_add_eq, Nat.testBit_lt_two_pow hml]; rfl
      · have e2 : (2 ^ 63 + x).testBit i = x.testBit i := by
          rcases Nat.lt_or_gt_of_ne hi with hi | hi
          · rw [Nat.testBit_two_pow_add_gt hi]
          · rw [Nat.testBit_lt_two_pow (x := 2 ^ 63 + x) (i := i) (Nat.lt_of_lt_of_le (by omega : 2 ^ 63 + x < 2 ^ 64) (Nat.pow_le_pow_right (by omega) (by omega))),
              Nat.testBit_lt_two_pow (x := x) (i := i) (Nat.lt_of_lt_of_le hml (Nat.pow_le_pow_right (by omega) (by omega)))]
        rw [e2]
        have : decide (63 = i) = false := by simpa using (fun h => hi h.symm)
        rw [this]; simp
  rw [e] at h
  exact h
theorem key_next (x : Nat) (hx : x < 18446744073709551616) (hn : x % 9223372036854775808 ≤ 9218868437227405312) (h1 : x ≠ 9218868437227405312) (h2 : x ≠ 9223372036854775808) : keyOf (nextOf x) = keyOf x + 1 := by
  have hc : canonOf x = x := by unfold canonOf; rw [if_neg (by omega)]
  unfold nextOf
  rw [hc, if_neg (by omega), if_neg h2]
  by_cases hs : 9223372036854775808 ≤ x
  · rw [if_pos hs, key_num _ (by omega), key_num _ hn, if_pos hs, if_pos (by omega)]
    omega
  · rw [if_neg hs, key_num _ (by omega), key_num _ hn, if_neg hs, if_neg (by omega)]
    omega
theorem next_num (x : Nat) (hx : x < 18446744073709551616) (hn : x % 9223372036854775808 ≤ 9218868437227405312) : nextOf x % 9223372036854775808 ≤ 9218868437227405312 := by
  have hc : canonOf x = x := by unfold canonOf; rw [if_neg (by omega)]
  unfold nextOf
  rw [hc]
  split
  · exact hn
  · split
    · omega
    · split <;> omega
theorem next_eq (x c : Nat) (h : canonOf x = c) : nextOf x = if c = 9221120237041090561 ∨ c = 9218868437227405312 then c else if c = 9223372036854775808 then 1 else if 9223372036854775808 ≤ c then c - 1 else c + 1 := by
  unfold nextOf; rw [h]
theorem next_w1 {x c : Nat} (hc : canonOf x = c) (h : (c : Int) = 9221120237041090561) : (c : Int) = (nextOf x : Int) := by
  rw [next_eq x c hc, if_pos (Or.inl (by omega))]
theorem next_w2 {x c : Nat} (hc : canonOf x = c) (h : ((c : Int) == 9221120237041090561) = true ∨ ((c : Int) == 9218868437227405312) = true) : (c : Int) = (nextOf x : Int) := by
  rw [beq_iff_eq, beq_iff_eq] at h
  rw [next_eq x c hc, if_pos (by omega)]
theorem next_w3 {x c : Nat} (hc : canonOf x = c) (h : ((c : Int) == 9223372036854775808) = true) : (1 : Int) = (nextOf x : Int) := by
  rw [beq_iff_eq] at h
  rw [next_eq x c hc, if_neg (by omega), if_pos (by omega)]; rfl
theorem next_w4 {x c : Nat} (hc : canonOf x = c) (hl : c < 18446744073709551616) (_h : ((c : Int) == 9221120237041090561) = false ∧ ((c : Int) == 9218868437227405312) = false) (h2 : ((c : Int) == 9223372036854775808) = false)
    (h3 : (bits .and .u64 (c : Int) 9223372036854775808 != 0) = true) : IntKind.u64.wrap ((c : Int) - 1) = (nextOf x : Int) := by
  simp only [beq_eq_false_iff_ne, ne_eq] at h2
  have h4 : 9223372036854775808 ≤ c := by
    apply Classical.byContradiction
    intro h4
    rw [and_sign c hl, if_neg h4] at h3
    simp at h3
  rw [next_eq x c hc, if_neg (by omega), if_neg (by omega), if_pos h4, IntKind.wrap_u64]
  omega
theorem next_w5 {x c : Nat} (hc : canonOf x = c) (hl : c < 18446744073709551616) (_hk : c = 9221120237041090561 ∨ c % 9223372036854775808 ≤ 9218868437227405312) (h : ((c : Int) == 9221120237041090561) = false ∧ ((c : Int) == 9218868437227405312) = false) (h2 : ((c : Int) == 9223372036854775808) = false)
    (h3 : (bits .and .u64 (c : Int) 9223372036854775808 != 0) = false) : IntKind.u64.wrap ((c : Int) + 1) = (nextOf x : Int) := by
  simp only [beq_eq_false_iff_ne, ne_eq] at h h2
  have h4 : ¬ 9223372036854775808 ≤ c := by
    intro h4
    rw [and_sign c hl, if_pos h4] at h3
    simp at h3
  rw [next_eq x c hc, if_neg (by omega), if_neg (by omega), if_neg h4, IntKind.wrap_u64]
  omega
end Go.Proofs.YtilffgmekeeohaaDoor

namespace Go.Proofs.YtilffgmekeeohaaDoor
open Go.RowKit Go.IntWalk

set_option maxHeartbeats 400000 in
theorem isinf1_any (x : Nat) (w : World) : Calls Tryd.prog 20 #[.float .f64 x, .int .i64 1] w fun r w' => r = .returned (.bool (FloatKind.f64.format.order x 9218868437227405311 == some .gt)) ∧ w' = w := by
  by_cases c : FloatKind.f64.format.order x 9218868437227405311 = some .gt
  · rw [c]
    go_enter Tryd.func20, Tryd.ntmps20
    go_wp2
    go_ret
    exact ⟨rfl, rfl⟩
  · have d : (FloatKind.f64.format.order x 9218868437227405311 == some .gt) = false := by simpa using c
    rw [d]
    go_enter Tryd.func20, Tryd.ntmps20
    go_wp2
    go_ret
    exact ⟨rfl, rfl⟩
theorem flip6_lt {x : Nat} (hx : x < 18446744073709551616) : flipOf x < 18446744073709551616 := by unfold flipOf; split <;> omega
theorem flip6_md {x : Nat} (hx : x < 18446744073709551616) : flipOf x % 9223372036854775808 = x % 9223372036854775808 ∧ (9223372036854775808 ≤ flipOf x ↔ ¬ 9223372036854775808 ≤ x) := by unfold flipOf; split <;> omega
theorem flip6_sv {x : Nat} (hx : x < 18446744073709551616) : sv (flipOf x) = -sv x := by
  obtain ⟨h1, h2⟩ := flip6_md hx
  unfold sv
  rw [h1]
  by_cases c : 9223372036854775808 ≤ x
  · rw [if_pos c, if_neg (fun h => h2.1 h c)]; omega
  · rw [if_neg c, if_pos (h2.2 c)]
theorem neg6_flip (x : Nat) (hx : x < 18446744073709551616) : Op.unary .neg (.float .f64 x) = pure (.float .f64 (flipOf x)) := by
  have h := xor_sign x hx
  have h2 := u64_xor_nat x 9223372036854775808 hx (by omega)
  have e : x ^^^ 9223372036854775808 = flipOf x := by
    have h3 := h2.symm.trans h
    omega
  rw [← e]
  rfl
set_option maxHeartbeats 400000 in
theorem isinf2_any (x : Nat) (w : World) (hx : x < 18446744073709551616) : Calls Tryd.prog 20 #[.float .f64 x, .int .i64 (-1)] w fun r w' => r = .returned (.bool (FloatKind.f64.format.order (flipOf x) 9218868437227405311 == some .gt)) ∧ w' = w := by
  have hn := neg6_flip x hx
  clear hx
  by_cases c : FloatKind.f64.format.order (flipOf x) 9218868437227405311 = some .gt
  · rw [c]
    go_enter Tryd.func20, Tryd.ntmps20
    go_wp2
    go_ret
    exact ⟨rfl, rfl⟩
  · have d : (FloatKind.f64.format.order (flipOf x) 9218868437227405311 == some .gt) = false := by simpa using c
    rw [d]
    go_enter Tryd.func20, Tryd.ntmps20
    go_wp2
    go_ret
    exact ⟨rfl, rfl⟩
theorem svmax : sv 9218868437227405311 < PI := by decide +kernel
theorem svmin : sv 18442240474082181119 = -sv 9218868437227405311 := by decide +kernel
/-- Beyond the greatest number lies the infinity alone. -/
theorem sv_beyond {x : Nat} (hn : x % 9223372036854775808 ≤ 9218868437227405312) : (sv 9218868437227405311 < sv x ↔ sv x = PI) ∧ (sv x < sv 18442240474082181119 ↔ sv x = -PI) ∧ -PI ≤ sv x ∧ sv x ≤ PI := by
  have h1 := svmax
  have h2 := svmin
  have e := pi_nv
  have em : sv 9218868437227405311 = (nv 9218868437227405311 : Int) := by unfold sv; rw [if_neg (by decide)]
  have hp := pi_pos
  rcases Nat.lt_or_eq_of_le hn with c | c
  · have hm := nv_mono (show x % 9223372036854775808 ≤ 9218868437227405311 by omega)
    have hb : -sv 9218868437227405311 ≤ sv x ∧ sv x ≤ sv 9218868437227405311 := by
      rw [em]
      unfold sv
      split <;> omega
    omega
  · have : sv x = PI ∨ sv x = -PI := by
      rw [e]
      unfold sv
      rw [c]
      split
      · right; rfl
      · left; rfl
    omega
theorem full_doc {lo hi : Nat} (h1 : lo < 18446744073709551616) (h2 : hi < 18446744073709551616) (h : leB lo hi = true) : fullB lo hi = (!(FloatKind.f64.format.order lo 9218868437227405311 == some .gt) && !(FloatKind.f64.format.order (flipOf hi) 9218868437227405311 == some .gt)) := by
  have hne : FloatKind.f64.format.order lo hi ≠ none := by
    intro hc
    unfold leB at h
    rw [hc] at h
    exact absurd h (by decide)
  have n1 := order_some hne
  have n2 : hi % 9223372036854775808 ≤ 9218868437227405312 := by
    by_cases c : 9218868437227405312 < hi % 9223372036854775808
    · exact absurd (order_nan_r lo hi c) hne
    · omega
  obtain ⟨a1, _, a3, a4⟩ := sv_beyond n1
  obtain ⟨_, b2, b3, b4⟩ := sv_beyond n2
  unfold leB at h
  unfold fullB
  rw [h, order_eq lo _ h1 (by decide) n1 (by decide), order_eq lo _ h1 (by decide) n1 (by decide), order_eq hi _ h2 (by decide) n2 (by decide), order_eq (flipOf hi) _ (flip6_lt h2) (by decide) (by rw [(flip6_md h2).1]; exact n2) (by decide), pi_neg, flip6_sv h2]
  show (true && (some (compare (sv lo) PI) == some .lt) && _) = _
  have k1 : (some (compare (sv lo) PI) == some .lt) = !(some (compare (sv lo) (sv 9218868437227405311)) == some .gt) := by
    by_cases c : sv lo = PI
    · rw [cmp_eq c, cmp_gt (a1.2 c)]; rfl
    · rw [cmp_lt (by omega)]
      rcases Int.lt_trichotomy (sv lo) (sv 9218868437227405311) with d | d | d
      · rw [cmp_lt d]; rfl
      · rw [cmp_eq d]; rfl
      · exact absurd (a1.1 d) c
  have k2 : (some (compare (sv hi) (-PI)) == some .gt) = !(some (compare (-sv hi) (sv 9218868437227405311)) == some .gt) := by
    by_cases c : sv hi = -PI
    · have := b2.2 c
      rw [svmin] at this
      rw [cmp_eq c, cmp_gt (by omega)]; rfl
    · rw [svmin] at b2
      rw [cmp_gt (show -PI < sv hi by omega)]
      rcases Int.lt_trichotomy (-sv hi) (sv 9218868437227405311) with d | d | d
      · rw [cmp_lt d]; rfl
      · rw [cmp_eq d]; rfl
      · exact absurd (b2.1 (by omega)) c
  rw [k1, k2, Bool.true_and]
theorem full_not {lo hi : Nat} (h : leB lo hi = false) : fullB lo hi = false := by
  unfold leB at h
  unfold fullB
  rw [h]; rfl
/-- A number and +0. -/
theorem add_zero {x : Nat} (hx : x < 18446744073709551616) (hn : x % 9223372036854775808 ≤ 9218868437227405312) : FloatKind.f64.format.add x 0 = some (plusOf x) := by
  rcases Nat.lt_or_eq_of_le hn with c | c
  · obtain ⟨m, p, ex, vx⟩ := read_fin x hx c
    obtain ⟨n, q, ey, vy⟩ := read_fin 0 (by decide) (by decide)
    unfold Ieee.Format.add
    rw [ex, ey]
    obtain ⟨mag, b, e, hv⟩ := sum_val _ _ m n p q (sv x) (sv 0) (sv_form x m p vx) (sv_form 0 n q vy)
    have z0 : sv 0 = 0 := by decide +kernel
    rw [e]
    rw [z0] at hv ⊢
    rw [Int.add_zero] at hv ⊢
    show some (FloatKind.f64.format.nearest _ mag ((b : Int) - 1074)) = _
    have hxn : (sv x).natAbs = nv (x % 9223372036854775808) := by
      unfold sv; split <;> omega
    by_cases k : sv x = 0
    · have hz : x % 9223372036854775808 = 0 := by
        have := hxn
        rw [k] at this
        exact inv_inj (this.symm.trans nv_0.symm)
      have hm : mag = 0 := by
        rw [k] at hv
        rcases Nat.mul_eq_zero.1 (show mag * 2 ^ b = 0 from hv) with h | h
        · exact h
        · have := Nat.two_pow_pos b; omega
      have hp : plusOf x = 0 := by
        unfold plusOf
        rw [if_pos (by rw [order_eq x 0 hx (by decide) hn (by decide), z0, k, cmp_eq rfl])]
      rw [if_pos k, hm, nearest_zero, hp]
      simp
      rw [word_false]
    · have hm : mag ≠ 0 := by
        intro h0
        rw [h0, Nat.zero_mul] at hv
        omega
      have hp : plusOf x = x := by
        unfold plusOf
        rw [if_neg (by
          rw [order_eq x 0 hx (by decide) hn (by decide), z0]
          intro h
          exact k (Int.compare_eq_eq.1 (Option.some.inj h)))]
      rw [if_neg k, nearest_nv _ mag b (x % 9223372036854775808) hm c (by rw [hv, hxn]), hp]
      by_cases s : 9223372036854775808 ≤ x
      · have : sv x < 0 := by
          have hq : 0 < nv (x % 9223372036854775808) := by omega
          unfold sv; rw [if_pos s]; omega
        rw [decide_eq_true this, word_true]
        congr 1
        omega
      · have : ¬ sv x < 0 := by
          unfold sv; rw [if_neg s]; omega
        rw [decide_eq_false this, word_false]
        congr 1
        omega
  · have : x = 9218868437227405312 ∨ x = 18442240474082181120 := by omega
    rcases this with rfl | rfl <;> decide +kernel
end Go.Proofs.YtilffgmekeeohaaDoor
