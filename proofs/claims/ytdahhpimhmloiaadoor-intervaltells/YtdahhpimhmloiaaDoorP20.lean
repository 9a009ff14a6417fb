
/- The document's Full, made, Empty, All, New (binnacleref06). -/
import Derived.Test.YtdahhpimhmloiaaDoorP17
import Derived.Test.YtdahhpimhmloiaaDoorP18
import Derived.Test.YtdahhpimhmloiaaDoorP19
namespace Go.Proofs.YtdahhpimhmloiaaDoor
open Go.RowKit Go.IntWalk

set_option maxHeartbeats 400000 in
theorem isinf1_any (x : Nat) (w : World) : Calls Tryd.prog 39 #[.float .f64 x, .int .i64 1] w fun r w' => r = .returned (.bool (FloatKind.f64.format.order x 9218868437227405311 == some .gt)) ∧ w' = w := by
  by_cases c : FloatKind.f64.format.order x 9218868437227405311 = some .gt
  · rw [c]
    go_enter Tryd.func39, Tryd.ntmps39
    go_wp2
    go_ret
    exact ⟨rfl, rfl⟩
  · have d : (FloatKind.f64.format.order x 9218868437227405311 == some .gt) = false := by simpa using c
    rw [d]
    go_enter Tryd.func39, Tryd.ntmps39
    go_wp2
    go_ret
    exact ⟨rfl, rfl⟩
theorem flip6_lt {x : Nat} (hx : x < 18446744073709551616) : flipOf x < 18446744073709551616 := by unfold flipOf; split <;> omega
theorem flip6_md {x : Nat} (hx : x < 18446744073709551616) : flipOf x % 9223372036854775808 = x % 9223372036854775808 ∧ (9223372036854775808 ≤ flipOf x ↔ ¬ 9223372036854775808 ≤ x) := by unfold flipOf; split <;> omega
theorem flip6_sv {x : Nat} (hx : x < 18446744073709551616) : sv (flipOf x) = -sv x := by
  obtain ⟨h1, h2⟩ := flip6_md hx
  unfold sv
  rw [h1]
  by_cases c : 9223372036854775808 ≤ x
  · rw [if_pos c, if_neg (fun h => h2.1 h c)]; omega
  · rw [if_neg c, if_pos (h2.2 c)]
theorem neg6_flip (x : Nat) (hx : x < 18446744073709551616) : Op.unary .neg (.float .f64 x) = pure (.float .f64 (flipOf x)) := by
  have h := xor_sign x hx
  have h2 := u64_xor_nat x 9223372036854775808 hx (by omega)
  have e : x ^^^ 9223372036854775808 = flipOf x := by
    have h3 := h2.symm.trans h
    omega
  rw [← e]
  rfl
set_option maxHeartbeats 400000 in
theorem isinf2_any (x : Nat) (w : World) (hx : x < 18446744073709551616) : Calls Tryd.prog 39 #[.float .f64 x, .int .i64 (-1)] w fun r w' => r = .returned (.bool (FloatKind.f64.format.order (flipOf x) 9218868437227405311 == some .gt)) ∧ w' = w := by
  have hn := neg6_flip x hx
  clear hx
  by_cases c : FloatKind.f64.format.order (flipOf x) 9218868437227405311 = some .gt
  · rw [c]
    go_enter Tryd.func39, Tryd.ntmps39
    go_wp2
    go_ret
    exact ⟨rfl, rfl⟩
  · have d : (FloatKind.f64.format.order (flipOf x) 9218868437227405311 == some .gt) = false := by simpa using c
    rw [d]
    go_enter Tryd.func39, Tryd.ntmps39
    go_wp2
    go_ret
    exact ⟨rfl, rfl⟩
theorem svmax : sv 9218868437227405311 < PI := by decide +kernel
theorem svmin : sv 18442240474082181119 = -sv 9218868437227405311 := by decide +kernel
/-- Beyond the greatest number lies the infinity alone. -/
theorem sv_beyond {x : Nat} (hn : x % 9223372036854775808 ≤ 9218868437227405312) : (sv 9218868437227405311 < sv x ↔ sv x = PI) ∧ (sv x < sv 18442240474082181119 ↔ sv x = -PI) ∧ -PI ≤ sv x ∧ sv x ≤ PI := by
  have h1 := svmax
  have h2 := svmin
  have e := pi_nv
  have em : sv 9218868437227405311 = (nv 9218868437227405311 : Int) := by unfold sv; rw [if_neg (by decide)]
  have hp := pi_pos
  rcases Nat.lt_or_eq_of_le hn with c | c
  · have hm := nv_mono (show x % 9223372036854775808 ≤ 9218868437227405311 by omega)
    have hb : -sv 9218868437227405311 ≤ sv x ∧ sv x ≤ sv 9218868437227405311 := by
      rw [em]
      unfold sv
      split <;> omega
    omega
  · have : sv x = PI ∨ sv x = -PI := by
      rw [e]
      unfold sv
      rw [c]
      split
      · right; rfl
      · left; rfl
    omega
theorem full_doc {lo hi : Nat} (h1 : lo < 18446744073709551616) (h2 : hi < 18446744073709551616) (h : leB lo hi = true) : fullB lo hi = (!(FloatKind.f64.format.order lo 9218868437227405311 == some .gt) && !(FloatKind.f64.format.order (flipOf hi) 9218868437227405311 == some .gt)) := by
  have hne : FloatKind.f64.format.order lo hi ≠ none := by
    intro hc
    unfold leB at h
    rw [hc] at h
    exact absurd h (by decide)
  have n1 := order_some hne
  have n2 : hi % 9223372036854775808 ≤ 9218868437227405312 := by
    by_cases c : 9218868437227405312 < hi % 9223372036854775808
    · exact absurd (order_nan_r lo hi c) hne
    · omega
  obtain ⟨a1, _, a3, a4⟩ := sv_beyond n1
  obtain ⟨_, b2, b3, b4⟩ := sv_beyond n2
  unfold leB at h
  unfold fullB
  rw [h, order_eq lo _ h1 (by decide) n1 (by decide), order_eq lo _ h1 (by decide) n1 (by decide), order_eq hi _ h2 (by decide) n2 (by decide), order_eq (flipOf hi) _ (flip6_lt h2) (by decide) (by rw [(flip6_md h2).1]; exact n2) (by decide), pi_neg, flip6_sv h2]
  show (true && (some (compare (sv lo) PI) == some .lt) && _) = _
  have k1 : (some (compare (sv lo) PI) == some .lt) = !(some (compare (sv lo) (sv 9218868437227405311)) == some .gt) := by
    by_cases c : sv lo = PI
    · rw [cmp_eq c, cmp_gt (a1.2 c)]; rfl
    · rw [cmp_lt (by omega)]
      rcases Int.lt_trichotomy (sv lo) (sv 9218868437227405311) with d | d | d
      · rw [cmp_lt d]; rfl
      · rw [cmp_eq d]; rfl
      · exact absurd (a1.1 d) c
  have k2 : (some (compare (sv hi) (-PI)) == some .gt) = !(some (compare (-sv hi) (sv 9218868437227405311)) == some .gt) := by
    by_cases c : sv hi = -PI
    · have := b2.2 c
      rw [svmin] at this
      rw [cmp_eq c, cmp_gt (by omega)]; rfl
    · rw [svmin] at b2
      rw [cmp_gt (show -PI < sv hi by omega)]
      rcases Int.lt_trichotomy (-sv hi) (sv 9218868437227405311) with d | d | d
      · rw [cmp_lt d]; rfl
      · rw [cmp_eq d]; rfl
      · exact absurd (b2.1 (by omega)) c
  rw [k1, k2, Bool.true_and]
theorem full_not {lo hi : Nat} (h : leB lo hi = false) : fullB lo hi = false := by
  unfold leB at h
  unfold fullB
  rw [h]; rfl
set_option maxHeartbeats 1000000 in
theorem rFull_any (lo hi : Nat) (w : World) (h1 : lo < 18446744073709551616) (h2 : hi < 18446744073709551616) : Calls Tryd.prog 46 #[IV lo hi] w fun r w' => r = .returned (.bool (fullB lo hi)) ∧ Below w.heap.size w w' := by
  have HB0 : Hid (Below w.heap.size w (w.alloc (IBox lo hi))) := (Below.refl _ _).alloc (Nat.le_refl _) _
  have g1 := inew w (IBox lo hi)
  obtain ⟨W0, hW0⟩ : ∃ V, Hid (w.alloc (IBox lo hi) = V) := ⟨_, rfl⟩
  rw [hW0.out] at HB0 g1
  obtain ⟨d0, d1, d2⟩ := icells_of (show W0.heap[w.heap.size]? = some (.cells #[.float .f64 lo, .float .f64 hi] 28) from g1)
  have H1 := hid (isinf1_any lo)
  have H2 := hid (fun (W : World) => isinf2_any hi W h2)
  unfold IBox at hW0
  have hW0' := hW0.out
  clear g1
  rcases c : leB lo hi with _ | _
  · rw [full_not c]
    unfold leB at c
    unfold IV
    clear h1 h2 H1 H2
    go_enter Tryd.func46, Tryd.ntmps46
    go_wp2
    go_ret
    exact ⟨rfl, HB0.out⟩
  · rw [full_doc h1 h2 c]
    unfold leB at c
    unfold IV
    clear h1 h2
    obtain ⟨P, hP⟩ : ∃ z, Hid ((FloatKind.f64.format.order lo 9218868437227405311 == some .gt) = z) := ⟨_, rfl⟩
    obtain ⟨Q, hQ⟩ : ∃ z, Hid ((FloatKind.f64.format.order (flipOf hi) 9218868437227405311 == some .gt) = z) := ⟨_, rfl⟩
    rw [hP.out] at H1 ⊢
    rw [hQ.out] at H2 ⊢
    cases P
    · go_enter Tryd.func46, Tryd.ntmps46
      go_wp2_with fail
      refine (H1.out _).mono ?_
      rintro r w1 ⟨rfl, rfl⟩
      go_wp2_with fail
      refine (H2.out _).mono ?_
      rintro r w1 ⟨rfl, rfl⟩
      go_wp2
      go_ret
      exact ⟨rfl, HB0.out⟩
    · go_enter Tryd.func46, Tryd.ntmps46
      go_wp2_with fail
      refine (H1.out _).mono ?_
      rintro r w1 ⟨rfl, rfl⟩
      go_wp2
      go_ret
      exact ⟨rfl, HB0.out⟩
/-- A number and +0. -/
theorem add_zero {x : Nat} (hx : x < 18446744073709551616) (hn : x % 9223372036854775808 ≤ 9218868437227405312) : FloatKind.f64.format.add x 0 = some (plusOf x) := by
  rcases Nat.lt_or_eq_of_le hn with c | c
  · obtain ⟨m, p, ex, vx⟩ := read_fin x hx c
    obtain ⟨n, q, ey, vy⟩ := read_fin 0 (by decide) (by decide)
    unfold Ieee.Format.add
    rw [ex, ey]
    obtain ⟨mag, b, e, hv⟩ := sum_val _ _ m n p q (sv x) (sv 0) (sv_form x m p vx) (sv_form 0 n q vy)
    have z0 : sv 0 = 0 := by decide +kernel
    rw [e]
    rw [z0] at hv ⊢
    rw [Int.add_zero] at hv ⊢
    show some (FloatKind.f64.format.nearest _ mag ((b : Int) - 1074)) = _
    have hxn : (sv x).natAbs = nv (x % 9223372036854775808) := by
      unfold sv; split <;> omega
    by_cases k : sv x = 0
    · have hz : x % 9223372036854775808 = 0 := by
        have := hxn
        rw [k] at this
        exact nv_inj (this.symm.trans nv_0.symm)
      have hm : mag = 0 := by
        rw [k] at hv
        rcases Nat.mul_eq_zero.1 (show mag * 2 ^ b = 0 from hv) with h | h
        · exact h
        · have := Nat.two_pow_pos b; omega
      have hp : plusOf x = 0 := by
        unfold plusOf
        rw [if_pos (by rw [order_eq x 0 hx (by decide) hn (by decide), z0, k, cmp_eq rfl])]
      rw [if_pos k, hm, nearest_zero, hp]
      simp
      rw [word_false]
    · have hm : mag ≠ 0 := by
        intro h0
        rw [h0, Nat.zero_mul] at hv
        omega
      have hp : plusOf x = x := by
        unfold plusOf
        rw [if_neg (by
          rw [order_eq x 0 hx (by decide) hn (by decide), z0]
          intro h
          exact k (Int.compare_eq_eq.1 (Option.some.inj h)))]
      rw [if_neg k, nearest_nv _ mag b (x % 9223372036854775808) hm c (by rw [hv, hxn]), hp]
      by_cases s : 9223372036854775808 ≤ x
      · have : sv x < 0 := by
          have hq : 0 < nv (x % 9223372036854775808) := by omega
          unfold sv; rw [if_pos s]; omega
        rw [decide_eq_true this, word_true]
        congr 1
        omega
      · have : ¬ sv x < 0 := by
          unfold sv; rw [if_neg s]; omega
        rw [decide_eq_false this, word_false]
        congr 1
        omega
  · have : x = 9218868437227405312 ∨ x = 18442240474082181120 := by omega
    rcases this with rfl | rfl <;> decide +kernel
end Go.Proofs.YtdahhpimhmloiaaDoor
