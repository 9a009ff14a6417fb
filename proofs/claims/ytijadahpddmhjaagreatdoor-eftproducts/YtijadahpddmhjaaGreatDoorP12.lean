
/- math.Ldexp(1, 60). -/
import Derived.Test.YtijadahpddmhjaaGreatDoorP11
import Derived.Test.YtijadahpddmhjaaGreatDoorP2
import Derived.Test.YtijadahpddmhjaaGreatDoorP1
import Derived.Lib.Walk
import Derived.Lib.BitFns
import Derived.Lib.Strings
import Derived.Lib.Slices
import Derived.Lib.Small
import Derived.Test.YtijadahpddmhjaaGreatDoorP3
namespace Go.Proofs.YtijadahpddmhjaaGreatDoor
open Go.RowKit Go.IntWalk

theorem o1 : (FloatKind.f64.format.order 4607182418800017408 0 == some .eq) = false ∧ (FloatKind.f64.format.order 4607182418800017408 4607182418800017408 != some .eq) = false ∧ (FloatKind.f64.format.order 4607182418800017408 9218868437227405311 == some .gt) = false ∧ (FloatKind.f64.format.order 4607182418800017408 4503599627370496 == some .lt) = false := by decide +kernel
theorem f64fromI3 (n : Int) (w : World) : (callFunc 30 #[.int .u64 n]).run Tryz.prog w = .ok (.value (.float .f64 n.toNat)) w := by
  rw [run_callFunc_extern Tryz.func30 (by kernel_rfl) (by kernel_rfl) (by kernel_rfl) (e := Extern.MathFloatBits.float64frombits) (by kernel_rfl)]; rfl
theorem bt1 : bits .andNot .u64 4607182418800017408 9223372036854775808 = 4607182418800017408 ∧ bits .and .i64 1023 2047 = 1023 ∧ bits .andNot .u64 4607182418800017408 9218868437227405312 = 0 ∧ bits .or .u64 0 4877398396442247168 = 4877398396442247168 := by decide +kernel
set_option maxHeartbeats 1000000 in
theorem abs_one (w : World) : Calls Tryz.prog 44 #[.float .f64 4607182418800017408] w fun r w' => r = .returned (.float .f64 4607182418800017408) ∧ w' = w := by
  have h1 := f64bits
  have h2 := f64fromI3
  obtain ⟨b1, _⟩ := bt1
  go_enter Tryz.func44, Tryz.ntmps44
  go_wp2
  go_ret
  exact ⟨rfl, rfl⟩
set_option maxHeartbeats 1000000 in
theorem ldexp_60 (w : World) : Calls Tryz.prog 74 #[.float .f64 4607182418800017408, .int .i64 60] w fun r w' => r = .returned (.float .f64 4877398396442247168) ∧ w' = w := by
  obtain ⟨g1, g2, g3, g4⟩ := o1
  obtain ⟨b1, b2, b3, b4⟩ := bt1
  have h1 := f64bits
  have h2 := f64fromI3
  have hm := f_mul (x := 4607182418800017408) (y := 4877398396442247168) (z := 4877398396442247168) (by decide +kernel)
  have c0 : wrap64 0 = 0 := by decide +kernel
  have c1 : wrap64 60 = 60 := by decide +kernel
  go_enter Tryz.func74, Tryz.ntmps74
  go_wp2
  go_ret
  exact ⟨rfl, rfl⟩
set_option maxHeartbeats 1000000 in
theorem Ldexp_60 (w : World) : Calls Tryz.prog 45 #[.float .f64 4607182418800017408, .int .i64 60] w fun r w' => r = .returned (.float .f64 4877398396442247168) ∧ w' = w := by
  go_enter Tryz.func45, Tryz.ntmps45
  go_wp2_with fail
  refine (ldexp_60 _).mono ?_
  rintro r w1 ⟨rfl, rfl⟩
  go_wp2
  go_ret
  exact ⟨rfl, rfl⟩
end Go.Proofs.YtijadahpddmhjaaGreatDoor

namespace Go.Proofs.YtijadahpddmhjaaGreatDoor
open Go.RowKit Go.IntWalk

/-- Below the last zero a halved mantissa is even, and not 0. -/
theorem half_even (m : Nat) (h0 : m ≠ 0) (hm : m < 18446744073709551616) (k : Nat) (hk : k < tzOf m) : m / 2 ^ k ≠ 0 ∧ m / 2 ^ k % 2 = 0 ∧ m / 2 ^ (k + 1) = m / 2 ^ k / 2 := by
  obtain ⟨q, _, hmq⟩ := odd_spec m h0 hm
  obtain ⟨tz, htz⟩ : ∃ tz, tzOf m = tz := ⟨_, rfl⟩
  rw [htz] at hmq hk
  have e0 : tz = k + (tz - k - 1 + 1) := by omega
  have e1 : m / 2 ^ k = 2 * (2 ^ (tz - k - 1) * (2 * q + 1)) := by
    rw [hmq, e0, Nat.pow_add, Nat.mul_assoc, Nat.mul_div_cancel_left _ (Nat.two_pow_pos k), Nat.pow_succ, Nat.mul_comm (2 ^ _) 2, Nat.mul_assoc]
    congr 3
    omega
  have e2 : 2 ^ (tz - k - 1) * (2 * q + 1) ≠ 0 := Nat.mul_ne_zero (Nat.pos_iff_ne_zero.1 (Nat.two_pow_pos _)) (by omega)
  exact ⟨by omega, by omega, by rw [Nat.pow_succ, Nat.div_div_eq_div_mul]⟩
set_option maxHeartbeats 400000 in
theorem rodd_zero (e : Int) (w : World) :
    Calls Tryz.prog 76 #[.int .u64 0, .int .i64 e] w fun r w' => r = .returned (.tuple #[.int .u64 0, .int .i64 0]) ∧ w' = w := by
  go_enter Tryz.func76, Tryz.ntmps76
  go_wp2
  go_ret2
  exact ⟨rfl, rfl⟩
/-- What the loop has come to. -/
def OddR (m : Nat) (e c E : Int) : Prop := ∃ k : Nat, k ≤ tzOf m ∧ ((m / 2 ^ k : Nat) : Int) = c ∧ e + (k : Int) = E
set_option maxRecDepth 4000 in
set_option maxHeartbeats 800000 in
theorem rodd_any (m : Nat) (e : Int) (w : World) (hm : m < 18446744073709551616) (h0 : m ≠ 0) (he1 : -3000 ≤ e) (he2 : e ≤ 3000) :
    Calls Tryz.prog 76 #[.int .u64 m, .int .i64 e] w fun r w' => r = .returned (.tuple #[.int .u64 (oddOf m), .int .i64 (e + (tzOf m : Int))]) ∧ w' = w := by
  obtain ⟨q, hq, _⟩ := odd_spec m h0 hm
  have HT6 : Hid (tzOf m ≤ 63) := by have := (tz_spec m h0 hm).1; show tzOf m ≤ 63; omega
  have HSTEP : Hid (∀ c E, OddR m e c E → (0 ≤ c ∧ c ≤ 18446744073709551615 ∧ -3000 ≤ E ∧ E ≤ 3100 ∧ 0 ≤ E - e) ∧ ((c % 2 = 0 ∧ OddR m e (c / 2) (E + 1) ∧ E - e < 64) ∨ (c % 2 = 1 ∧ c = (oddOf m : Int) ∧ E = e + (tzOf m : Int)))) := by
    rintro c E ⟨k, hk, rfl, rfl⟩
    have h6 := HT6.out
    have h7 : m / 2 ^ k ≤ m := Nat.div_le_self _ _
    obtain ⟨d, hd⟩ : ∃ d, m / 2 ^ k = d := ⟨_, rfl⟩
    rw [hd] at h7 ⊢
    refine ⟨⟨by omega, by omega, by omega, by omega, by omega⟩, ?_⟩
    by_cases hlt : k < tzOf m
    · obtain ⟨g1, g2, g3⟩ := half_even m h0 hm k hlt
      rw [hd] at g1 g2 g3
      left
      refine ⟨by omega, ⟨k + 1, hlt, ?_, by omega⟩, by omega⟩
      rw [g3]
      omega
    · have hkz : k = tzOf m := by omega
      right
      have ho : d = oddOf m := by rw [← hd, hkz]; rfl
      rw [ho]
      exact ⟨by omega, rfl, by rw [hkz]⟩
  have HST : Hid (OddR m e (m : Int) e) := ⟨0, Nat.zero_le _, by rw [Nat.pow_zero, Nat.div_one], by omega⟩
  obtain ⟨M, hM⟩ : ∃ M : Int, Hid ((m : Int) = M) := ⟨_, rfl⟩
  obtain ⟨R1, hR1⟩ : ∃ M : Int, Hid ((oddOf m : Int) = M) := ⟨_, rfl⟩
  obtain ⟨R2, hR2⟩ : ∃ M : Int, Hid (e + (tzOf m : Int) = M) := ⟨_, rfl⟩
  have hM0 : ¬ M = 0 := by have := hM.out; omega
  rw [hM.out] at HST ⊢
  rw [hR1.out] at HSTEP ⊢
  rw [hR2.out] at HSTEP ⊢
  clear hm h0 hq he1 he2
  go_enter Tryz.func76, Tryz.ntmps76
  go_wp2
  go_loop [0, 1] (fun a b => ∃ c E : Int, Hid (OddR m e c E) ∧ a = .int .u64 c ∧ b = .int .i64 E) (fun _ b => 64 - (intOf b - e).toNat)
  case atStart => exact ⟨M, e, HST, rfl, rfl⟩
  case round =>
    obtain ⟨c, E, HR, rfl, rfl⟩ := hrel
    obtain ⟨⟨b1, b2, b3, b4, b5⟩, hcase⟩ := HSTEP.out c E HR.out
    rcases hcase with ⟨hev, hnx, hms⟩ | ⟨hod, rfl, rfl⟩
    · have HN := hid hnx
      have HMS := hid (And.intro hms b5)
      have ht1 : c.tmod 2 = 0 := by rw [Int.tmod_eq_emod_of_nonneg b1]; exact hev
      have ht2 : c.tdiv 2 = c / 2 := Int.tdiv_eq_ediv_of_nonneg b1
      have hw1 : IntKind.u64.wrap (c / 2) = c / 2 := by rw [IntKind.wrap_u64]; omega
      have hw2 : IntKind.i64.wrap (E + 1) = E + 1 := by rw [IntWalk.i64_in _ (by omega)]
      clear hnx hms
      go_wp2
      go_round
      case rel => exact ⟨c / 2, E + 1, HN, rfl, rfl⟩
      case measure => have := HMS.out; simp [intOf]; omega
    · have ht1 : ¬ c.tmod 2 = 0 := by rw [Int.tmod_eq_emod_of_nonneg b1]; omega
      go_wp2
      go_ret2
      exact ⟨rfl, rfl⟩
end Go.Proofs.YtijadahpddmhjaaGreatDoor

namespace Go.Proofs.YtijadahpddmhjaaGreatDoor
open Go.RowKit

/-- The library's table stands in its variable. -/
def Tab (w : World) : Prop := ∀ j, j < 64 → w.cell? ⟨2, j, none⟩ = some (.int .u8 (Lib.deBruijn64tab.getD j 0))
theorem Tab.below {w w' : World} (h : Tab w) (hs : 2 < w.heap.size) (hb : Below w.heap.size w w') : Tab w' := fun j hj => by rw [hb.cell (p := ⟨2, j, none⟩) hs]; exact h j hj

set_option maxHeartbeats 400000 in
theorem tz_core (x k idx : Nat) (w : World) (hx0 : ((x : Int) == 0) = false)
    (key : IntKind.u64.wrap (bits BinOp.and IntKind.u64 (x : Int) (IntKind.u64.wrap (-(x : Int))) * 285870213051353865) / 288230376151711744 = (idx : Int))
    (hi : idx < 64) (hk : k < 64) (hcell : w.cell? ⟨2, idx, none⟩ = some (.int .u8 k)) :
    Calls Tryz.prog 121 #[.int .u64 x] w fun e w' => e = .returned (.int .i64 k) ∧ w' = w := by
  go_enter Tryz.func121, Tryz.ntmps121
  go_wp2_with (simp only [key])
  go_ret
  exact ⟨rfl, rfl⟩
set_option maxHeartbeats 400000 in
theorem tz_zero (w : World) :
    Calls Tryz.prog 121 #[.int .u64 0] w fun e w' => e = .returned (.int .i64 64) ∧ w' = w := by
  go_enter Tryz.func121, Tryz.ntmps121
  go_wp2
  go_ret
  exact ⟨rfl, rfl⟩
theorem tz_any (x : Nat) (w : World) (hx : x < 18446744073709551616) (hT : Tab w) :
    Calls Tryz.prog 121 #[.int .u64 x] w fun e w' => e = .returned (.int .i64 (tzOf x)) ∧ w' = w := by
  by_cases hx0 : x = 0
  · subst hx0
    exact tz_zero w
  · obtain ⟨hlow, hk⟩ := Lib.lowest_bit 64 x hx0 hx
    obtain ⟨hi, htab⟩ := Lib.deBruijn64_at _ hk
    have hcell := hT _ hi
    rw [htab] at hcell
    exact tz_core x (Lib.ctz 64 x) _ w (by simpa using hx0) (tz_key x _ hx hx0 hlow) hi hk hcell

set_option maxHeartbeats 400000 in
theorem lowest_any (e : Int) (w : World) (h1 : -2000 ≤ e) (h2 : e ≤ 3000) :
    Calls Tryz.prog 122 #[.agg #[.int .i64 52, .int .u64 4503599627370495, .int .u64 2047, .int .u64 9223372036854775808, .int .u64 9218868437227405312, .int .u64 9221120237041090561, .int .i64 1075], .int .i64 e] w fun r w' => r = .returned (.int .i64 (max e 1 - 1075)) ∧ w' = w.alloc (.cells #[.int .i64 52, .int .u64 4503599627370495, .int .u64 2047, .int .u64 9223372036854775808, .int .u64 9218868437227405312, .int .u64 9221120237041090561, .int .i64 1075] 73) := by
  go_enter Tryz.func122, Tryz.ntmps122
  go_wp2
  all_goals go_ret
  all_goals exact ⟨ret_int (by omega), rfl⟩
theorem lowest0 (w : World) :
    Calls Tryz.prog 122 #[.agg #[.int .i64 52, .int .u64 4503599627370495, .int .u64 2047, .int .u64 9223372036854775808, .int .u64 9218868437227405312, .int .u64 9221120237041090561, .int .i64 1075], .int .i64 0] w fun r w' => r = .returned (.int .i64 (-1074)) ∧ w' = w.alloc (.cells #[.int .i64 52, .int .u64 4503599627370495, .int .u64 2047, .int .u64 9223372036854775808, .int .u64 9218868437227405312, .int .u64 9221120237041090561, .int .i64 1075] 73) :=
  lowest_any 0 w (by omega) (by omega)
theorem lowest0_b (w : World) :
    Calls Tryz.prog 122 #[.agg #[.int .i64 52, .int .u64 4503599627370495, .int .u64 2047, .int .u64 9223372036854775808, .int .u64 9218868437227405312, .int .u64 9221120237041090561, .int .i64 1075], .int .i64 0] w fun r w' => r = .returned (.int .i64 (-1074)) ∧ Below w.heap.size w w' :=
  (lowest0 w).mono fun _ _ h => ⟨h.1, by rw [h.2]; exact (Below.refl _ _).alloc (Nat.le_refl _) _⟩
theorem lowest_k (e k : Nat) (w : World) (he : e ≤ 2047) (hk : max e 1 = k + 1) :
    Calls Tryz.prog 122 #[.agg #[.int .i64 52, .int .u64 4503599627370495, .int .u64 2047, .int .u64 9223372036854775808, .int .u64 9218868437227405312, .int .u64 9221120237041090561, .int .i64 1075], .int .i64 e] w fun r w' => r = .returned (.int .i64 ((k : Int) - 1074)) ∧ w' = w.alloc (.cells #[.int .i64 52, .int .u64 4503599627370495, .int .u64 2047, .int .u64 9223372036854775808, .int .u64 9218868437227405312, .int .u64 9221120237041090561, .int .i64 1075] 73) :=
  (lowest_any e w (by omega) (by omega)).mono fun _ _ h => ⟨by rw [h.1]; exact ret_int (by omega), h.2⟩
theorem fold_len : (⟨((([0, 1, 2, 2, 3, 3, 3, 3, 4, 4, 4, 4, 4, 4, 4, 4, 5, 5, 5, 5, 5, 5, 5, 5, 5, 5, 5, 5, 5, 5, 5, 5, 6, 6, 6, 6, 6, 6, 6, 6, 6, 6, 6, 6, 6, 6, 6, 6, 6, 6, 6, 6, 6, 6, 6, 6, 6, 6, 6, 6, 6, 6, 6, 6] : List UInt8).append [7, 7, 7, 7, 7, 7, 7, 7, 7, 7, 7, 7, 7, 7, 7, 7, 7, 7, 7, 7, 7, 7, 7, 7, 7, 7, 7, 7, 7, 7, 7, 7, 7, 7, 7, 7, 7, 7, 7, 7, 7, 7, 7, 7, 7, 7, 7, 7, 7, 7, 7, 7, 7, 7, 7, 7, 7, 7, 7, 7, 7, 7, 7, 7]).append (([8, 8, 8, 8, 8, 8, 8, 8, 8, 8, 8, 8, 8, 8, 8, 8, 8, 8, 8, 8, 8, 8, 8, 8, 8, 8, 8, 8, 8, 8, 8, 8, 8, 8, 8, 8, 8, 8, 8, 8, 8, 8, 8, 8, 8, 8, 8, 8, 8, 8, 8, 8, 8, 8, 8, 8, 8, 8, 8, 8, 8, 8, 8, 8] : List UInt8).append [8, 8, 8, 8, 8, 8, 8, 8, 8, 8, 8, 8, 8, 8, 8, 8, 8, 8, 8, 8, 8, 8, 8, 8, 8, 8, 8, 8, 8, 8, 8, 8, 8, 8, 8, 8, 8, 8, 8, 8, 8, 8, 8, 8, 8, 8, 8, 8, 8, 8, 8, 8, 8, 8, 8, 8, 8, 8, 8, 8, 8, 8, 8, 8])).toArray⟩ : ByteArray) = Lib.len8tab := by kernel_rfl
end Go.Proofs.YtijadahpddmhjaaGreatDoor

namespace Go.Proofs.YtijadahpddmhjaaGreatDoor
open Go.RowKit Go.IntWalk

set_option maxHeartbeats 400000 in
theorem bits_any (x : Nat) (w : World) (hx : x < 18446744073709551616) :
    Calls Tryz.prog 57 #[.float .f64 x] w fun e w' => e = .returned (.int .u64 (canonOf x)) ∧ w' = w := by
  have h1 := f64bits
  have ho := order_self x hx
  by_cases h : 9218868437227405312 < x % 9223372036854775808
  · rw [decide_eq_true h] at ho
    have H : Hid (9218868437227405312 < x % 9223372036854775808) := h
    clear h
    go_enter Tryz.func57, Tryz.ntmps57
    go_wp2
    go_ret
    exact ⟨ret_int (by unfold canonOf; rw [if_pos H.out]; rfl), rfl⟩
  · rw [decide_eq_false h] at ho
    have H : Hid (¬ 9218868437227405312 < x % 9223372036854775808) := h
    clear h
    go_enter Tryz.func57, Tryz.ntmps57
    go_wp2
    go_ret
    exact ⟨ret_int (by unfold canonOf; rw [if_neg H.out]), rfl⟩

theorem neg_r {x : Nat} (hx : x < 18446744073709551616) : ((canonOf x : Int) / 9223372036854775808 == 1) = negOf x := by
  have hl := canon_lt hx
  unfold negOf
  rw [Bool.eq_iff_iff, beq_iff_eq, decide_eq_true_eq]
  omega
theorem exp_r {x : Nat} (hx : x < 18446744073709551616) : (canonOf x : Int) / 4503599627370496 % 2048 = (expOf x : Int) := by
  have hl := canon_lt hx
  unfold expOf
  omega
theorem frac_r (x : Nat) : (canonOf x : Int) % 4503599627370496 = (fracOf x : Int) := by
  unfold fracOf
  omega

set_option maxHeartbeats 400000 in
theorem rsplit_any (x : Nat) (w : World) (hx : x < 18446744073709551616) :
    Calls Tryz.prog 75 #[.float .f64 x] w fun e w' => e = .returned (.tuple #[.bool (negOf x), .int .i64 (expOf x), .int .u64 (fracOf x)]) ∧ w' = w := by
  go_enter Tryz.func75, Tryz.ntmps75
  go_wp2_with fail
  refine (bits_any x _ hx).mono ?_
  rintro e w' ⟨rfl, rfl⟩
  go_wp2_with fail
  go_ret3
  exact ⟨ret_bii (neg_r hx) (exp_r hx) (frac_r x), rfl⟩

set_option maxHeartbeats 400000 in
theorem classify_any (x : Nat) (w : World) :
    Calls Tryz.prog 100 #[.int .i64 (expOf x), .int .u64 (fracOf x), .int .i64 2047] w fun e w' => e = .returned (.int .i64 (classN x)) ∧ w' = w := by
  go_enter Tryz.func100, Tryz.ntmps100
  go_wp2
  all_goals (go_ret; refine ⟨ret_int ?_, rfl⟩; unfold classN; simp_all; try (split <;> first | rfl | omega))
set_option maxHeartbeats 400000 in
theorem rclass_any (x : Nat) (w : World) (hx : x < 18446744073709551616) :
    Calls Tryz.prog 86 #[.float .f64 x] w fun e w' => e = .returned (.int .i64 (classN x)) ∧ w' = w := by
  go_enter Tryz.func86, Tryz.ntmps86
  go_wp2_with fail
  refine (rsplit_any x _ hx).mono ?_
  rintro e w' ⟨rfl, rfl⟩
  go_wp2_with fail
  refine (classify_any x _).mono ?_
  rintro e w' ⟨rfl, rfl⟩
  go_wp2_with fail
  go_ret
  exact ⟨rfl, rfl⟩
theorem class_fin (x : Nat) : decide ((2 : Int) < (classN x : Int)) = !(expOf x == 2047) := by
  unfold classN
  by_cases h : expOf x = 2047
  · rw [if_pos h, h]; split <;> rfl
  · rw [if_neg h]
    have : (expOf x == 2047) = false := by simpa using h
    rw [this]
    split
    · split <;> rfl
    · rfl
set_option maxHeartbeats 400000 in
theorem rfinite_any (x : Nat) (w : World) (hx : x < 18446744073709551616) :
    Calls Tryz.prog 59 #[.float .f64 x] w fun r w' => r = .returned (.bool (!(expOf x == 2047))) ∧ w' = w := by
  go_enter Tryz.func59, Tryz.ntmps59
  go_wp2_with fail
  refine (rclass_any x _ hx).mono ?_
  rintro r w' ⟨rfl, rfl⟩
  go_wp2_with fail
  go_ret
  exact ⟨ret_bool (class_fin x), rfl⟩
end Go.Proofs.YtijadahpddmhjaaGreatDoor
