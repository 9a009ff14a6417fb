
/- What eft's Two, Split and Prod do where each step has an answer; Canon. -/
import Derived.Test.YteidllapjokhlaaDoorP10
import Derived.Test.YteidllapjokhlaaDoorP7
import Derived.Test.YteidllapjokhlaaDoorP2
namespace Go.Proofs.YteidllapjokhlaaDoor
open Go.RowKit Go.IntWalk

set_option maxHeartbeats 400000 in
theorem Canon_any (x : Nat) (w : World) (hx : x < 18446744073709551616) :
    Calls Tryd.prog 35 #[.float .f64 x] w fun r w' => r = .returned (.float .f64 (canonOf x)) ∧ Below w.heap.size w w' := by
  have h1 := f64bits
  have h2 := f64from
  go_enter Tryd.func35, Tryd.ntmps35
  go_wp2_with fail
  refine (layout64_any _).mono ?_
  rintro r w1 ⟨rfl, hb⟩
  go_wp2_with fail
  refine (canon_any x _ hx).mono ?_
  rintro r w2 ⟨rfl, hb2⟩
  go_wp2_with fail
  go_ret
  exact ⟨rfl, bl_then hb hb2⟩
theorem f_add {x y z : Nat} (h : FloatKind.f64.format.add x y = some z) (w : World) : (binOp .add 27 (.float .f64 x) (.float .f64 y)).run Tryd.prog w = .ok (.float .f64 z) w := run_float_arith w .add _ .f64 x y z h
theorem f_sub {x y z : Nat} (h : FloatKind.f64.format.sub x y = some z) (w : World) : (binOp .sub 27 (.float .f64 x) (.float .f64 y)).run Tryd.prog w = .ok (.float .f64 z) w := run_float_arith w .sub _ .f64 x y z h
theorem f_mul {x y z : Nat} (h : FloatKind.f64.format.mul x y = some z) (w : World) : (binOp .mul 27 (.float .f64 x) (.float .f64 y)).run Tryd.prog w = .ok (.float .f64 z) w := run_float_arith w .mul _ .f64 x y z h
set_option maxHeartbeats 1000000 in
theorem Two_at (a b s t e1 e2 e3 e : Nat) (w : World) (h1 : FloatKind.f64.format.add a b = some s) (h2 : FloatKind.f64.format.sub s a = some t) (h3 : FloatKind.f64.format.sub s t = some e1) (h4 : FloatKind.f64.format.sub a e1 = some e2) (h5 : FloatKind.f64.format.sub b t = some e3) (h6 : FloatKind.f64.format.add e2 e3 = some e) (hs : s < 18446744073709551616) (he : e < 18446744073709551616) :
    Calls Tryd.prog 14 #[.float .f64 a, .float .f64 b] w fun r w' => r = .returned (.tuple #[.float .f64 (canonOf s), .float .f64 (canonOf e)]) ∧ Below w.heap.size w w' := by
  have g1 := f_add h1
  have g2 := f_sub h2
  have g3 := f_sub h3
  have g4 := f_sub h4
  have g5 := f_sub h5
  have g6 := f_add h6
  have HC1 := hid (fun (W : World) => Canon_any s W hs)
  have HC2 := hid (fun (W : World) => Canon_any e W he)
  obtain ⟨S, hS⟩ : ∃ S, Hid (canonOf s = S) := ⟨_, rfl⟩
  obtain ⟨E, hE⟩ : ∃ E, Hid (canonOf e = E) := ⟨_, rfl⟩
  rw [hS.out] at HC1 ⊢
  rw [hE.out] at HC2 ⊢
  clear h1 h2 h3 h4 h5 h6 hs he
  go_enter Tryd.func14, Tryd.ntmps14
  go_wp2_with fail
  refine (HC1.out _).mono ?_
  rintro r w1 ⟨rfl, hb1⟩
  have HB1 := hid hb1
  clear hb1
  go_wp2_with fail
  refine (HC2.out _).mono ?_
  rintro r w2 ⟨rfl, hb2⟩
  have HB2 := hid (HB1.out.trans (hb2.mono HB1.out.size))
  clear hb2
  go_wp2
  go_ret2
  exact ⟨rfl, HB2.out⟩
set_option maxHeartbeats 1000000 in
theorem Split_at (a c d h l : Nat) (w : World) (h1 : FloatKind.f64.format.mul 4728779608772575232 a = some c) (h2 : FloatKind.f64.format.sub c a = some d) (h3 : FloatKind.f64.format.sub c d = some h) (h4 : FloatKind.f64.format.sub a h = some l) (hs : h < 18446744073709551616) (he : l < 18446744073709551616) :
    Calls Tryd.prog 21 #[.float .f64 a] w fun r w' => r = .returned (.tuple #[.float .f64 (canonOf h), .float .f64 (canonOf l)]) ∧ Below w.heap.size w w' := by
  have g1 := f_mul h1
  have g2 := f_sub h2
  have g3 := f_sub h3
  have g4 := f_sub h4
  have HC1 := hid (fun (W : World) => Canon_any h W hs)
  have HC2 := hid (fun (W : World) => Canon_any l W he)
  obtain ⟨S, hS⟩ : ∃ S, Hid (canonOf h = S) := ⟨_, rfl⟩
  obtain ⟨E, hE⟩ : ∃ E, Hid (canonOf l = E) := ⟨_, rfl⟩
  rw [hS.out] at HC1 ⊢
  rw [hE.out] at HC2 ⊢
  clear h1 h2 h3 h4 hs he
  go_enter Tryd.func21, Tryd.ntmps21
  go_wp2_with fail
  refine (HC1.out _).mono ?_
  rintro r w1 ⟨rfl, hb1⟩
  have HB1 := hid hb1
  clear hb1
  go_wp2_with fail
  refine (HC2.out _).mono ?_
  rintro r w2 ⟨rfl, hb2⟩
  have HB2 := hid (HB1.out.trans (hb2.mono HB1.out.size))
  clear hb2
  go_wp2
  go_ret2
  exact ⟨rfl, HB2.out⟩
set_option maxHeartbeats 1000000 in
theorem Prod_at (a b p h l i k q1 q2 q3 q4 q5 q6 q7 e : Nat) (w : World) (h1 : FloatKind.f64.format.mul a b = some p)
    (hA : ∀ W, Calls Tryd.prog 21 #[.float .f64 a] W fun r w' => r = .returned (.tuple #[.float .f64 h, .float .f64 l]) ∧ Below W.heap.size W w')
    (hB : ∀ W, Calls Tryd.prog 21 #[.float .f64 b] W fun r w' => r = .returned (.tuple #[.float .f64 i, .float .f64 k]) ∧ Below W.heap.size W w')
    (h2 : FloatKind.f64.format.mul l k = some q1) (h3 : FloatKind.f64.format.mul h i = some q2) (h4 : FloatKind.f64.format.sub p q2 = some q3) (h5 : FloatKind.f64.format.mul l i = some q4) (h6 : FloatKind.f64.format.sub q3 q4 = some q5) (h7 : FloatKind.f64.format.mul h k = some q6) (h8 : FloatKind.f64.format.sub q5 q6 = some q7) (h9 : FloatKind.f64.format.sub q1 q7 = some e) (hs : p < 18446744073709551616) (he : e < 18446744073709551616) :
    Calls Tryd.prog 25 #[.float .f64 a, .float .f64 b] w fun r w' => r = .returned (.tuple #[.float .f64 (canonOf p), .float .f64 (canonOf e)]) ∧ Below w.heap.size w w' := by
  have g1 := f_mul h1
  have g2 := f_mul h2
  have g3 := f_mul h3
  have g4 := f_sub h4
  have g5 := f_mul h5
  have g6 := f_sub h6
  have g7 := f_mul h7
  have g8 := f_sub h8
  have g9 := f_sub h9
  have HA := hid hA
  have HBB := hid hB
  have HC1 := hid (fun (W : World) => Canon_any p W hs)
  have HC2 := hid (fun (W : World) => Canon_any e W he)
  obtain ⟨S, hS⟩ : ∃ S, Hid (canonOf p = S) := ⟨_, rfl⟩
  obtain ⟨E, hE⟩ : ∃ E, Hid (canonOf e = E) := ⟨_, rfl⟩
  rw [hS.out] at HC1 ⊢
  rw [hE.out] at HC2 ⊢
  clear h1 h2 h3 h4 h5 h6 h7 h8 h9 hs he hA hB
  go_enter Tryd.func25, Tryd.ntmps25
  go_wp2_with fail
  refine (HA.out _).mono ?_
  rintro r w1 ⟨rfl, hb1⟩
  have HB1 := hid hb1
  clear hb1
  go_wp2_with fail
  refine (HBB.out _).mono ?_
  rintro r w2 ⟨rfl, hb2⟩
  have HB2 := hid (HB1.out.trans (hb2.mono HB1.out.size))
  clear hb2
  go_wp2_with fail
  refine (HC1.out _).mono ?_
  rintro r w3 ⟨rfl, hb3⟩
  have HB3 := hid (HB2.out.trans (hb3.mono HB2.out.size))
  clear hb3
  go_wp2_with fail
  refine (HC2.out _).mono ?_
  rintro r w4 ⟨rfl, hb4⟩
  have HB4 := hid (HB3.out.trans (hb4.mono HB3.out.size))
  clear hb4
  go_wp2
  go_ret2
  exact ⟨rfl, HB4.out⟩
end Go.Proofs.YteidllapjokhlaaDoor

namespace Go.Proofs.YteidllapjokhlaaDoor
open Go.RowKit Go.IntWalk

theorem o1 : (FloatKind.f64.format.order 4607182418800017408 0 == some .eq) = false ∧ (FloatKind.f64.format.order 4607182418800017408 4607182418800017408 != some .eq) = false ∧ (FloatKind.f64.format.order 4607182418800017408 9218868437227405311 == some .gt) = false ∧ (FloatKind.f64.format.order 4607182418800017408 4503599627370496 == some .lt) = false := by decide +kernel
theorem f64fromI3 (n : Int) (w : World) : (callFunc 30 #[.int .u64 n]).run Tryd.prog w = .ok (.value (.float .f64 n.toNat)) w := by
  rw [run_callFunc_extern Tryd.func30 (by kernel_rfl) (by kernel_rfl) (by kernel_rfl) (e := Extern.MathFloatBits.float64frombits) (by kernel_rfl)]; rfl
theorem bt1 : bits .andNot .u64 4607182418800017408 9223372036854775808 = 4607182418800017408 ∧ bits .and .i64 1023 2047 = 1023 ∧ bits .andNot .u64 4607182418800017408 9218868437227405312 = 0 ∧ bits .or .u64 0 4877398396442247168 = 4877398396442247168 := by decide +kernel
set_option maxHeartbeats 1000000 in
theorem abs_one (w : World) : Calls Tryd.prog 18 #[.float .f64 4607182418800017408] w fun r w' => r = .returned (.float .f64 4607182418800017408) ∧ w' = w := by
  have h1 := f64bits
  have h2 := f64fromI3
  obtain ⟨b1, _⟩ := bt1
  go_enter Tryd.func18, Tryd.ntmps18
  go_wp2
  go_ret
  exact ⟨rfl, rfl⟩
set_option maxHeartbeats 1000000 in
theorem ldexp_60 (w : World) : Calls Tryd.prog 59 #[.float .f64 4607182418800017408, .int .i64 60] w fun r w' => r = .returned (.float .f64 4877398396442247168) ∧ w' = w := by
  obtain ⟨g1, g2, g3, g4⟩ := o1
  obtain ⟨b1, b2, b3, b4⟩ := bt1
  have h1 := f64bits
  have h2 := f64fromI3
  have hm := f_mul (x := 4607182418800017408) (y := 4877398396442247168) (z := 4877398396442247168) (by decide +kernel)
  have c0 : wrap64 0 = 0 := by decide +kernel
  have c1 : wrap64 60 = 60 := by decide +kernel
  go_enter Tryd.func59, Tryd.ntmps59
  go_wp2
  go_ret
  exact ⟨rfl, rfl⟩
set_option maxHeartbeats 1000000 in
theorem Ldexp_60 (w : World) : Calls Tryd.prog 34 #[.float .f64 4607182418800017408, .int .i64 60] w fun r w' => r = .returned (.float .f64 4877398396442247168) ∧ w' = w := by
  go_enter Tryd.func34, Tryd.ntmps34
  go_wp2_with fail
  refine (ldexp_60 _).mono ?_
  rintro r w1 ⟨rfl, rfl⟩
  go_wp2
  go_ret
  exact ⟨rfl, rfl⟩
end Go.Proofs.YteidllapjokhlaaDoor

namespace Go.Proofs.YteidllapjokhlaaDoor
open Go.RowKit Go.IntWalk

/-- Below the last zero a halved mantissa is even, and not 0. -/
theorem half_even (m : Nat) (h0 : m ≠ 0) (hm : m < 18446744073709551616) (k : Nat) (hk : k < tzOf m) : m / 2 ^ k ≠ 0 ∧ m / 2 ^ k % 2 = 0 ∧ m / 2 ^ (k + 1) = m / 2 ^ k / 2 := by
  obtain ⟨q, _, hmq⟩ := odd_spec m h0 hm
  obtain ⟨tz, htz⟩ : ∃ tz, tzOf m = tz := ⟨_, rfl⟩
  rw [htz] at hmq hk
  have e0 : tz = k + (tz - k - 1 + 1) := by omega
  have e1 : m / 2 ^ k = 2 * (2 ^ (tz - k - 1) * (2 * q + 1)) := by
    rw [hmq, e0, Nat.pow_add, Nat.mul_assoc, Nat.mul_div_cancel_left _ (Nat.two_pow_pos k), Nat.pow_succ, Nat.mul_comm (2 ^ _) 2, Nat.mul_assoc]
    congr 3
    omega
  have e2 : 2 ^ (tz - k - 1) * (2 * q + 1) ≠ 0 := Nat.mul_ne_zero (Nat.pos_iff_ne_zero.1 (Nat.two_pow_pos _)) (by omega)
  exact ⟨by omega, by omega, by rw [Nat.pow_succ, Nat.div_div_eq_div_mul]⟩
set_option maxHeartbeats 400000 in
theorem rodd_zero (e : Int) (w : World) :
    Calls Tryd.prog 65 #[.int .u64 0, .int .i64 e] w fun r w' => r = .returned (.tuple #[.int .u64 0, .int .i64 0]) ∧ w' = w := by
  go_enter Tryd.func65, Tryd.ntmps65
  go_wp2
  go_ret2
  exact ⟨rfl, rfl⟩
/-- What the loop has come to. -/
def OddR (m : Nat) (e c E : Int) : Prop := ∃ k : Nat, k ≤ tzOf m ∧ ((m / 2 ^ k : Nat) : Int) = c ∧ e + (k : Int) = E
set_option maxRecDepth 4000 in
set_option maxHeartbeats 800000 in
theorem rodd_any (m : Nat) (e : Int) (w : World) (hm : m < 18446744073709551616) (h0 : m ≠ 0) (he1 : -3000 ≤ e) (he2 : e ≤ 3000) :
    Calls Tryd.prog 65 #[.int .u64 m, .int .i64 e] w fun r w' => r = .returned (.tuple #[.int .u64 (oddOf m), .int .i64 (e + (tzOf m : Int))]) ∧ w' = w := by
  obtain ⟨q, hq, _⟩ := odd_spec m h0 hm
  have HT6 : Hid (tzOf m ≤ 63) := by have := (tz_spec m h0 hm).1; show tzOf m ≤ 63; omega
  have HSTEP : Hid (∀ c E, OddR m e c E → (0 ≤ c ∧ c ≤ 18446744073709551615 ∧ -3000 ≤ E ∧ E ≤ 3100 ∧ 0 ≤ E - e) ∧ ((c % 2 = 0 ∧ OddR m e (c / 2) (E + 1) ∧ E - e < 64) ∨ (c % 2 = 1 ∧ c = (oddOf m : Int) ∧ E = e + (tzOf m : Int)))) := by
    rintro c E ⟨k, hk, rfl, rfl⟩
    have h6 := HT6.out
    have h7 : m / 2 ^ k ≤ m := Nat.div_le_self _ _
    obtain ⟨d, hd⟩ : ∃ d, m / 2 ^ k = d := ⟨_, rfl⟩
    rw [hd] at h7 ⊢
    refine ⟨⟨by omega, by omega, by omega, by omega, by omega⟩, ?_⟩
    by_cases hlt : k < tzOf m
    · obtain ⟨g1, g2, g3⟩ := half_even m h0 hm k hlt
      rw [hd] at g1 g2 g3
      left
      refine ⟨by omega, ⟨k + 1, hlt, ?_, by omega⟩, by omega⟩
      rw [g3]
      omega
    · have hkz : k = tzOf m := by omega
      right
      have ho : d = oddOf m := by rw [← hd, hkz]; rfl
      rw [ho]
      exact ⟨by omega, rfl, by rw [hkz]⟩
  have HST : Hid (OddR m e (m : Int) e) := ⟨0, Nat.zero_le _, by rw [Nat.pow_zero, Nat.div_one], by omega⟩
  obtain ⟨M, hM⟩ : ∃ M : Int, Hid ((m : Int) = M) := ⟨_, rfl⟩
  obtain ⟨R1, hR1⟩ : ∃ M : Int, Hid ((oddOf m : Int) = M) := ⟨_, rfl⟩
  obtain ⟨R2, hR2⟩ : ∃ M : Int, Hid (e + (tzOf m : Int) = M) := ⟨_, rfl⟩
  have hM0 : ¬ M = 0 := by have := hM.out; omega
  rw [hM.out] at HST ⊢
  rw [hR1.out] at HSTEP ⊢
  rw [hR2.out] at HSTEP ⊢
  clear hm h0 hq he1 he2
  go_enter Tryd.func65, Tryd.ntmps65
  go_wp2
  go_loop [0, 1] (fun a b => ∃ c E : Int, Hid (OddR m e c E) ∧ a = .int .u64 c ∧ b = .int .i64 E) (fun _ b => 64 - (intOf b - e).toNat)
  case atStart => exact ⟨M, e, HST, rfl, rfl⟩
  case round =>
    obtain ⟨c, E, HR, rfl, rfl⟩ := hrel
    obtain ⟨⟨b1, b2, b3, b4, b5⟩, hcase⟩ := HSTEP.out c E HR.out
    rcases hcase with ⟨hev, hnx, hms⟩ | ⟨hod, rfl, rfl⟩
    · have HN := hid hnx
      have HMS := hid (And.intro hms b5)
      have ht1 : c.tmod 2 = 0 := by rw [Int.tmod_eq_emod_of_nonneg b1]; exact hev
      have ht2 : c.tdiv 2 = c / 2 := Int.tdiv_eq_ediv_of_nonneg b1
      have hw1 : IntKind.u64.wrap (c / 2) = c / 2 := by rw [IntKind.wrap_u64]; omega
      have hw2 : IntKind.i64.wrap (E + 1) = E + 1 := by rw [IntWalk.i64_in _ (by omega)]
      clear hnx hms
      go_wp2
      go_round
      case rel => exact ⟨c / 2, E + 1, HN, rfl, rfl⟩
      case measure => have := HMS.out; simp [intOf]; omega
    · have ht1 : ¬ c.tmod 2 = 0 := by rw [Int.tmod_eq_emod_of_nonneg b1]; omega
      go_wp2
      go_ret2
      exact ⟨rfl, rfl⟩
end Go.Proofs.YteidllapjokhlaaDoor
