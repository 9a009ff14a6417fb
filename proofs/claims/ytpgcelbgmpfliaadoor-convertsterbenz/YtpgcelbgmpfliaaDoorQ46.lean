
/- What convert's addition gives of any two finite numbers: their exact sum, rounded once. -/
import Derived.Test.YtpgcelbgmpfliaaDoorQ44
import Derived.Test.YtpgcelbgmpfliaaDoorQ45
namespace Go.Proofs.YtpgcelbgmpfliaaDoor
open Go Go.RowKit Go.IntWalk

theorem flip_mod32 (x : Nat) (hx : x < 4294967296) : flip32 x % 2147483648 = x % 2147483648 ∧ decide (2147483648 ≤ flip32 x) = !decide (2147483648 ≤ x) ∧ flip32 x < 4294967296 := by
  unfold flip32
  by_cases h : 2147483648 ≤ x
  · rw [if_pos h, decide_eq_true h]; exact ⟨by omega, decide_eq_false (by omega), by omega⟩
  · rw [if_neg h, decide_eq_false h]; exact ⟨by omega, decide_eq_true (by omega), by omega⟩
theorem three_pow (a b c n : Nat) (h : n < 2 ^ a * 2 ^ b) : n * 2 ^ c ≤ 2 ^ (a + b + c) := by
  rw [Nat.pow_add, Nat.pow_add]
  exact Nat.mul_le_mul_right _ (Nat.le_of_lt h)
theorem widen_nan (a : Nat) (h : 2139095040 < a % 2147483648) : widenOf a = 9221120237041090561 := by unfold widenOf; rw [if_pos h]
/-- A single that is no NaN, widened. -/
theorem widen_num (a : Nat) (ha : a < 4294967296) (hn : a % 2147483648 ≤ 2139095040) : widenOf a < 18446744073709551616 ∧ widenOf a % 9223372036854775808 ≤ 9218868437227405312 ∧ widenOf (flip32 a) = flipOf (widenOf a) ∧
    (a % 2147483648 < 2139095040 → Opp (widenOf a) (widenOf (flip32 a)) ∧ (sv (widenOf a)).natAbs ≤ 2 ^ (23 + 254 + kcl)) ∧ (a % 2147483648 = 2139095040 → widenOf a % 9223372036854775808 = 9218868437227405312) := by
  obtain ⟨f1, f2, f3⟩ := flip_mod32 a ha
  obtain ⟨s, hs⟩ : ∃ s, decide (2147483648 ≤ a) = s := ⟨_, rfl⟩
  unfold widenOf
  have hnn : ¬ 2139095040 < a % 2147483648 := by omega
  rw [f1, f2, hs, if_neg hnn, if_neg hnn]
  by_cases hi : a % 2147483648 = 2139095040
  · rw [if_pos hi, if_pos hi]
    obtain ⟨a1, _, a3⟩ := signN_mod s 9218868437227405312 (by decide)
    exact ⟨a3, by omega, (flip_sign s _ (by decide)).symm, fun c => by omega, fun _ => a1⟩
  · rw [if_neg hi, if_neg hi]
    obtain ⟨v1, v2⟩ := mag64_val (a % 2147483648) (by omega)
    obtain ⟨a1, _, a3⟩ := signN_mod s (mag64 (a % 2147483648)) (by omega)
    obtain ⟨b1, _, b3⟩ := signN_mod (!s) (mag64 (a % 2147483648)) (by omega)
    refine ⟨a3, by omega, (flip_sign s _ (by omega)).symm, fun _ => ⟨⟨a3, b3, by omega, by omega, ?_⟩, ?_⟩, fun c => absurd c hi⟩
    · rw [sv_sign s _ (by omega), sv_sign (!s) _ (by omega)]
      cases s
      · show -(nv (mag64 (a % 2147483648)) : Int) = -(nv (mag64 (a % 2147483648)) : Int)
        rfl
      · show (nv (mag64 (a % 2147483648)) : Int) = - -(nv (mag64 (a % 2147483648)) : Int)
        omega
    · rw [sv_abs, a1, v2]
      exact three_pow 23 254 kcl _ (nv32_top _ (by omega))
theorem add_nan (A B : Nat) (h : 9218868437227405312 < A % 9223372036854775808 ∨ 9218868437227405312 < B % 9223372036854775808) : FloatKind.f64.format.add A B = none := by
  unfold Ieee.Format.add
  rcases h with h | h
  · obtain ⟨s, t, e⟩ := read_nan A h
    rw [e]
    cases FloatKind.f64.format.read B <;> rfl
  · obtain ⟨s, t, e⟩ := read_nan B h
    rw [e]
    cases FloatKind.f64.format.read A <;> rfl
/-- A sum in which something is infinite. -/
theorem add_infinite (A B : Nat) (hA : A < 18446744073709551616) (hB : B < 18446744073709551616) (nA : A % 9223372036854775808 ≤ 9218868437227405312) (nB : B % 9223372036854775808 ≤ 9218868437227405312) (h : A % 9223372036854775808 = 9218868437227405312 ∨ B % 9223372036854775808 = 9218868437227405312) :
    (FloatKind.f64.format.add A B = none ∧ FloatKind.f64.format.add (flipOf A) (flipOf B) = none) ∨ ∃ s, FloatKind.f64.format.add A B = some (signN s 9218868437227405312) ∧ FloatKind.f64.format.add (flipOf A) (flipOf B) = some (signN (!s) 9218868437227405312) := by
  have winf : ∀ s, FloatKind.f64.format.write (.infinity s) = signN s 9218868437227405312 := fun s => by
    show FloatKind.f64.format.word s FloatKind.f64.format.infRung = _
    rw [word_sign, fmt_inf]
  unfold Ieee.Format.add
  rw [read_flip A hA, read_flip B hB]
  obtain ⟨s, hs⟩ : ∃ s, decide (9223372036854775808 ≤ A) = s := ⟨_, rfl⟩
  obtain ⟨t, ht⟩ : ∃ t, decide (9223372036854775808 ≤ B) = t := ⟨_, rfl⟩
  by_cases iA : A % 9223372036854775808 = 9218868437227405312
  · rw [read_inf A hA iA, hs]
    by_cases iB : B % 9223372036854775808 = 9218868437227405312
    · rw [read_inf B hB iB, ht]
      cases s <;> cases t
      · exact Or.inr ⟨false, congrArg some (winf false), congrArg some (winf true)⟩
      · exact Or.inl ⟨rfl, rfl⟩
      · exact Or.inl ⟨rfl, rfl⟩
      · exact Or.inr ⟨true, congrArg some (winf true), congrArg some (winf false)⟩
    · obtain ⟨n, q, eB, _⟩ := read_fin B hB (by omega)
      rw [eB]
      exact Or.inr ⟨s, congrArg some (winf s), congrArg some (winf (!s))⟩
  · obtain ⟨m, p, eA, _⟩ := read_fin A hA (by omega)
    have iB : B % 9223372036854775808 = 9218868437227405312 := by
      rcases h with h | h
      · exact absurd h iA
      · exact h
    rw [eA, read_inf B hB iB, ht]
    exact Or.inr ⟨t, congrArg some (winf t), congrArg some (winf (!t))⟩
theorem rn_pos (V : Nat) (h0 : V ≠ 0) : rnR V ≠ 0 := by
  have e : rnR V = rMag 53 (-1022) 1023 V (-1074) 0 false := near_rMag V h0
  rw [e]
  unfold rMag
  by_cases ho : rOver 53 (-1022) 1023 V (-1074) 0 false
  · rw [if_pos ho]
    have hb : bigM 53 1023 0 false = 9218868437227405312 := by decide +kernel
    rw [hb]; decide
  · rw [if_neg ho]
    obtain ⟨g1, g2, g3⟩ := rOver_not 53 (-1022) 1023 V (-1074) 0 false 53 rfl (by decide) (by decide) (by decide) ho
    have hs : rSteps 53 (-1022) V (-1074) 0 false ≠ 0 := by
      intro hz
      have hu := steps_zero 53 (-1022) V (-1074) 0 false (by decide) h0 hz
      have hu' : rUnit 53 (-1022) V (-1074) = -1074 := hu
      unfold rSteps stepQ at hz
      rw [hu'] at hz
      have hq : cutQ V (-1074 - -1074) = V := by unfold cutQ; rw [if_pos (by decide)]; show V * 2 ^ 0 = V; omega
      omega
    intro hz
    have hv := (good_val _ _ hs g1 g2 g3).2
    rw [hz, nv_zero] at hv
    exact Nat.mul_ne_zero hs (Nat.pos_iff_ne_zero.1 (Nat.two_pow_pos _)) hv.symm
/-- The nought of a sum that is 0. -/
theorem nought_any (A B : Nat) (mode : Int) (hA : A < 18446744073709551616) (hB : B < 18446744073709551616) (fA : A % 9223372036854775808 < 9218868437227405312) (fB : B % 9223372036854775808 < 9218868437227405312) (h : sv A + sv B = 0) : ∃ z, (z = 0 ∨ z = 2147483648) ∧ ∀ w, Calls Tryd.prog 61 #[.float .f64 A, .float .f64 B, .int .i64 mode] w fun r w' => r = .returned (.float .f32 z) ∧ Below w.heap.size w w' := by
  by_cases hc : (canonOf A == canonOf B) = true
  · have c1 : canonOf A = A := by unfold canonOf; rw [if_neg (by omega)]
    have c2 : canonOf B = B := by unfold canonOf; rw [if_neg (by omega)]
    have hAB : A = B := by rw [beq_iff_eq, c1, c2] at hc; exact hc
    have hz : A % 9223372036854775808 = 0 := (sv_zero_iff A).1 (by rw [← hAB] at h; omega)
    have e := sign_of A hA
    rw [hz] at e
    have hcv := narrow_conv (decide (9223372036854775808 ≤ A)) 0 0 (by decide) (by decide) (by rw [nv_zero, nv_zero32, Nat.zero_mul])
    rw [← e] at hcv
    refine ⟨signN32 (decide (9223372036854775808 ≤ A)) 0, ?_, fun w => noughtOf_same A B _ mode w hA hB hc (fun w => conv_run _ _ hcv w)⟩
    cases decide (9223372036854775808 ≤ A)
    · exact Or.inl rfl
    · exact Or.inr rfl
  · have hc' : (canonOf A == canonOf B) = false := by simpa using hc
    refine ⟨if mode = 4 then 2147483648 else 0, ?_, fun w => noughtOf_other A B mode w hA hB hc'⟩
    split
    · exact Or.inr rfl
    · exact Or.inl rfl
def Zer (X : Nat) : Prop := X = 0 ∨ X = 2147483648
theorem add_pair (a b : Nat) (mode : Int) (ha : a < 4294967296) (hb : b < 4294967296) : ∃ X X' Y, (Mir X X' ∨ Zer X ∧ Zer X') ∧
    (∀ w, Tab w → 1 < w.heap.size → Calls Tryd.prog 37 #[.float .f64 (widenOf a), .float .f64 (widenOf b), .int .i64 mode] w fun e w' => e = .returned (.tuple #[.float .f32 X, .int .i64 Y]) ∧ Below w.heap.size w w') ∧
    (∀ w, Tab w → 1 < w.heap.size → Calls Tryd.prog 37 #[.float .f64 (widenOf (flip32 a)), .float .f64 (widenOf (flip32 b)), .int .i64 (turnM mode)] w fun e w' => e = .returned (.tuple #[.float .f32 X', .int .i64 Y]) ∧ Below w.heap.size w w') := by
  have nanw : 9218868437227405312 < (9221120237041090561 : Nat) % 9223372036854775808 := by decide
  have lt : ∀ c, c < 4294967296 → widenOf c < 18446744073709551616 := by
    intro c hc
    by_cases hn : 2139095040 < c % 2147483648
    · rw [widen_nan c hn]; decide
    · exact (widen_num c hc (by omega)).1
  obtain ⟨fa1, _, fa3⟩ := flip_mod32 a ha
  obtain ⟨fb1, _, fb3⟩ := flip_mod32 b hb
  by_cases na : 2139095040 < a % 2147483648
  · have w1 := widen_nan a na
    have w2 := widen_nan (flip32 a) (by rw [fa1]; exact na)
    refine ⟨_, _, _, Or.inl (Or.inl ⟨rfl, rfl⟩), fun w _ _ => addition_nan _ _ mode w (lt a ha) (lt b hb) (Or.inl (by rw [w1]; exact nanw)) (add_nan _ _ (Or.inl (by rw [w1]; exact nanw))), fun w _ _ => addition_nan _ _ _ w (lt _ fa3) (lt _ fb3) (Or.inl (by rw [w2]; exact nanw)) (add_nan _ _ (Or.inl (by rw [w2]; exact nanw)))⟩
  by_cases nb : 2139095040 < b % 2147483648
  · have w1 := widen_nan b nb
    have w2 := widen_nan (flip32 b) (by rw [fb1]; exact nb)
    refine ⟨_, _, _, Or.inl (Or.inl ⟨rfl, rfl⟩), fun w _ _ => addition_nan _ _ mode w (lt a ha) (lt b hb) (Or.inr (by rw [w1]; exact nanw)) (add_nan _ _ (Or.inr (by rw [w1]; exact nanw))), fun w _ _ => addition_nan _ _ _ w (lt _ fa3) (lt _ fb3) (Or.inr (by rw [w2]; exact nanw)) (add_nan _ _ (Or.inr (by rw [w2]; exact nanw)))⟩
  obtain ⟨la, ma, ea, pa, qa⟩ := widen_num a ha (by omega)
  obtain ⟨lb, mb, eb, pb, qb⟩ := widen_num b hb (by omega)
  by_cases hi : a % 2147483648 = 2139095040 ∨ b % 2147483648 = 2139095040
  · rw [ea, eb]
    have hi' : widenOf a % 9223372036854775808 = 9218868437227405312 ∨ widenOf b % 9223372036854775808 = 9218868437227405312 := by
      rcases hi with h | h
      · exact Or.inl (qa h)
      · exact Or.inr (qb h)
    obtain ⟨ga, _⟩ := flip_mod _ la
    obtain ⟨gb, _⟩ := flip_mod _ lb
    rcases add_infinite _ _ la lb ma mb hi' with ⟨h1, h2⟩ | ⟨s, h1, h2⟩
    · exact ⟨_, _, _, Or.inl (Or.inl ⟨rfl, rfl⟩), fun w _ _ => addition_bad _ _ mode w la lb ma mb h1, fun w _ _ => addition_bad _ _ _ w (flip_lt la) (flip_lt lb) (by omega) (by omega) h2⟩
    · obtain ⟨a1, _, a3⟩ := signN_mod s 9218868437227405312 (by decide)
      obtain ⟨b1, _, b3⟩ := signN_mod (!s) 9218868437227405312 (by decide)
      exact ⟨_, _, _, Or.inl (Or.inr ⟨s, 2139095040, Nat.le_refl _, rfl, rfl⟩), fun w _ _ => addition_inf _ _ _ _ mode w la lb ma mb h1 a3 a1 (fun w => conv_run _ _ (narrow_inf s) w), fun w _ _ => addition_inf _ _ _ _ _ w (flip_lt la) (flip_lt lb) (by omega) (by omega) h2 b3 b1 (fun w => conv_run _ _ (narrow_inf (!s)) w)⟩
  · obtain ⟨oa, ba⟩ := pa (by omega)
    obtain ⟨ob, bb⟩ := pb (by omega)
    have hkc := kcl_is
    obtain ⟨k, hk⟩ : ∃ k, 23 + 254 + kcl = k := ⟨_, rfl⟩
    rw [hk] at ba bb
    obtain ⟨s, s', e1, e2, os, hodd⟩ := odd_pair _ _ _ _ k (by omega) oa ob ba bb
    by_cases h0 : s % 9223372036854775808 = 0
    · -- the sum is 0
      have hz : sv (widenOf a) + sv (widenOf b) = 0 := by
        obtain ⟨sg, e3, _⟩ := add_val _ _ oa.1 ob.1 oa.2.2.1 ob.2.2.1
        rw [e1] at e3
        have e4 := Option.some.inj e3
        apply Classical.byContradiction
        intro hc
        have hp := rn_pos (sv (widenOf a) + sv (widenOf b)).natAbs (by omega)
        have hl := (rn_bound _ (k + 1) (pow_two_add _ _ k ba bb).1 (by omega)).1
        have := (signN_mod sg (rnR (sv (widenOf a) + sv (widenOf b)).natAbs) (by omega)).1
        rw [← e4] at this
        omega
      have hz' : sv (widenOf (flip32 a)) + sv (widenOf (flip32 b)) = 0 := by rw [oa.2.2.2.2, ob.2.2.2.2]; omega
      have h0' : s' % 9223372036854775808 = 0 := (sv_zero_iff s').1 (by rw [os.2.2.2.2, (sv_zero_iff s).2 h0]; rfl)
      obtain ⟨z, hz1, hz2⟩ := nought_any _ _ mode oa.1 ob.1 oa.2.2.1 ob.2.2.1 hz
      obtain ⟨z', hz1', hz2'⟩ := nought_any _ _ (turnM mode) oa.2.1 ob.2.1 oa.2.2.2.1 ob.2.2.2.1 hz'
      exact ⟨z, z', 0, Or.inr ⟨hz1, hz1'⟩, fun w _ _ => addition_zero _ _ s z mode w oa.1 ob.1 os.1 (Nat.le_of_lt oa.2.2.1) (Nat.le_of_lt ob.2.2.1) h0 e1 hz2, fun w _ _ => addition_zero _ _ s' z' _ w oa.2.1 ob.2.1 os.2.1 (Nat.le_of_lt oa.2.2.2.1) (Nat.le_of_lt ob.2.2.2.1) h0' e2 hz2'⟩
    · obtain ⟨X, hX, c1, c2⟩ := hodd h0
      have hfl := opp_flip s s' os h0
      obtain ⟨g1, g2⟩ := narrow_flip X mode hX
      refine ⟨_, _, _, Or.inl g1, fun w hT hs => addition_odd _ _ s X mode w oa.1 ob.1 (Nat.le_of_lt oa.2.2.1) (Nat.le_of_lt ob.2.2.1) e1 os.1 os.2.2.1 h0 hX c1 hT hs, fun w hT hs => ?_⟩
      have := addition_odd _ _ s' (flipOf X) (turnM mode) w oa.2.1 ob.2.1 (Nat.le_of_lt oa.2.2.2.1) (Nat.le_of_lt ob.2.2.2.1) e2 os.2.1 os.2.2.2.1 (by rw [hfl, (flip_mod s os.1).1]; exact h0) (flip_lt hX) c2 hT hs
      rw [g2] at this
      exact this
end Go.Proofs.YtpgcelbgmpfliaaDoor

namespace Go.Proofs.YtpgcelbgmpfliaaDoor
open Go.RowKit Go.IntWalk

theorem next_sign (s : Bool) (W : Nat) (h0 : W ≠ 0) (h1 : W < 9218868437227405312) : nextOf (signN s W) = signN s (if s then W - 1 else W + 1) ∧ prevOf (signN s W) = signN s (if s then W + 1 else W - 1) := by
  have hnx : ∀ t, nextOf (signN t W) = signN t (if t then W - 1 else W + 1) := by
    intro t
    have c1 : canonOf (signN t W) = signN t W := canon_sign t W (by omega)
    unfold nextOf
    rw [c1]
    cases t
    · show (if W = 9221120237041090561 ∨ W = 9218868437227405312 then W else if W = 9223372036854775808 then 1 else if 9223372036854775808 ≤ W then W - 1 else W + 1) = W + 1
      rw [if_neg (by omega), if_neg (by omega), if_neg (by omega)]
    · show (if W + 9223372036854775808 = 9221120237041090561 ∨ W + 9223372036854775808 = 9218868437227405312 then W + 9223372036854775808 else if W + 9223372036854775808 = 9223372036854775808 then 1 else if 9223372036854775808 ≤ W + 9223372036854775808 then W + 9223372036854775808 - 1 else W + 9223372036854775808 + 1) = W - 1 + 9223372036854775808
      rw [if_neg (by omega), if_neg (by omega), if_pos (by omega)]
      omega
  refine ⟨hnx s, ?_⟩
  obtain ⟨a1, _, a3⟩ := signN_mod (!s) W (by omega)
  have p := (prev_flip (signN (!s) W) a3 (by omega)).1
  rw [flip_sign (!s) W (by omega), hnx (!s), flip_sign (!s) _ (by split <;> omega), Bool.not_not] at p
  rw [p]
  cases s <;> rfl
theorem len_dN (V k : Nat) (hk : k ≤ 2000) (hV : V ≤ 2 ^ k) : dN V < 2040 := by
  have h : V < 2 ^ (k + 1) := by
    rw [Nat.pow_succ]
    have := Nat.two_pow_pos k
    omega
  have := bitLen_le V (k + 1) h
  unfold dN
  omega
theorem odd_pick (v : Int) (V W Q O l : Nat) (hV : v.natAbs = V) (o1 : Q = V → O = W) (o2 : Q ≠ V → W % 2 = 1 → O = W) (o3 : W % 2 ≠ 1 → Q < V → O = W + 1) (o4 : W % 2 ≠ 1 → V < Q → O + 1 = W) (hlz : l % 9223372036854775808 = 0 ↔ v - (if v < 0 then -(Q : Int) else (Q : Int)) = 0) :
    (if l % 9223372036854775808 = 0 ∨ W % 2 = 1 then signN (decide (v < 0)) W else if 0 < v - (if v < 0 then -(Q : Int) else (Q : Int)) then signN (decide (v < 0)) (if decide (v < 0) = true then W - 1 else W + 1) else signN (decide (v < 0)) (if decide (v < 0) = true then W + 1 else W - 1)) = signN (decide (v < 0)) O := by
  by_cases hneg : v < 0
  · rw [if_pos hneg] at hlz
    rw [decide_eq_true hneg, if_pos hneg]
    simp only [if_true]
    by_cases c : l % 9223372036854775808 = 0 ∨ W % 2 = 1
    · rw [if_pos c]
      congr 1
      by_cases c2 : Q = V
      · exact (o1 c2).symm
      · exact (o2 c2 (by rcases c with c | c; · (have := hlz.1 c; omega)
                         · exact c)).symm
    · rw [if_neg c]
      have c1 : ¬ W % 2 = 1 := fun h => c (Or.inr h)
      have c3 := fun h => c (Or.inl (hlz.2 h))
      by_cases g : 0 < v - -(Q : Int)
      · rw [if_pos g]
        congr 1
        have := o4 c1 (by omega)
        omega
      · rw [if_neg g]
        congr 1
        have := o3 c1 (by omega)
        omega
  · rw [if_neg hneg] at hlz
    rw [decide_eq_false hneg, if_neg hneg]
    simp only [Bool.false_eq_true, if_false]
    by_cases c : l % 9223372036854775808 = 0 ∨ W % 2 = 1
    · rw [if_pos c]
      congr 1
      by_cases c2 : Q = V
      · exact (o1 c2).symm
      · exact (o2 c2 (by rcases c with c | c; · (have := hlz.1 c; omega)
                         · exact c)).symm
    · rw [if_neg c]
      have c1 : ¬ W % 2 = 1 := fun h => c (Or.inr h)
      have c3 := fun h => c (Or.inl (hlz.2 h))
      by_cases g : 0 < v - (Q : Int)
      · rw [if_pos g]
        congr 1
        have := o3 c1 (by omega)
        omega
      · rw [if_neg g]
        congr 1
        have := o4 c1 (by omega)
        omega
theorem odd_full (A B k : Nat) (a b : Int) (hk : k + 6 ≤ 2000) (hA : Fin64 A a) (hB : Fin64 B b) (ba : a.natAbs ≤ 2 ^ k) (bb : b.natAbs ≤ 2 ^ k) (hV : a + b ≠ 0) :
    FloatKind.f64.format.add A B = some (signN (decide (a + b < 0)) (rnR (a + b).natAbs)) ∧ rnR (a + b).natAbs < 9218868437227405312 ∧ rnR (a + b).natAbs ≠ 0 ∧ oddW (a + b).natAbs < 9218868437227405312 ∧ oddW (a + b).natAbs ≠ 0 ∧
    (∀ w, Calls Tryd.prog 63 #[.float .f64 A, .float .f64 B] w fun r w' => r = .returned (.float .f64 (signN (decide (a + b < 0)) (oddW (a + b).natAbs))) ∧ Below w.heap.size w w') := by
  have hn0 : (a + b).natAbs ≠ 0 := by omega
  have hF := two_sum a b (by obtain ⟨_, _, rfl⟩ := hA; exact Fz_sv A) (by obtain ⟨_, _, rfl⟩ := hB; exact Fz_sv B)
  obtain ⟨s, e1, hs⟩ := add_val A B hA.1 hB.1 hA.2.1 hB.2.1
  rw [hA.2.2, hB.2.2] at e1 hs
  have hb1 := (pow_two_add a b k ba bb).1
  obtain ⟨f1, f2⟩ := fin_rz s (a + b) (k + 1) (by omega) hb1 hs
  rw [hs hV] at e1 f1
  obtain ⟨r1, r2⟩ := rn_bound (a + b).natAbs (k + 1) hb1 (by omega)
  have r0 := rn_pos (a + b).natAbs hn0
  obtain ⟨o1, o2, o3, o4, o5, o6⟩ := odd_word (a + b).natAbs hn0 r1 (len_dN _ (k + 1) (by omega) hb1)
  refine ⟨e1, r1, r0, o5, o6, ?_⟩
  obtain ⟨bk, e2, f3, b3⟩ := sub_fin _ A (k + 1) _ a (by omega) f1 hA f2 (le_pow_succ ba)
  obtain ⟨t1, e3, f4, b4⟩ := sub_fin _ bk (k + 2) _ _ (by omega) f1 f3 (le_pow_succ f2) b3
  obtain ⟨t2, e4, f5, b5⟩ := sub_fin A t1 (k + 3) _ _ (by omega) hA f4 (le_pow_succ (le_pow_succ (le_pow_succ ba))) b4
  obtain ⟨t3, e5, f6, b6⟩ := sub_fin B bk (k + 2) _ _ (by omega) hB f3 (le_pow_succ (le_pow_succ bb)) b3
  obtain ⟨l, e6, f7, _⟩ := add_fin t2 t3 (k + 4) _ _ (by omega) f5 f6 b5 (le_pow_succ b6)
  rw [hF.1] at f7
  intro w
  have z1 := order_zero l f7.1
  have g1 := order_zero_gt l f7.1 (Nat.le_of_lt f7.2.1)
  have d1 := and_one _ f1.1
  refine (oddSum_core A B _ bk t1 t2 t3 l _ _ _ w e1 e2 e3 e4 e5 e6 z1 d1 g1 f1.1).mono ?_
  rintro r w' ⟨rfl, hb⟩
  refine ⟨ret_f ?_, hb⟩
  simp only [decide_eq_true_eq]
  have hlz : l % 9223372036854775808 = 0 ↔ a + b - rz (a + b) = 0 := by rw [← sv_zero_iff, f7.2.2]
  rw [f7.2.2]
  obtain ⟨n1, n2⟩ := next_sign (decide (a + b < 0)) (rnR (a + b).natAbs) r0 r1
  have hpar : signN (decide (a + b < 0)) (rnR (a + b).natAbs) % 2 = rnR (a + b).natAbs % 2 := by unfold signN; split <;> omega
  rw [hpar, n1, n2]
  have hrz : rz (a + b) = if a + b < 0 then -((rnv (a + b).natAbs : Nat) : Int) else ((rnv (a + b).natAbs : Nat) : Int) := rfl
  rw [hrz] at hlz ⊢
  exact odd_pick (a + b) _ _ _ _ l rfl o1 o2 o3 o4 hlz
/-- The sum of two finite numbers that is not 0, rounded once. -/
theorem addition_full (A B k : Nat) (a b mode : Int) (w : World) (hk : k + 6 ≤ 2000) (hA : Fin64 A a) (hB : Fin64 B b) (ba : a.natAbs ≤ 2 ^ k) (bb : b.natAbs ≤ 2 ^ k) (hV : a + b ≠ 0) (hT : Tab w) (hs : 1 < w.heap.size) :
    Calls Tryd.prog 37 #[.float .f64 A, .float .f64 B, .int .i64 mode] w fun e w' => e = .returned (.tuple #[.float .f32 (signN32 (decide (a + b < 0)) (nMag (a + b).natAbs (-1074) mode (decide (a + b < 0)))), .int .i64 (rFlag 24 (-126) 127 (a + b).natAbs (-1074) mode (decide (a + b < 0)))]) ∧ Below w.heap.size w w' := by
  obtain ⟨e1, r1, r0, o5, o6, ho⟩ := odd_full A B k a b hk hA hB ba bb hV
  obtain ⟨a1, a2, a3⟩ := signN_mod (decide (a + b < 0)) (rnR (a + b).natAbs) (by omega)
  obtain ⟨n1, n2⟩ := narrow_odd (a + b).natAbs (decide (a + b < 0)) mode (by omega) o5 o6
  have := addition_odd A B _ _ mode w hA.1 hB.1 (Nat.le_of_lt hA.2.1) (Nat.le_of_lt hB.2.1) e1 a3 (by rw [a1]; exact r1) (by rw [a1]; exact r0) (signN_mod (decide (a + b < 0)) (oddW (a + b).natAbs) (by omega)).2.2 ho hT hs
  rw [n1, n2] at this
  exact this
/-- The sum of two finite numbers that is 0. -/
theorem addition_nil (A B : Nat) (a b mode : Int) (hA : Fin64 A a) (hB : Fin64 B b) (hV : a + b = 0) : ∃ z, (z = 0 ∨ z = 2147483648) ∧ ∀ w,
    Calls Tryd.prog 37 #[.float .f64 A, .float .f64 B, .int .i64 mode] w fun e w' => e = .returned (.tuple #[.float .f32 z, .int .i64 0]) ∧ Below w.heap.size w w' := by
  obtain ⟨z, hz, hn⟩ := nought_any A B mode hA.1 hB.1 hA.2.1 hB.2.1 (by rw [hA.2.2, hB.2.2]; exact hV)
  obtain ⟨s, e1, _⟩ := add_val A B hA.1 hB.1 hA.2.1 hB.2.1
  have e0 : (sv A + sv B).natAbs = 0 := by rw [hA.2.2, hB.2.2, hV]; rfl
  have e2 : rnR 0 = 0 := by unfold rnR; rw [nearest_zero, word_false]
  rw [e0, e2] at e1
  obtain ⟨a1, _, a3⟩ := signN_mod s 0 (by decide)
  exact ⟨z, hz, fun w => addition_zero A B _ z mode w hA.1 hB.1 a3 (Nat.le_of_lt hA.2.1) (Nat.le_of_lt hB.2.1) a1 e1 hn⟩
end Go.Proofs.YtpgcelbgmpfliaaDoor
