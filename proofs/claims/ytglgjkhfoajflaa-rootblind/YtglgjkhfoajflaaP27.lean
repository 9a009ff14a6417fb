
/- Products with 1 and with noughts, sums with noughts, a number's mean with itself. No program is spoken of. -/
import Derived.Test.YtglgjkhfoajflaaP14
import Derived.Test.YtglgjkhfoajflaaP26
namespace Go.Proofs.Ytglgjkhfoajflaa
open Go Go.RowKit Go.IntWalk

def kQ : Nat := 1074
theorem rndq_nv (r : Nat) (hr : r < 9218868437227405312) : rndM (nv r) (-1074) = r := by
  by_cases h0 : nv r = 0
  · have : r = 0 := by
      apply Classical.byContradiction
      intro h
      have := nv_lt (r := 0) (s := r) (by omega)
      rw [nv_zero] at this
      omega
    rw [h0, this]
    unfold rndM
    rw [if_pos rfl]
  · have h := nearest_nv false (nv r) 0 r h0 hr (by rw [Nat.pow_zero, Nat.mul_one])
    rw [show (((0 : Nat) : Int) - 1074) = -1074 by omega, (near_rnd false _ _).1, word_false, signN_false] at h
    exact h
theorem Fzq_twice {a : Int} (h : Fz a) : Fz (2 * a) := by
  have hhi := dN_hi a.natAbs
  refine Fz_of _ (Dz a + 1) ?_ ?_
  · rw [Nat.pow_succ, Nat.mul_comm, Int.natCast_mul]
    exact Int.mul_dvd_mul (Int.dvd_refl _) h
  · rw [Nat.pow_succ]
    unfold Dz
    omega
theorem signq_sc {z P : Int} {T : Nat} (hT : 0 < T) (e : z = P * (T : Int)) : (z ≠ 0 ↔ P ≠ 0) ∧ (z < 0 ↔ P < 0) := by
  have hT' : (0 : Int) < T := by omega
  subst e
  refine ⟨⟨?_, ?_⟩, ⟨?_, ?_⟩⟩
  · intro h c; exact h (by rw [c, Int.zero_mul])
  · intro h c
    rcases Int.mul_eq_zero.1 c with c | c <;> omega
  · intro h
    by_cases c : P < 0
    · exact c
    · have := Int.mul_nonneg (by omega : 0 ≤ P) (Int.le_of_lt hT'); omega
  · intro h; exact Int.mul_neg_of_neg_of_pos h hT'
theorem finq_hlf (x : Nat) (a : Int) (hx : Fin64 x (2 * a)) : ∃ y, FloatKind.f64.format.div x 4611686018427387904 = some y ∧ Fin64 y a := by
  obtain ⟨x1, x2, x3⟩ := hx
  obtain ⟨q, e, q1, q2, q3⟩ := div_two x x1 x2
  rw [x3] at q3
  exact ⟨q, e, q1, q2, by omega⟩
theorem add_rndQ (x y : Nat) (hx : x < 18446744073709551616) (hy : y < 18446744073709551616) (fx : x % 9223372036854775808 < 9218868437227405312) (fy : y % 9223372036854775808 < 9218868437227405312) :
    FloatKind.f64.format.add x y = some (signN (if sv x + sv y = 0 then decide (9223372036854775808 ≤ x) && decide (9223372036854775808 ≤ y) else decide (sv x + sv y < 0)) (rndM (sv x + sv y).natAbs (-1074))) := by
  obtain ⟨m, p, ex, vx⟩ := read_fin x hx fx
  obtain ⟨n, q, ey, vy⟩ := read_fin y hy fy
  unfold Ieee.Format.add
  rw [ex, ey]
  obtain ⟨mag, b, e, hv⟩ := sum_val _ _ m n p q (sv x) (sv y) (sv_form x m p vx) (sv_form y n q vy)
  rw [e]
  show some (FloatKind.f64.format.nearest _ mag ((b : Int) - 1074)) = _
  have := rndM_sc mag b ((b : Int) - 1074)
  rw [hv, show (b : Int) - 1074 - (b : Int) = -1074 by omega] at this
  rw [(near_rnd _ mag _).1, this]
theorem svq_nv (x : Nat) : (sv x).natAbs = nv (x % 9223372036854775808) := by unfold sv; split <;> omega
theorem svq_zero (x : Nat) (h : sv x = 0) : x % 9223372036854775808 = 0 := by
  have := svq_nv x
  rw [h] at this
  exact nv_inj (this.symm.trans nv_zero.symm)
theorem svq_of (x : Nat) (h : x % 9223372036854775808 = 0) : sv x = 0 := by
  have := svq_nv x
  rw [h, nv_zero] at this
  omega
theorem svq_neg (x : Nat) (h : sv x ≠ 0) : sv x < 0 ↔ 9223372036854775808 ≤ x := by
  unfold sv at h ⊢
  split <;> rename_i c
  · rw [if_pos c] at h; constructor <;> intro _ <;> omega
  · rw [if_neg c] at h; constructor <;> intro _ <;> omega
theorem signq_of (x : Nat) (hx : x < 18446744073709551616) (s : Bool) (hs : s = decide (9223372036854775808 ≤ x)) : signN s (x % 9223372036854775808) = x := by
  rw [hs]
  unfold signN
  by_cases c : 9223372036854775808 ≤ x
  · simp [c]; omega
  · simp [c]; omega
theorem fin_inj {x y : Nat} {a : Int} (hx : Fin64 x a) (hy : Fin64 y a) (h0 : a ≠ 0) : x = y := by
  obtain ⟨x1, x2, x3⟩ := hx
  obtain ⟨y1, y2, y3⟩ := hy
  have e1 : x % 9223372036854775808 = y % 9223372036854775808 := nv_inj (by rw [← svq_nv, ← svq_nv, x3, y3])
  have k1 := svq_neg x (by rw [x3]; exact h0)
  have k2 := svq_neg y (by rw [y3]; exact h0)
  rw [x3] at k1
  rw [y3] at k2
  have k3 : 9223372036854775808 ≤ x ↔ 9223372036854775808 ≤ y := k1.symm.trans k2
  omega
/-- A sum with a nought. -/
theorem addq_zero (x y : Nat) (hx : x < 18446744073709551616) (fx : x % 9223372036854775808 < 9218868437227405312) (hy : y = 0 ∨ y = 9223372036854775808) (h : x ≠ 9223372036854775808) : FloatKind.f64.format.add x y = some x := by
  have hy1 : y < 18446744073709551616 := by omega
  have hy2 : y % 9223372036854775808 = 0 := by omega
  rw [add_rndQ x y hx hy1 fx (by omega), svq_of y hy2, Int.add_zero, svq_nv, rndq_nv _ fx]
  congr 1
  by_cases k : sv x = 0
  · have hm := svq_zero x k
    have : x = 0 := by omega
    subst this
    rw [if_pos k]
    rfl
  · rw [if_neg k]
    exact signq_of x hx _ (decide_eq_decide.2 (svq_neg x k))
theorem zeroq_add (x : Nat) (hx : x < 18446744073709551616) (fx : x % 9223372036854775808 < 9218868437227405312) : FloatKind.f64.format.add 0 x = some (if x = 9223372036854775808 then 0 else x) := by
  by_cases c : x = 9223372036854775808
  · rw [c, if_pos rfl]; decide +kernel
  rw [if_neg c, add_rndQ 0 x (by decide) hx (by decide) fx, svq_of 0 (by decide), Int.zero_add, svq_nv, rndq_nv _ fx]
  congr 1
  by_cases k : sv x = 0
  · have hm := svq_zero x k
    have : x = 0 := by omega
    subst this
    rw [if_pos k]
    rfl
  · rw [if_neg k]
    exact signq_of x hx _ (decide_eq_decide.2 (svq_neg x k))
theorem mulq_zero (x : Nat) (hx : x < 18446744073709551616) (fx : x % 9223372036854775808 < 9218868437227405312) : ∃ z, (z = 0 ∨ z = 9223372036854775808) ∧ FloatKind.f64.format.mul 0 x = some z := by
  obtain ⟨s, e, _⟩ := mul_rnd 0 x (by decide) hx (by decide) fx
  rw [svq_of 0 (by decide), Int.zero_mul, show rndM (0 : Int).natAbs (-2148) = 0 by unfold rndM; rfl] at e
  refine ⟨_, ?_, e⟩
  cases s
  · exact Or.inl rfl
  · exact Or.inr rfl
theorem svq_one : sv 4607182418800017408 = ((2 ^ kQ : Nat) : Int) := by decide +kernel
theorem mulq_one (x : Nat) (hx : x < 18446744073709551616) (fx : x % 9223372036854775808 < 9218868437227405312) : FloatKind.f64.format.mul 4607182418800017408 x = some x := by
  by_cases h0 : x % 9223372036854775808 = 0
  · have : x = 0 ∨ x = 9223372036854775808 := by omega
    rcases this with rfl | rfl <;> decide +kernel
  have hne : sv x ≠ 0 := fun h => h0 (svq_zero x h)
  obtain ⟨s, e, hs⟩ := mul_rnd 4607182418800017408 x (by decide) hx (by decide) fx
  rw [svq_one] at e hs
  obtain ⟨T, hT⟩ : ∃ T, (2 : Nat) ^ kQ = T := ⟨_, rfl⟩
  have hT0 : 0 < T := by rw [← hT]; exact Nat.two_pow_pos _
  have hr := rndM_sc (sv x).natAbs kQ (-1074)
  rw [hT] at e hs hr
  have ez : (T : Int) * sv x = sv x * (T : Int) := Int.mul_comm _ _
  rw [ez] at e hs
  obtain ⟨g1, g2⟩ := signq_sc hT0 (rfl : sv x * (T : Int) = sv x * (T : Int))
  have hn : (sv x * (T : Int)).natAbs = (sv x).natAbs * T := by rw [Int.natAbs_mul]; rfl
  rw [hn, show (-2148 : Int) = -1074 - ((kQ : Nat) : Int) by decide, hr, svq_nv, rndq_nv _ fx] at e
  have es : s = decide (9223372036854775808 ≤ x) := by
    rw [hs (g1.2 hne)]
    exact decide_eq_decide.2 (g2.trans (svq_neg x hne))
  rw [e, signq_of x hx s es]
/-- The mean of a number and itself. -/
theorem addq_self (x : Nat) (hx : x < 18446744073709551616) (fx : x % 9223372036854775808 < 9218868437227405312) : ∃ z, FloatKind.f64.format.add x x = some z ∧ (Fin64 z (2 * sv x) ∨ z = 9218868437227405312 ∨ z = 18442240474082181120) := by
  obtain ⟨s, e, hs⟩ := add_val x x hx hx fx fx
  refine ⟨_, e, ?_⟩
  have hle : rnR (sv x + sv x).natAbs ≤ 9218868437227405312 := (near_rnd false (sv x + sv x).natAbs (-1074)).2
  have e2 : sv x + sv x = 2 * sv x := by omega
  by_cases c : rnR (sv x + sv x).natAbs < 9218868437227405312
  · refine Or.inl ?_
    obtain ⟨a1, _, a3⟩ := signN_mod s (rnR (sv x + sv x).natAbs) (by omega)
    refine ⟨a3, by rw [a1]; exact c, ?_⟩
    rw [sv_rz s _ c hs, e2]
    exact rz_exact (Fzq_twice (Fz_sv x))
  · refine Or.inr ?_
    have : rnR (sv x + sv x).natAbs = 9218868437227405312 := by omega
    rw [this]
    cases s
    · exact Or.inl rfl
    · exact Or.inr rfl
theorem half_same (x : Nat) (hx : x < 18446744073709551616) (fx : x % 9223372036854775808 < 9218868437227405312) (W W' : World) (h : (expOf (quF (arF .add x x W) 4611686018427387904 W') == 2047) = false) : quF (arF .add x x W) 4611686018427387904 W' = x := by
  have key : ∀ z y, FloatKind.f64.format.add x x = some z → FloatKind.f64.format.div z 4611686018427387904 = some y → quF (arF .add x x W) 4611686018427387904 W' = y := fun z y h1 h2 => by
    have h1' : floatBits .add .f64 x x = some z := h1
    have h2' : floatBits .quo .f64 z 4611686018427387904 = some y := h2
    unfold quF arF
    rw [h1', Option.getD_some, h2', Option.getD_some]
  by_cases h0 : x % 9223372036854775808 = 0
  · have : x = 0 ∨ x = 9223372036854775808 := by omega
    rcases this with rfl | rfl
    · exact key 0 0 (by decide +kernel) (by decide +kernel)
    · exact key 9223372036854775808 9223372036854775808 (by decide +kernel) (by decide +kernel)
  have hne : sv x ≠ 0 := fun h => h0 (svq_zero x h)
  obtain ⟨z, hz, hz2⟩ := addq_self x hx fx
  rcases hz2 with hz2 | rfl | rfl
  · obtain ⟨y, hy, hy2⟩ := finq_hlf z (sv x) hz2
    rw [key z y hz hy]
    exact fin_inj hy2 ⟨hx, fx, rfl⟩ hne
  · rw [key _ 9218868437227405312 hz (by decide +kernel)] at h
    exact absurd h (by decide +kernel)
  · rw [key _ 18442240474082181120 hz (by decide +kernel)] at h
    exact absurd h (by decide +kernel)
/-- With noughts +0. -/
def plusQ (x : Nat) : Nat := if x = 9223372036854775808 then 0 else x
theorem plusQ_fin {x : Nat} (hx : x < 18446744073709551616) (fx : x % 9223372036854775808 < 9218868437227405312) : plusQ x < 18446744073709551616 ∧ plusQ x % 9223372036854775808 < 9218868437227405312 ∧ plusQ x ≠ 9223372036854775808 := by
  unfold plusQ
  split <;> omega
theorem canq_fin {x : Nat} (fx : x % 9223372036854775808 < 9218868437227405312) : canonOf x = x := by unfold canonOf; rw [if_neg (by omega)]
theorem cafq {op : BinOp} {x y z : Nat} (h : floatBits op .f64 x y = some z) : caf op x y = canonOf z := by unfold caf; rw [h]; rfl
theorem dot_unit (f g : Nat → Nat) (n i : Nat) (hi : i < n) (hf : ∀ k, k < n → canonOf (f k) = if k = i then 4607182418800017408 else 0) (hg : ∀ k, k < n → g k < 18446744073709551616 ∧ g k % 9223372036854775808 < 9218868437227405312) : dotM f g n = plusQ (g i) := by
  have key : ∀ m, m ≤ n → dotM f g m = if i < m then plusQ (g i) else 0 := by
    intro m
    induction m with
    | zero => intro _; rfl
    | succ m ih =>
      intro hm
      obtain ⟨g1, g2⟩ := hg m (by omega)
      obtain ⟨p1, p2, p3⟩ := plusQ_fin (hg i hi).1 (hg i hi).2
      rw [dotM, ih (by omega), hf m (by omega), canq_fin g2]
      by_cases c : m = i
      · subst c
        rw [if_neg (by omega), if_pos rfl, if_pos (by omega), cafq (op := .mul) (z := g m) (mulq_one _ g1 g2), canq_fin g2, cafq (op := .add) (zeroq_add _ g1 g2)]
        exact canq_fin p2
      · rw [if_neg c]
        obtain ⟨z, hz, e⟩ := mulq_zero (g m) g1 g2
        have hcz : canonOf z = z := canq_fin (by omega)
        rw [cafq (op := .mul) e, hcz]
        by_cases d : i < m
        · rw [if_pos d, if_pos (by omega), cafq (op := .add) (addq_zero _ _ p1 p2 hz p3)]
          exact canq_fin p2
        · rw [if_neg d, if_neg (by omega), cafq (op := .add) (addq_zero 0 z (by decide) (by decide) hz (by decide))]
          rfl
  rw [key n (Nat.le_refl _), if_pos hi]
theorem plus_is (x : Nat) (W : World) (hx : x < 18446744073709551616) (fx : x % 9223372036854775808 < 9218868437227405312) : arF .add x 0 W = plusQ x := by
  have h : floatBits .add .f64 x 0 = some (plusQ x) := by
    by_cases c : x = 9223372036854775808
    · rw [c]; decide +kernel
    · have := addq_zero x 0 hx fx (Or.inl rfl) c
      unfold plusQ
      rw [if_neg c]
      exact this
  unfold arF
  rw [h]
  rfl
end Go.Proofs.Ytglgjkhfoajflaa
