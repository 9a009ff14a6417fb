
/- Products with 1 and with noughts, sums with noughts, a number's mean with itself. No program is spoken of. -/
import Derived.Test.YthakhmnlpmfdgaaP13
import Derived.Test.YthakhmnlpmfdgaaP23
namespace Go.Proofs.Ythakhmnlpmfdgaa
open Go Go.RowKit Go.IntWalk

def kQ : Nat := 1074
theorem rndq_nv (r : Nat) (hr : r < 9218868437227405312) : rndM (nv r) (-1074) = r := by
  by_cases h0 : nv r = 0
  · have : r = 0 := by
      apply Classical.byContradiction
      intro h
      have := nv_lt (r := 0) (s := r) (by omega)
      rw [nv_zero] at this
      omega
    rw [h0, this]
    unfold rndM
    rw [if_pos rfl]
  · have h := nearest_nv false (nv r) 0 r h0 hr (by rw [Nat.pow_zero, Nat.mul_one])
    rw [show (((0 : Nat) : Int) - 1074) = -1074 by omega, (near_rnd false _ _).1, word_false, signN_false] at h
    exact h
theorem Fzq_twice {a : Int} (h : Fz a) : Fz (2 * a) := by
  have hhi := dN_hi a.natAbs
  refine Fz_of _ (Dz a + 1) ?_ ?_
  · rw [Nat.pow_succ, Nat.mul_comm, Int.natCast_mul]
    exact Int.mul_dvd_mul (Int.dvd_refl _) h
  · rw [Nat.pow_succ]
    unfold Dz
    omega
theorem signq_sc {z P : Int} {T : Nat} (hT : 0 < T) (e : z = P * (T : Int)) : (z ≠ 0 ↔ P ≠ 0) ∧ (z < 0 ↔ P < 0) := by
  have hT' : (0 : Int) < T := by omega
  subst e
  refine ⟨⟨?_, ?_⟩, ⟨?_, ?_⟩⟩
  · intro h c; exact h (by rw [c, Int.zero_mul])
  · intro h c
    rcases Int.mul_eq_zero.1 c with c | c <;> omega
  · intro h
    by_cases c : P < 0
    · exact c
    · have := Int.mul_nonneg (by omega : 0 ≤ P) (Int.le_of_lt hT'); omega
  · intro h; exact Int.mul_neg_of_neg_of_pos h hT'
theorem finq_hlf (x : Nat) (a : Int) (hx : Fin64 x (2 * a)) : ∃ y, FloatKind.f64.format.div x 4611686018427387904 = some y ∧ Fin64 y a := by
  obtain ⟨x1, x2, x3⟩ := hx
  obtain ⟨q, e, q1, q2, q3⟩ := div_two x x1 x2
  rw [x3] at q3
  exact ⟨q, e, q1, q2, by omega⟩
theorem add_rndQ (x y : Nat) (hx : x < 18446744073709551616) (hy : y < 18446744073709551616) (fx : x % 9223372036854775808 < 9218868437227405312) (fy : y % 9223372036854775808 < 9218868437227405312) :
    FloatKind.f64.format.add x y = some (signN (if sv x + sv y = 0 then decide (9223372036854775808 ≤ x) && decide (9223372036854775808 ≤ y) else decide (sv x + sv y < 0)) (rndM (sv x + sv y).natAbs (-1074))) := by
  obtain ⟨m, p, ex, vx⟩ := read_fin x hx fx
  obtain ⟨n, q, ey, vy⟩ := read_fin y hy fy
  unfold Ieee.Format.add
  rw [ex, ey]
  obtain ⟨mag, b, e, hv⟩ := sum_val _ _ m n p q (sv x) (sv y) (sv_form x m p vx) (sv_form y n q vy)
  rw [e]
  show some (FloatKind.f64.format.nearest _ mag ((b : Int) - 1074)) = _
  have := rndM_sc mag b ((b : Int) - 1074)
  rw [hv, show (b : Int) - 1074 - (b : Int) = -1074 by omega] at this
  rw [(near_rnd _ mag _).1, this]
theorem svq_nv (x : Nat) : (sv x).natAbs = nv (x % 9223372036854775808) := by unfold sv; split <;> omega
theorem svq_zero (x : Nat) (h : sv x = 0) : x % 9223372036854775808 = 0 := by
  have := svq_nv x
  rw [h] at this
  exact nv_inj (this.symm.trans nv_zero.symm)
theorem svq_of (x : Nat) (h : x % 9223372036854775808 = 0) : sv x = 0 := by
  have := svq_nv x
  rw [h, nv_zero] at this
  omega
theorem svq_neg (x : Nat) (h : sv x ≠ 0) : sv x < 0 ↔ 9223372036854775808 ≤ x := by
  unfold sv at h ⊢
  split <;> rename_i c
  · rw [if_pos c] at h; constructor <;> intro _ <;> omega
  · rw [if_neg c] at h; constructor <;> intro _ <;> omega
theorem signq_of (x : Nat) (hx : x < 18446744073709551616) (s : Bool) (hs : s = decide (9223372036854775808 ≤ x)) : signN s (x % 9223372036854775808) = x := by
  rw [hs]
  unfold signN
  by_cases c : 9223372036854775808 ≤ x
  · simp [c]; omega
  · simp [c]; omega
theorem fin_inj {x y : Nat} {a : Int} (hx : Fin64 x a) (hy : Fin64 y a) (h0 : a ≠ 0) : x = y := by
  obtain ⟨x1, x2, x3⟩ := hx
  obtain ⟨y1, y2, y3⟩ := hy
  have e1 : x % 9223372036854775808 = y % 9223372036854775808 := nv_inj (by rw [← svq_nv, ← svq_nv, x3, y3])
  have k1 := svq_neg x (by rw [x3]; exact h0)
  have k2 := svq_neg y (by rw [y3]; exact h0)
  rw [x3] at k1
  rw [y3] at k2
  have k3 : 9223372036854775808 ≤ x ↔ 9223372036854775808 ≤ y := k1.symm.trans k2
  omega
/-- A sum with a nought. -/
theorem addq_zero (x y : Nat) (hx : x < 18446744073709551616) (fx : x % 9223372036854775808 < 9218868437227405312) (hy : y = 0 ∨ y = 9223372036854775808) (h : x ≠ 9223372036854775808) : FloatKind.f64.format.add x y = some x := by
  have hy1 : y < 18446744073709551616 := by omega
  have hy2 : y % 9223372036854775808 = 0 := by omega
  rw [add_rndQ x y hx hy1 fx (by omega), svq_of y hy2, Int.add_zero, svq_nv, rndq_nv _ fx]
  congr 1
  by_cases k : sv x = 0
  · have hm := svq_zero x k
    have : x = 0 := by omega
    subst this
    rw [if_pos k]
    rfl
  · rw [if_neg k]
    exact signq_of x hx _ (decide_eq_decide.2 (svq_neg x k))
theorem zeroq_add (x : Nat) (hx : x < 18446744073709551616) (fx : x % 9223372036854775808 < 9218868437227405312) : FloatKind.f64.format.add 0 x = some (if x = 9223372036854775808 then 0 else x) := by
  by_cases c : x = 9223372036854775808
  · rw [c, if_pos rfl]; decide +kernel
  rw [if_neg c, add_rndQ 0 x (by decide) hx (by decide) fx, svq_of 0 (by decide), Int.zero_add, svq_nv, rndq_nv _ fx]
  congr 1
  by_cases k : sv x = 0
  · have hm := svq_zero x k
    have : x = 0 := by omega
    subst this
    rw [if_pos k]
    rfl
  · rw [if_neg k]
    exact signq_of x hx _ (decide_eq_decide.2 (svq_neg x k))
theorem mulq_zero (x : Nat) (hx : x < 18446744073709551616) (fx : x % 9223372036854775808 < 9218868437227405312) : ∃ z, (z = 0 ∨ z = 9223372036854775808) ∧ FloatKind.f64.format.mul 0 x = some z := by
  obtain ⟨s, e, _⟩ := mul_rnd 0 x (by decide) hx (by decide) fx
  rw [svq_of 0 (by decide), Int.zero_mul, show rndM (0 : Int).natAbs (-2148) = 0 by unfold rndM; rfl] at e
  refine ⟨_, ?_, e⟩
  cases s
  · exact Or.inl rfl
  · exact Or.inr rfl
theorem svq_one : sv 4607182418800017408 = ((2 ^ kQ : Nat) : Int) := by decide +kernel
theorem mulq_one (x : Nat) (hx : x < 18446744073709551616) (fx : x % 9223372036854775808 < 9218868437227405312) : FloatKind.f64.format.mul 4607182418800017408 x = some x := by
  by_cases h0 : x % 9223372036854775808 = 0
  · have : x = 0 ∨ x = 9223372036854775808 := by omega
    rcases this with rfl | rfl <;> decide +kernel
  have hne : sv x ≠ 0 := fun h => h0 (svq_zero x h)
  obtain ⟨s, e, hs⟩ := mul_rnd 4607182418800017408 x (by decide) hx (by decide) fx
  rw [svq_one] at e hs
  obtain ⟨T, hT⟩ : ∃ T, (2 : Nat) ^ kQ = T := ⟨_, rfl⟩
  have hT0 : 0 < T := by rw [← hT]; exact Nat.two_pow_pos _
  have hr := rndM_sc (sv x).natAbs kQ (-1074)
  rw [hT] at e hs hr
  have ez : (T : Int) * sv x = sv x * (T : Int) := Int.mul_comm _ _
  rw [ez] at e hs
  obtain ⟨g1, g2⟩ := signq_sc hT0 (rfl : sv x * (T : Int) = sv x * (T : Int))
  have hn : (sv x * (T : Int)).natAbs = (sv x).natAbs * T := by rw [Int.natAbs_mul]; rfl
  rw [hn, show (-2148 : Int) = -1074 - ((kQ : Nat) : Int) by decide, hr, svq_nv, rndq_nv _ fx] at e
  have es : s = decide (9223372036854775808 ≤ x) := by
    rw [hs (g1.2 hne)]
    exact decide_eq_decide.2 (g2.trans (svq_neg x hne))
  rw [e, signq_of x hx s es]
/-- The mean of a number and itself. -/
theorem addq_self (x : Nat) (hx : x < 18446744073709551616) (fx : x % 9223372036854775808 < 9218868437227405312) : ∃ z, FloatKind.f64.format.add x x = some z ∧ (Fin64 z (2 * sv x) ∨ z = 9218868437227405312 ∨ z = 18442240474082181120) := by
  obtain ⟨s, e, hs⟩ := add_val x x hx hx fx fx
  refine ⟨_, e, ?_⟩
  have hle : rnR (sv x + sv x).natAbs ≤ 9218868437227405312 := (near_rnd false (sv x + sv x).natAbs (-1074)).2
  have e2 : sv x + sv x = 2 * sv x := by omega
  by_cases c : rnR (sv x + sv x).natAbs < 9218868437227405312
  · refine Or.inl ?_
    obtain ⟨a1, _, a3⟩ := signN_mod s (rnR (sv x + sv x).natAbs) (by omega)
    refine ⟨a3, by rw [a1]; exact c, ?_⟩
    rw [sv_rz s _ c hs, e2]
    exact rz_exact (Fzq_twice (Fz_sv x))
  · refine Or.inr ?_
    have : rnR (sv x + sv x).natAbs = 9218868437227405312 := by omega
    rw [this]
    cases s
    · exact Or.inl rfl
    · exact Or.inr rfl
theorem half_same (x : Nat) (hx : x < 18446744073709551616) (fx : x % 9223372036854775808 < 9218868437227405312) (W W' : World) (h : (expOf (quF (arF .add x x W) 4611686018427387904 W') == 2047) = false) : quF (arF .add x x W) 4611686018427387904 W' = x := by
  have key : ∀ z y, FloatKind.f64.format.add x x = some z → FloatKind.f64.format.div z 4611686018427387904 = some y → quF (arF .add x x W) 4611686018427387904 W' = y := fun z y h1 h2 => by
    have h1' : floatBits .add .f64 x x = some z := h1
    have h2' : floatBits .quo .f64 z 4611686018427387904 = some y := h2
    unfold quF arF
    rw [h1', Option.getD_some, h2', Option.getD_some]
  by_cases h0 : x % 9223372036854775808 = 0
  · have : x = 0 ∨ x = 9223372036854775808 := by omega
    rcases this with rfl | rfl
    · exact key 0 0 (by decide +kernel) (by decide +kernel)
    · exact key 9223372036854775808 9223372036854775808 (by decide +kernel) (by decide +kernel)
  have hne : sv x ≠ 0 := fun h => h0 (svq_zero x h)
  obtain ⟨z, hz, hz2⟩ := addq_self x hx fx
  rcases hz2 with hz2 | rfl | rfl
  · obtain ⟨y, hy, hy2⟩ := finq_hlf z (sv x) hz2
    rw [key z y hz hy]
    exact fin_inj hy2 ⟨hx, fx, rfl⟩ hne
  · rw [key _ 9218868437227405312 hz (by decide +kernel)] at h
    exact absurd h (by decide +kernel)
  · rw [key _ 18442240474082181120 hz (by decide +kernel)] at h
    exact absurd h (by decide +kernel)
/-- With noughts +0. -/
def plusQ (x : Nat) : Nat := if x = 9223372036854775808 then 0 else x
theorem plusQ_fin {x : Nat} (hx : x < 18446744073709551616) (fx : x % 9223372036854775808 < 9218868437227405312) : plusQ x < 18446744073709551616 ∧ plusQ x % 9223372036854775808 < 9218868437227405312 ∧ plusQ x ≠ 9223372036854775808 := by
  unfold plusQ
  split <;> omega
theorem canq_fin {x : Nat} (fx : x % 9223372036854775808 < 9218868437227405312) : canonOf x = x := by unfold canonOf; rw [if_neg (by omega)]
theorem cafq {op : BinOp} {x y z : Nat} (h : floatBits op .f64 x y = some z) : caf op x y = canonOf z := by unfold caf; rw [h]; rfl
theorem dot_unit (f g : Nat → Nat) (n i : Nat) (hi : i < n) (hf : ∀ k, k < n → canonOf (f k) = if k = i then 4607182418800017408 else 0) (hg : ∀ k, k < n → g k < 18446744073709551616 ∧ g k % 9223372036854775808 < 9218868437227405312) : dotM f g n = plusQ (g i) := by
  have key : ∀ m, m ≤ n → dotM f g m = if i < m then plusQ (g i) else 0 := by
    intro m
    induction m with
    | zero => intro _; rfl
    | succ m ih =>
      intro hm
      obtain ⟨g1, g2⟩ := hg m (by omega)
      obtain ⟨p1, p2, p3⟩ := plusQ_fin (hg i hi).1 (hg i hi).2
      rw [dotM, ih (by omega), hf m (by omega), canq_fin g2]
      by_cases c : m = i
      · subst c
        rw [if_neg (by omega), if_pos rfl, if_pos (by omega), cafq (op := .mul) (z := g m) (mulq_one _ g1 g2), canq_fin g2, cafq (op := .add) (zeroq_add _ g1 g2)]
        exact canq_fin p2
      · rw [if_neg c]
        obtain ⟨z, hz, e⟩ := mulq_zero (g m) g1 g2
        have hcz : canonOf z = z := canq_fin (by omega)
        rw [cafq (op := .mul) e, hcz]
        by_cases d : i < m
        · rw [if_pos d, if_pos (by omega), cafq (op := .add) (addq_zero _ _ p1 p2 hz p3)]
          exact canq_fin p2
        · rw [if_neg d, if_neg (by omega), cafq (op := .add) (addq_zero 0 z (by decide) (by decide) hz (by decide))]
          rfl
  rw [key n (Nat.le_refl _), if_pos hi]
theorem plus_is (x : Nat) (W : World) (hx : x < 18446744073709551616) (fx : x % 9223372036854775808 < 9218868437227405312) : arF .add x 0 W = plusQ x := by
  have h : floatBits .add .f64 x 0 = some (plusQ x) := by
    by_cases c : x = 9223372036854775808
    · rw [c]; decide +kernel
    · have := addq_zero x 0 hx fx (Or.inl rfl) c
      unfold plusQ
      rw [if_neg c]
      exact this
  unfold arF
  rw [h]
  rfl
end Go.Proofs.Ythakhmnlpmfdgaa

namespace Go.Proofs.Ythakhmnlpmfdgaa
open Go.RowKit Go.IntWalk

/-- Whether a matrix is its own transpose. -/
def symB (r c : Nat) (f : Nat → Nat) : Bool := decide (r = c) && eqF (r * c) f (fun k => f (k % c * c + k / c))
theorem symB_iff (c : Nat) (f : Nat → Nat) : symB c c f = true ↔ ∀ i j, i < c → j < c → canonOf (f (i * c + j)) = canonOf (f (j * c + i)) := by
  unfold symB
  rw [decide_eq_true (rfl : c = c), Bool.true_and, eqF_iff]
  constructor
  · intro h i j hi hj
    have := h (i * c + j) (place_lt hi hj)
    rw [this]
    have e1 : (i * c + j) % c = j := by rw [Nat.mul_comm, Nat.mul_add_mod]; exact Nat.mod_eq_of_lt hj
    have e2 : (i * c + j) / c = i := by rw [Nat.mul_comm, Nat.mul_add_div (by omega), Nat.div_eq_of_lt hj, Nat.add_zero]
    rw [e1, e2]
  · intro h k hk
    obtain ⟨q1, q2, q3⟩ := split_k hk
    have := h _ _ q1 q2
    rw [q3] at this
    exact this
theorem eq_turn {c : Nat} {f o : Nat → Nat} (h : ∀ i j, i < c → j < c → o (i * c + j) = f (j * c + i)) : eqF (c * c) f o = symB c c f := by
  rw [Bool.eq_iff_iff, eqF_iff, symB_iff]
  constructor
  · intro h1 i j hi hj
    rw [h1 _ (place_lt hi hj), h i j hi hj]
  · intro h1 k hk
    obtain ⟨q1, q2, q3⟩ := split_k hk
    have := h1 _ _ q1 q2
    rw [← h _ _ q1 q2, q3] at this
    exact this
/-- Something that has the numbers of another one, or none. -/
def SamR (E : Int) (c : Nat) (f : Nat → Nat) (W : World) (X0 X1 : Int) (X2 : Option Addr) (X3 X4 : Nat) : Prop :=
  (E = 0 ∧ X0 = c ∧ X1 = c ∧ X3 = c * c ∧ ∃ o : Nat → Nat, FnM W X2 X3 X4 o ∧ ∀ k, k < c * c → canonOf (o k) = canonOf (f k)) ∨ E ≠ 0
theorem SamR.below {E : Int} {c : Nat} {f : Nat → Nat} {W W' : World} {X0 X1 : Int} {X2 : Option Addr} {X3 X4 : Nat} (h : SamR E c f W X0 X1 X2 X3 X4) (hb : Below W.heap.size W W') : SamR E c f W' X0 X1 X2 X3 X4 := by
  rcases h with ⟨h0, h1, h2, h3, o, h4, h5⟩ | h
  · exact Or.inl ⟨h0, h1, h2, h3, o, h4.below hb, h5⟩
  · exact Or.inr h
theorem SymR.below {E : Int} {W W' : World} {X0 X1 : Int} {X2 : Option Addr} {X3 X4 : Nat} (h : SymR E W X0 X1 X2 X3 X4) (hb : Below W.heap.size W W') : SymR E W' X0 X1 X2 X3 X4 := by
  rcases h with ⟨h0, r, o, h1, h2, h3, h4⟩ | h
  · exact Or.inl ⟨h0, r, o, h1, h2, h3.below hb, h4⟩
  · exact Or.inr h
theorem fin_expo {x : Nat} (h : (expOf x == 2047) = false) : x % 9223372036854775808 < 9218868437227405312 ∨ NaNW x ∨ 18446744073709551616 ≤ x := by
  by_cases hx : x < 18446744073709551616
  · rcases canon_is x hx with ⟨h1, _⟩ | ⟨_, h2⟩
    · exact Or.inr (Or.inl h1)
    · refine Or.inl ?_
      unfold expOf at h
      rw [h2] at h
      have : x / 4503599627370496 % 2048 ≠ 2047 := by simpa using h
      omega
  · exact Or.inr (Or.inr (by omega))
theorem fin_exp {x : Nat} (hx : x < 18446744073709551616) (h : (expOf x == 2047) = false) : x % 9223372036854775808 < 9218868437227405312 := by
  rcases fin_expo h with h1 | h1 | h1
  · exact h1
  · have := canon_nan h1
    unfold expOf at h
    rw [this] at h
    exact absurd h (by decide)
  · omega
end Go.Proofs.Ythakhmnlpmfdgaa

namespace Go.Proofs.Ythakhmnlpmfdgaa
open Go.RowKit Go.IntWalk

theorem side_yes (n : Nat) (h : n ≤ 12) : sideB n = true := by unfold sideB; simp; omega
/-- The unit matrix' numbers. -/
def eyeF (n k : Nat) : Nat := if k / n = k % n then 4607182418800017408 else 0
theorem eye_at {n a b : Nat} (hb : b < n) : eyeF n (a * n + b) = if a = b then 4607182418800017408 else 0 := by
  unfold eyeF
  have e1 : (a * n + b) % n = b := by rw [Nat.mul_comm, Nat.mul_add_mod]; exact Nat.mod_eq_of_lt hb
  have e2 : (a * n + b) / n = a := by rw [Nat.mul_comm, Nat.mul_add_div (by omega), Nat.div_eq_of_lt hb, Nat.add_zero]
  rw [e1, e2]
theorem row_fn {W : World} {g N : Nat} {o : Nat → Nat} (h : W.rowIs g 28 N (fun k => .float .f64 (o k))) (ho : ∀ k, k < N → o k < 18446744073709551616) (hN : N ≤ 9223372036854775807) : FnM W (some ⟨g, 0, none⟩) N N o :=
  Or.inr ⟨g, 0, rfl, h.lt, Nat.le_refl _, hN, fun k hk => ⟨by rw [Nat.zero_add]; exact h.cell hk, ho k hk⟩⟩
end Go.Proofs.Ythakhmnlpmfdgaa

namespace Go.Proofs.Ythakhmnlpmfdgaa
open Go.RowKit Go.IntWalk

theorem stepq_append {ops : Array Oper} {o : Oper} {a : Act} {w : World} {K : Act → World → Prop} {Q : Exit → Act → World → Prop} {E : Prop}
    (hw : Region.wanted o (yielded ops a.tmps) = true) (s x : Operand) (hop : o.op = Op.call { callee := Callee.builtin Builtin.append, args := #[s, x], argTypes := #[32, 32] })
    (sv xv : Value) (hs : a.eval s = sv) (hx : a.eval x = xv)
    (hr : ∃ a' k' cap' w', (Builtin.append_ #[32, 32] o.type #[sv, xv]).run Try.prog w = .ok (.slice a' k' cap') w' ∧ K (a.put o.dst (.slice a' k' cap')) w') :
    if Region.wanted o (yielded ops a.tmps) = true then Oper.wp Try.prog o a w K Q else E := by
  rw [if_pos hw]
  obtain ⟨a', k', cap', w', hrun, hK⟩ := hr
  unfold Oper.wp
  simp [execOp, hop, resolve, invoke, builtin, hs, hx, hrun, Result.andThen]
  exact hK
/-- One number appended to numbers of one's own. -/
theorem appq_one (W : World) (base : Nat) (u : Value) (zs : List Nat) (z : Nat) (ho : Owns W base u zs) (hn : zs.length ≤ 100000000) (hb : base ≤ W.heap.size) :
    ∃ g c w5, (Builtin.append_ #[32, 32] 32 #[u, .slice (some ⟨W.heap.size, 0, none⟩) 1 1]).run Try.prog (W.alloc (.cells #[.float .f64 z] 28)) = .ok (.slice (some ⟨g, 0, none⟩) (zs.length + 1) c) w5 ∧ Owns w5 base (.slice (some ⟨g, 0, none⟩) (zs.length + 1) c) (zs ++ [z]) ∧ Below base W w5 := by
  obtain ⟨i0, hi, hz0, hz1, hz2⟩ := info_parts info_f
  have hown := ho
  unfold Owns at hown
  obtain ⟨v', w', hrun, r1, r2, _⟩ := run_append_own (P := Try.prog) (W.alloc (.cells #[.float .f64 z] 28)) base 32 32 28 i0 (.float .f64 0) 1 8 Try.underlying32 hi hz0 hz1 hz2 rfl (by decide) u _ _ (hown.alloc _) ⟨W.heap.size, 0, none⟩ 1 1 [.float .f64 z] rfl (by
    intro j u hj
    match j, hj with
    | 0, hj => simp at hj; subst hj; simp [Addr.add]) (by intro u hu; simp at hu; subst hu; rfl) (by unfold maxLen; omega) (by omega) (by simp; omega)
  have r1' := r1
  rcases r1' with ⟨_, ⟨_, h0⟩ | ⟨g', cap', cur, rfl, _⟩⟩
  · omega
  refine ⟨g', cap', w', hrun, ?_, ((Below.refl _ _).alloc hb _).grown r2 (by simp; omega) (fun k hk => (World.ownsRow.lt hown k hk).1)⟩
  show w'.ownsRow _ _ _ _ _ _
  rw [List.length_append, List.map_append]
  exact r1
theorem owns_fn {W : World} {base : Nat} {s : Option Addr} {k c : Nat} {g : Nat → Nat} (h : Owns W base (.slice s k c) ((List.range k).map g)) (hg : ∀ j, j < k → g j < 18446744073709551616) : FnM W s k c g := by
  unfold Owns at h
  rw [List.length_map, List.length_range] at h
  rcases h with ⟨_, ⟨e, h0⟩ | ⟨g1, cap, cur, e, h1, h2, h3, h4, h5, h6⟩⟩
  · cases e
    exact Or.inl ⟨rfl, rfl, rfl⟩
  · cases e
    refine Or.inr ⟨g1, 0, rfl, (Array.getElem?_eq_some_iff.1 h2).1, h3, h4, fun j hj => ⟨?_, hg j hj⟩⟩
    have e1 : (cur.toList.take (k * 1))[j]? = (((List.range k).map g).map (Value.float .f64))[j]? := by rw [h6]
    rw [List.getElem?_take, if_pos (by omega), List.getElem?_map, List.getElem?_map, List.getElem?_range hj] at e1
    have e2 : cur[j]? = some (.float .f64 (g j)) := by rw [← Array.getElem?_toList, e1]; rfl
    rw [Nat.zero_add]
    simp [World.cell?, h2, e2]
theorem owns_drew {W : World} {base : Nat} {v : Value} {xs : List Nat} (h : Owns W base v xs) : Owns W.drew base v xs := h
theorem owns_set {W : World} {base ob o : Nat} {v u : Value} {xs : List Nat} (h : Owns W base v xs) (hb : ob < base) : Owns (W.setCell ⟨ob, o, none⟩ u) base v xs := ownsRow_setCell_below h hb u
theorem mset2 {W : World} {b : Nat} {r c : Int} {sa sa2 : Option Addr} {n n2 cap cap2 : Nat} (h : W.heap[b]? = some (MBox r c sa n cap)) : (W.setCell ⟨b, 2, none⟩ (.slice sa2 n2 cap2)).heap[b]? = some (MBox r c sa2 n2 cap2) := by
  unfold MBox at h ⊢
  simp [World.setCell, Array.getElem?_modify, h]
theorem addq_run (x y : Nat) (h : FloatKind.f64.format.add x 0 = some y) (W : World) : (binOp .add 28 (.float .f64 x) (.float .f64 0)).run Try.prog W = .ok (.float .f64 y) W := run_float_arith W .add _ .f64 x 0 y h
theorem plusQ_add (x : Nat) (hx : x < 18446744073709551616) (fx : x % 9223372036854775808 < 9218868437227405312) : FloatKind.f64.format.add x 0 = some (plusQ x) := by
  by_cases c : x = 9223372036854775808
  · rw [c]; decide +kernel
  · rw [addq_zero x 0 hx fx (Or.inl rfl) c]
    unfold plusQ
    rw [if_neg c]
/-- The variables of plus as they lie; blocks from B on are the list's. -/
def FrP (w W : World) (B mb rb ob : Nat) (om or oo : Obj) : Prop := Below w.heap.size w W ∧ B ≤ W.heap.size ∧ W.heap[mb]? = some om ∧ W.heap[rb]? = some or ∧ W.heap[ob]? = some oo
theorem FrP.grow {w W W' : World} {B mb rb ob : Nat} {om or oo : Obj} (h : FrP w W B mb rb ob om or oo) (hw : w.heap.size ≤ B) (h1 : mb < B) (h2 : rb < B) (h3 : ob < B) (hb : Below B W W') : FrP w W' B mb rb ob om or oo :=
  ⟨h.1.trans (hb.mono hw), Nat.le_trans h.2.1 hb.size, (hb.block _ h1).trans h.2.2.1, (hb.block _ h2).trans h.2.2.2.1, (hb.block _ h3).trans h.2.2.2.2⟩
end Go.Proofs.Ythakhmnlpmfdgaa

namespace Go.Proofs.Ythakhmnlpmfdgaa
open Go.RowKit Go.IntWalk

theorem expq_fin {x : Nat} (fx : x % 9223372036854775808 < 9218868437227405312) : (x / 4503599627370496 % 2048 == 2047) = false := by
  rw [beq_eq_false_iff_ne]
  omega
theorem plusQ_twice (x : Nat) : plusQ (plusQ x) = plusQ x := by
  unfold plusQ
  by_cases c : x = 9223372036854775808
  · rw [if_pos c]; rfl
  · rw [if_neg c, if_neg c]
theorem eye_can (n i k : Nat) (hk : k < n) : canonOf (eyeF n (i * n + k)) = if k = i then 4607182418800017408 else 0 := by
  rw [eye_at hk]
  by_cases c : k = i
  · rw [if_pos c, if_pos c.symm]; decide
  · rw [if_neg c, if_neg (fun h => c h.symm)]; decide
theorem eye_canR (n j k : Nat) (hj : j < n) : canonOf (eyeF n (k * n + j)) = if k = j then 4607182418800017408 else 0 := by
  rw [eye_at hj]
  split <;> decide
/-- Numbers that are those of a matrix with noughts +0: finite. -/
theorem plus_ans {W : World} {r c n : Nat} {sa : Option Addr} {ka g : Nat} {f o : Nat → Nat} (ha : Gd W r c sa n ka f) (h : ∀ k, k < r * c → canonOf (o k) = plusQ (f k)) : AnsM r c (r * c) g o = .tuple #[.agg #[.int .i64 r, .int .i64 c, .slice (some ⟨g, 0, none⟩) (r * c) (r * c)], .int .i64 0] ∧ ∀ k, k < r * c → canonOf (o k) = canonOf (plusQ (f k)) := by
  have key : ∀ k, k < r * c → plusQ (f k) < 18446744073709551616 ∧ plusQ (f k) % 9223372036854775808 < 9218868437227405312 := fun k hk => by
    have hk2 : k < n := by rw [ha.2.2.1]; exact hk
    have := plusQ_fin (fn_lt ha.2.2.2.1 k hk2) (fin_exp (fn_lt ha.2.2.2.1 k hk2) ((finF_iff _ _).1 ha.2.2.2.2 k hk2))
    exact ⟨this.1, this.2.1⟩
  have hf : finF (r * c) o = true := finF_of (fun k hk => by
    unfold expOf
    rw [h k hk]
    exact expq_fin (key k hk).2)
  refine ⟨?_, fun k hk => by rw [h k hk, canq_fin (key k hk).2]⟩
  unfold AnsM MV
  rw [if_pos hf, if_pos hf]
theorem gd_fin {W : World} {r c n : Nat} {sa : Option Addr} {ka : Nat} {f : Nat → Nat} (ha : Gd W r c sa n ka f) (k : Nat) (hk : k < r * c) : f k < 18446744073709551616 ∧ f k % 9223372036854775808 < 9218868437227405312 := by
  have hk2 : k < n := by rw [ha.2.2.1]; exact hk
  exact ⟨fn_lt ha.2.2.2.1 k hk2, fin_exp (fn_lt ha.2.2.2.1 k hk2) ((finF_iff _ _).1 ha.2.2.2.2 k hk2)⟩
end Go.Proofs.Ythakhmnlpmfdgaa
