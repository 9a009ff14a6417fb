
/- The law's plus: a matrix with all noughts +0. (Written by mkmzb.py.) -/
import Derived.Test.YtokeialkeadanaaP36
import Derived.Test.YtokeialkeadanaaP35
import Derived.Test.YtokeialkeadanaaP18
namespace Go.Proofs.Ytokeialkeadanaa
open Go.RowKit Go.IntWalk

theorem stepq_append {ops : Array Oper} {o : Oper} {a : Act} {w : World} {K : Act → World → Prop} {Q : Exit → Act → World → Prop} {E : Prop}
    (hw : Region.wanted o (yielded ops a.tmps) = true) (s x : Operand) (hop : o.op = Op.call { callee := Callee.builtin Builtin.append, args := #[s, x], argTypes := #[27, 27] })
    (sv xv : Value) (hs : a.eval s = sv) (hx : a.eval x = xv)
    (hr : ∃ a' k' cap' w', (Builtin.append_ #[27, 27] o.type #[sv, xv]).run Try.prog w = .ok (.slice a' k' cap') w' ∧ K (a.put o.dst (.slice a' k' cap')) w') :
    if Region.wanted o (yielded ops a.tmps) = true then Oper.wp Try.prog o a w K Q else E := by
  rw [if_pos hw]
  obtain ⟨a', k', cap', w', hrun, hK⟩ := hr
  unfold Oper.wp
  simp [execOp, hop, resolve, invoke, builtin, hs, hx, hrun, Result.andThen]
  exact hK
/-- One number appended to numbers of one's own. -/
theorem appq_one (W : World) (base : Nat) (u : Value) (zs : List Nat) (z : Nat) (ho : Owns W base u zs) (hn : zs.length ≤ 100000000) (hb : base ≤ W.heap.size) :
    ∃ g c w5, (Builtin.append_ #[27, 27] 27 #[u, .slice (some ⟨W.heap.size, 0, none⟩) 1 1]).run Try.prog (W.alloc (.cells #[.float .f64 z] 57)) = .ok (.slice (some ⟨g, 0, none⟩) (zs.length + 1) c) w5 ∧ Owns w5 base (.slice (some ⟨g, 0, none⟩) (zs.length + 1) c) (zs ++ [z]) ∧ Below base W w5 := by
  obtain ⟨i0, hi, hz0, hz1, hz2⟩ := info_parts info_f
  have hown := ho
  unfold Owns at hown
  obtain ⟨v', w', hrun, r1, r2, _⟩ := run_append_own (P := Try.prog) (W.alloc (.cells #[.float .f64 z] 57)) base 27 27 57 i0 (.float .f64 0) 1 8 Try.underlying27 hi hz0 hz1 hz2 rfl (by decide) u _ _ (hown.alloc _) ⟨W.heap.size, 0, none⟩ 1 1 [.float .f64 z] rfl (by
    intro j u hj
    match j, hj with
    | 0, hj => simp at hj; subst hj; simp [Addr.add]) (by intro u hu; simp at hu; subst hu; rfl) (by unfold maxLen; omega) (by omega) (by simp; omega)
  have r1' := r1
  rcases r1' with ⟨_, ⟨_, h0⟩ | ⟨g', cap', cur, rfl, _⟩⟩
  · omega
  refine ⟨g', cap', w', hrun, ?_, ((Below.refl _ _).alloc hb _).grown r2 (by simp; omega) (fun k hk => (World.ownsRow.lt hown k hk).1)⟩
  show w'.ownsRow _ _ _ _ _ _
  rw [List.length_append, List.map_append]
  exact r1
theorem owns_fn {W : World} {base : Nat} {s : Option Addr} {k c : Nat} {g : Nat → Nat} (h : Owns W base (.slice s k c) ((List.range k).map g)) (hg : ∀ j, j < k → g j < 18446744073709551616) : FnM W s k c g := by
  unfold Owns at h
  rw [List.length_map, List.length_range] at h
  rcases h with ⟨_, ⟨e, h0⟩ | ⟨g1, cap, cur, e, h1, h2, h3, h4, h5, h6⟩⟩
  · cases e
    exact Or.inl ⟨rfl, rfl, rfl⟩
  · cases e
    refine Or.inr ⟨g1, 0, rfl, (Array.getElem?_eq_some_iff.1 h2).1, h3, h4, fun j hj => ⟨?_, hg j hj⟩⟩
    have e1 : (cur.toList.take (k * 1))[j]? = (((List.range k).map g).map (Value.float .f64))[j]? := by rw [h6]
    rw [List.getElem?_take, if_pos (by omega), List.getElem?_map, List.getElem?_map, List.getElem?_range hj] at e1
    have e2 : cur[j]? = some (.float .f64 (g j)) := by rw [← Array.getElem?_toList, e1]; rfl
    rw [Nat.zero_add]
    simp [World.cell?, h2, e2]
theorem owns_drew {W : World} {base : Nat} {v : Value} {xs : List Nat} (h : Owns W base v xs) : Owns W.drew base v xs := h
theorem owns_set {W : World} {base ob o : Nat} {v u : Value} {xs : List Nat} (h : Owns W base v xs) (hb : ob < base) : Owns (W.setCell ⟨ob, o, none⟩ u) base v xs := ownsRow_setCell_below h hb u
theorem mset2 {W : World} {b : Nat} {r c : Int} {sa sa2 : Option Addr} {n n2 cap cap2 : Nat} (h : W.heap[b]? = some (MBox r c sa n cap)) : (W.setCell ⟨b, 2, none⟩ (.slice sa2 n2 cap2)).heap[b]? = some (MBox r c sa2 n2 cap2) := by
  unfold MBox at h ⊢
  simp [World.setCell, Array.getElem?_modify, h]
theorem addq_run (x y : Nat) (h : FloatKind.f64.format.add x 0 = some y) (W : World) : (binOp .add 57 (.float .f64 x) (.float .f64 0)).run Try.prog W = .ok (.float .f64 y) W := run_float_arith W .add _ .f64 x 0 y h
theorem plusQ_add (x : Nat) (hx : x < 18446744073709551616) (fx : x % 9223372036854775808 < 9218868437227405312) : FloatKind.f64.format.add x 0 = some (plusQ x) := by
  by_cases c : x = 9223372036854775808
  · rw [c]; decide +kernel
  · rw [addq_zero x 0 hx fx (Or.inl rfl) c]
    unfold plusQ
    rw [if_neg c]
/-- The variables of plus as they lie; blocks from B on are the list's. -/
def FrP (w W : World) (B mb rb ob : Nat) (om or oo : Obj) : Prop := Below w.heap.size w W ∧ B ≤ W.heap.size ∧ W.heap[mb]? = some om ∧ W.heap[rb]? = some or ∧ W.heap[ob]? = some oo
theorem FrP.grow {w W W' : World} {B mb rb ob : Nat} {om or oo : Obj} (h : FrP w W B mb rb ob om or oo) (hw : w.heap.size ≤ B) (h1 : mb < B) (h2 : rb < B) (h3 : ob < B) (hb : Below B W W') : FrP w W' B mb rb ob om or oo :=
  ⟨h.1.trans (hb.mono hw), Nat.le_trans h.2.1 hb.size, (hb.block _ h1).trans h.2.2.1, (hb.block _ h2).trans h.2.2.2.1, (hb.block _ h3).trans h.2.2.2.2⟩
end Go.Proofs.Ytokeialkeadanaa

namespace Go.Proofs.Ytokeialkeadanaa
open Go.RowKit Go.IntWalk

theorem expq_fin {x : Nat} (fx : x % 9223372036854775808 < 9218868437227405312) : (x / 4503599627370496 % 2048 == 2047) = false := by
  rw [beq_eq_false_iff_ne]
  omega
theorem plusQ_twice (x : Nat) : plusQ (plusQ x) = plusQ x := by
  unfold plusQ
  by_cases c : x = 9223372036854775808
  · rw [if_pos c]; rfl
  · rw [if_neg c, if_neg c]
theorem eye_can (n i k : Nat) (hk : k < n) : canonOf (eyeF n (i * n + k)) = if k = i then 4607182418800017408 else 0 := by
  rw [eye_at hk]
  by_cases c : k = i
  · rw [if_pos c, if_pos c.symm]; decide
  · rw [if_neg c, if_neg (fun h => c h.symm)]; decide
theorem eye_canR (n j k : Nat) (hj : j < n) : canonOf (eyeF n (k * n + j)) = if k = j then 4607182418800017408 else 0 := by
  rw [eye_at hj]
  split <;> decide
/-- Numbers that are those of a matrix with noughts +0: finite. -/
theorem plus_ans {W : World} {r c n : Nat} {sa : Option Addr} {ka g : Nat} {f o : Nat → Nat} (ha : Gd W r c sa n ka f) (h : ∀ k, k < r * c → canonOf (o k) = plusQ (f k)) : AnsM r c (r * c) g o = .tuple #[.agg #[.int .i64 r, .int .i64 c, .slice (some ⟨g, 0, none⟩) (r * c) (r * c)], .int .i64 0] ∧ ∀ k, k < r * c → canonOf (o k) = canonOf (plusQ (f k)) := by
  have key : ∀ k, k < r * c → plusQ (f k) < 18446744073709551616 ∧ plusQ (f k) % 9223372036854775808 < 9218868437227405312 := fun k hk => by
    have hk2 : k < n := by rw [ha.2.2.1]; exact hk
    have := plusQ_fin (fn_lt ha.2.2.2.1 k hk2) (fin_exp (fn_lt ha.2.2.2.1 k hk2) ((finF_iff _ _).1 ha.2.2.2.2 k hk2))
    exact ⟨this.1, this.2.1⟩
  have hf : finF (r * c) o = true := finF_of (fun k hk => by
    unfold expOf
    rw [h k hk]
    exact expq_fin (key k hk).2)
  refine ⟨?_, fun k hk => by rw [h k hk, canq_fin (key k hk).2]⟩
  unfold AnsM MV
  rw [if_pos hf, if_pos hf]
theorem gd_fin {W : World} {r c n : Nat} {sa : Option Addr} {ka : Nat} {f : Nat → Nat} (ha : Gd W r c sa n ka f) (k : Nat) (hk : k < r * c) : f k < 18446744073709551616 ∧ f k % 9223372036854775808 < 9218868437227405312 := by
  have hk2 : k < n := by rw [ha.2.2.1]; exact hk
  exact ⟨fn_lt ha.2.2.2.1 k hk2, fin_exp (fn_lt ha.2.2.2.1 k hk2) ((finF_iff _ _).1 ha.2.2.2.2 k hk2)⟩
theorem Mul_eyeL (r c n : Nat) (sa : Option Addr) (ka g1 : Nat) (f : Nat → Nat) (w : World) (ho : Gd w r r (some ⟨g1, 0, none⟩) (r * r) (r * r) (eyeF r)) (ha : Gd w r c sa n ka f) :
    Calls Try.prog 25 #[.agg #[.int .i64 r, .int .i64 r, .slice (some ⟨g1, 0, none⟩) (r * r) (r * r)], .agg #[.int .i64 r, .int .i64 c, .slice sa n ka]] w fun e w' => (∃ (g : Nat) (o : Nat → Nat), e = .returned (.tuple #[.agg #[.int .i64 r, .int .i64 c, .slice (some ⟨g, 0, none⟩) (r * c) (r * c)], .int .i64 0]) ∧ FnM w' (some ⟨g, 0, none⟩) (r * c) (r * c) o ∧ ∀ k, k < r * c → canonOf (o k) = canonOf (plusQ (f k))) ∧ Below w.heap.size w w' := by
  refine (Mul_ok r r r c _ n _ sa _ ka _ f w ho ha rfl).mono ?_
  rintro e w' ⟨⟨g, o, rfl, hf, hv⟩, hb⟩
  obtain ⟨h1, h2⟩ := plus_ans (g := g) (o := o) ha (fun k hk => by
    obtain ⟨q1, q2, q3⟩ := split_k hk
    have := hv _ _ q1 q2
    rw [q3, dot_unit _ _ r (k / c) q1 (fun t ht => eye_can r (k / c) t ht) (fun t ht => gd_fin ha _ (place_lt ht q2)), q3] at this
    exact this)
  exact ⟨⟨g, o, by rw [h1], hf, h2⟩, hb⟩
theorem Mul_eyeR (r c n : Nat) (sa : Option Addr) (ka g1 : Nat) (f : Nat → Nat) (w : World) (ha : Gd w r c sa n ka f) (ho : Gd w c c (some ⟨g1, 0, none⟩) (c * c) (c * c) (eyeF c)) :
    Calls Try.prog 25 #[.agg #[.int .i64 r, .int .i64 c, .slice sa n ka], .agg #[.int .i64 c, .int .i64 c, .slice (some ⟨g1, 0, none⟩) (c * c) (c * c)]] w fun e w' => (∃ (g : Nat) (o : Nat → Nat), e = .returned (.tuple #[.agg #[.int .i64 r, .int .i64 c, .slice (some ⟨g, 0, none⟩) (r * c) (r * c)], .int .i64 0]) ∧ FnM w' (some ⟨g, 0, none⟩) (r * c) (r * c) o ∧ ∀ k, k < r * c → canonOf (o k) = canonOf (plusQ (f k))) ∧ Below w.heap.size w w' := by
  refine (Mul_ok r c c c n _ sa _ ka _ f _ w ha ho rfl).mono ?_
  rintro e w' ⟨⟨g, o, rfl, hf, hv⟩, hb⟩
  obtain ⟨h1, h2⟩ := plus_ans (g := g) (o := o) ha (fun k hk => by
    obtain ⟨q1, q2, q3⟩ := split_k hk
    have := hv _ _ q1 q2
    rw [q3, dotM_comm, dot_unit _ _ c (k % c) q2 (fun t _ => eye_canR c (k % c) t q2) (fun t ht => gd_fin ha _ (place_lt q1 ht)), q3] at this
    exact this)
  exact ⟨⟨g, o, by rw [h1], hf, h2⟩, hb⟩
theorem Sand_eye (r n : Nat) (sa : Option Addr) (ka g1 : Nat) (f : Nat → Nat) (w : World) (ho : Gd w r r (some ⟨g1, 0, none⟩) (r * r) (r * r) (eyeF r)) (ha : Gd w r r sa n ka f) (hs : ∀ i j, i < r → j < r → canonOf (f (i * r + j)) = canonOf (f (j * r + i))) :
    Calls Try.prog 31 #[.agg #[.int .i64 r, .int .i64 r, .slice (some ⟨g1, 0, none⟩) (r * r) (r * r)], .agg #[.int .i64 r, .int .i64 r, .slice sa n ka]] w fun e w' => (∃ (g : Nat) (o : Nat → Nat), e = .returned (.tuple #[.agg #[.int .i64 r, .int .i64 r, .slice (some ⟨g, 0, none⟩) (r * r) (r * r)], .int .i64 0]) ∧ FnM w' (some ⟨g, 0, none⟩) (r * r) (r * r) o ∧ ∀ k, k < r * r → canonOf (o k) = canonOf (plusQ (f k))) ∧ Below w.heap.size w w' := by
  refine (Sand_ok r r _ n _ sa _ ka _ f w ho ha).mono ?_
  rintro e w' ⟨⟨g, o, rfl, hf, hsym, o2, h2, h3⟩, hb⟩
  have k2 : ∀ i j, i < r → j < r → o2 (i * r + j) = plusQ (f (i * r + j)) := fun i j hi hj => by
    have := h2 i j hi hj
    rw [dot_unit _ _ r i hi (fun t ht => eye_can r i t ht) (fun t ht => gd_fin ha _ (place_lt ht hj))] at this
    have hfin := plusQ_fin (gd_fin ha _ (place_lt hi hj)).1 (gd_fin ha _ (place_lt hi hj)).2
    exact canon_val this (by omega)
  have k3 : ∀ i j, i < r → j ≤ i → canonOf (o (i * r + j)) = plusQ (f (i * r + j)) := fun i j hi hj => by
    have hj2 : j < r := by omega
    rw [h3 i j hi hj, dotM_comm, dot_unit _ _ r j hj2 (fun t ht => eye_can r j t ht) (fun t ht => by
      rw [k2 i t hi ht]
      have := plusQ_fin (gd_fin ha _ (place_lt hi ht)).1 (gd_fin ha _ (place_lt hi ht)).2
      exact ⟨this.1, this.2.1⟩), k2 i j hi hj2, plusQ_twice]
  have hs2 : ∀ i j, i < r → j < r → f (i * r + j) = f (j * r + i) := fun i j hi hj => by
    have := hs i j hi hj
    rw [canq_fin (gd_fin ha _ (place_lt hi hj)).2, canq_fin (gd_fin ha _ (place_lt hj hi)).2] at this
    exact this
  obtain ⟨h1, h4⟩ := plus_ans (g := g) (o := o) ha (fun k hk => by
    obtain ⟨q1, q2, q3⟩ := split_k hk
    rw [← q3]
    by_cases c : k % r ≤ k / r
    · exact k3 _ _ q1 c
    · rw [hsym _ _ q1 q2, k3 _ _ q2 (by omega), hs2 _ _ q1 q2])
  exact ⟨⟨g, o, by rw [h1], hf, h4⟩, hb⟩
end Go.Proofs.Ytokeialkeadanaa

namespace Go.Proofs.Ytokeialkeadanaa
open Go Go.RowKit Go.IntWalk

/-- A product of finite numbers, with its sign. -/
theorem mul_rndS (x y : Nat) (hx : x < 18446744073709551616) (hy : y < 18446744073709551616) (fx : x % 9223372036854775808 < 9218868437227405312) (fy : y % 9223372036854775808 < 9218868437227405312) :
    FloatKind.f64.format.mul x y = some (signN (decide (9223372036854775808 ≤ x) ^^ decide (9223372036854775808 ≤ y)) (rndM (nv (x % 9223372036854775808) * nv (y % 9223372036854775808)) (-2148))) := by
  obtain ⟨m, p, ex, vx⟩ := read_fin x hx fx
  obtain ⟨n, q, ey, vy⟩ := read_fin y hy fy
  unfold Ieee.Format.mul
  rw [ex, ey]
  show some (FloatKind.f64.format.nearest _ (m * n) ((p : Int) - 1074 + ((q : Int) - 1074))) = _
  have hv : nv (x % 9223372036854775808) * nv (y % 9223372036854775808) = m * n * 2 ^ (p + q) := by
    rw [← vx, ← vy, Nat.pow_add, Nat.mul_assoc, Nat.mul_assoc, Nat.mul_left_comm (2 ^ p)]
  have := rndM_sc (m * n) (p + q) ((p : Int) - 1074 + ((q : Int) - 1074))
  rw [← hv, show (p : Int) - 1074 + ((q : Int) - 1074) - ((p + q : Nat) : Int) = -2148 by omega] at this
  rw [(near_rnd _ (m * n) _).1, this]
/-- The word of 2^(p - 1023). -/
def twoW (p : Nat) : Nat := p * 4503599627370496
/-- A number times 2^(p - 1023). -/
def shE (p x : Nat) : Nat := if x % 9223372036854775808 = 0 then x else x + p * 4503599627370496 - 1023 * 4503599627370496
/-- It stays a normal number, or a nought. -/
def OkE (p x : Nat) : Prop := x < 18446744073709551616 ∧ (x % 9223372036854775808 = 0 ∨ (4503599627370496 ≤ x % 9223372036854775808 ∧ x % 9223372036854775808 < 9218868437227405312 ∧ 1024 ≤ x % 9223372036854775808 / 4503599627370496 + p ∧ x % 9223372036854775808 / 4503599627370496 + p ≤ 3069))
theorem nvq_full (r : Nat) (h : 4503599627370496 ≤ r) : nv r = (4503599627370496 + r % 4503599627370496) * 2 ^ (r / 4503599627370496 - 1) := by
  have := nv_word (r / 4503599627370496 - 1) (4503599627370496 + r % 4503599627370496) (by omega) (fun _ => by omega)
  rw [show (r / 4503599627370496 - 1) * 4503599627370496 + (4503599627370496 + r % 4503599627370496) = r by omega] at this
  exact this
theorem twoq_pow (a b c d : Nat) (h : a + (52 + b) = c + d) (M : Nat) : M * 2 ^ a * (4503599627370496 * 2 ^ b) = M * 2 ^ c * 2 ^ d := by
  rw [show (4503599627370496 : Nat) = 2 ^ 52 by decide, ← Nat.pow_add, Nat.mul_assoc, ← Nat.pow_add, Nat.mul_assoc, ← Nat.pow_add, h]
theorem signq_sh (x p R : Nat) (hx : x < 18446744073709551616) (h1 : 4503599627370496 ≤ x % 9223372036854775808) (hR : x % 9223372036854775808 + p * 4503599627370496 - 1023 * 4503599627370496 = R) (hp : 1024 ≤ x % 9223372036854775808 / 4503599627370496 + p) : signN (decide (9223372036854775808 ≤ x)) R = x + p * 4503599627370496 - 1023 * 4503599627370496 := by
  obtain ⟨P, hP⟩ : ∃ P, p * 4503599627370496 = P := ⟨_, rfl⟩
  rw [hP] at hR ⊢
  have hP2 : 1023 * 4503599627370496 ≤ x % 9223372036854775808 + P := by omega
  unfold signN
  by_cases c : 9223372036854775808 ≤ x
  · rw [decide_eq_true c, if_pos rfl]; omega
  · rw [decide_eq_false c]
    show R = _
    omega
theorem mul_two (p x : Nat) (hp : 1 ≤ p ∧ p ≤ 2046) (h : OkE p x) : FloatKind.f64.format.mul x (twoW p) = some (shE p x) := by
  obtain ⟨hx, h⟩ := h
  have ht : twoW p < 9218868437227405312 := by unfold twoW; omega
  have hm : twoW p % 9223372036854775808 = twoW p := Nat.mod_eq_of_lt (by omega)
  rw [mul_rndS x (twoW p) hx (by omega) (by omega) (by omega), hm, decide_eq_false (show ¬ 9223372036854775808 ≤ twoW p by omega), Bool.xor_false]
  unfold shE
  rcases h with h | ⟨h1, h2, h3, h4⟩
  · rw [if_pos h, h, nv_zero, Nat.zero_mul, show rndM 0 (-2148) = 0 by unfold rndM; rfl]
    have := signq_of x hx _ rfl
    rw [h] at this
    rw [this]
  · rw [if_neg (by omega)]
    obtain ⟨R, hR⟩ : ∃ R, x % 9223372036854775808 + p * 4503599627370496 - 1023 * 4503599627370496 = R := ⟨_, rfl⟩
    have e1 : R % 4503599627370496 = x % 9223372036854775808 % 4503599627370496 := by omega
    have e2 : R / 4503599627370496 = x % 9223372036854775808 / 4503599627370496 + p - 1023 := by omega
    have hr : R < 9218868437227405312 := by omega
    have ev : nv (x % 9223372036854775808) * nv (twoW p) = nv R * 2 ^ kQ := by
      rw [nvq_full _ h1, nvq_full R (by omega), e1, e2, nvq_full (twoW p) (by unfold twoW; omega), show twoW p % 4503599627370496 = 0 by unfold twoW; omega, show twoW p / 4503599627370496 = p by unfold twoW; omega, Nat.add_zero]
      exact twoq_pow _ _ _ _ (by unfold kQ; omega) _
    have hs := rndM_sc (nv R) kQ (-1074)
    rw [← ev, show (-1074 : Int) - ((kQ : Nat) : Int) = -2148 by decide, rndq_nv R hr] at hs
    rw [hs, signq_sh x p R hx h1 hR h3]
theorem letq (x P Q C : Nat) (h : P + Q = 2 * C) (hc : C ≤ x + P) : x + P - C + Q - C = x := by omega
theorem shE_back (p q x : Nat) (hpq : p + q = 2046) (hp : 1 ≤ p ∧ p ≤ 2045) (h : OkE p x) : OkE q (shE p x) ∧ shE q (shE p x) = x := by
  obtain ⟨hx, h⟩ := h
  rcases h with h | ⟨h1, h2, h3, h4⟩
  · have e : shE p x = x := by unfold shE; rw [if_pos h]
    rw [e]
    exact ⟨⟨hx, Or.inl h⟩, by unfold shE; rw [if_pos h]⟩
  · obtain ⟨y, hy⟩ : ∃ y, x + p * 4503599627370496 - 1023 * 4503599627370496 = y := ⟨_, rfl⟩
    have e : shE p x = y := by unfold shE; rw [if_neg (by omega)]; exact hy
    have m1 : y % 9223372036854775808 = x % 9223372036854775808 + p * 4503599627370496 - 1023 * 4503599627370496 := by omega
    have m2 : y % 9223372036854775808 / 4503599627370496 = x % 9223372036854775808 / 4503599627370496 + p - 1023 := by omega
    rw [e]
    refine ⟨⟨by omega, Or.inr ⟨by omega, by omega, by omega, by omega⟩⟩, ?_⟩
    unfold shE
    rw [if_neg (by omega), ← hy]
    exact letq x (p * 4503599627370496) (q * 4503599627370496) (1023 * 4503599627370496) (by rw [← Nat.add_mul, hpq]) (by omega)
theorem shE_fin (p x : Nat) (hp : 1 ≤ p ∧ p ≤ 2046) (h : OkE p x) : shE p x < 18446744073709551616 ∧ shE p x % 9223372036854775808 < 9218868437227405312 := by
  obtain ⟨hx, h⟩ := h
  unfold shE
  rcases h with h | ⟨h1, h2, h3, h4⟩
  · rw [if_pos h]; omega
  · rw [if_neg (by omega)]
    omega
/-- A subnormal number times 2^52: its exponent field is below 53. -/
theorem sub_up (x : Nat) (hx : x < 18446744073709551616) (h : x % 9223372036854775808 < 4503599627370496) : ∃ z, FloatKind.f64.format.mul x 4841369599423283200 = some z ∧ z < 18446744073709551616 ∧ z % 9223372036854775808 / 4503599627370496 < 53 := by
  rw [mul_rndS x 4841369599423283200 hx (by decide) (by omega) (by decide), decide_eq_false (show ¬ 9223372036854775808 ≤ 4841369599423283200 by decide), Bool.xor_false]
  have e0 : (4841369599423283200 : Nat) % 9223372036854775808 = 4841369599423283200 := by decide
  obtain ⟨m, hm⟩ : ∃ m, x % 9223372036854775808 = m := ⟨_, rfl⟩
  rw [hm] at h
  have e1 : nv m = m := by unfold nv; rw [if_pos h]
  have d1 : (4841369599423283200 : Nat) / 4503599627370496 - 1 = kQ := by decide
  have d2 : (4841369599423283200 : Nat) % 4503599627370496 = 0 := by decide
  have e2 : nv 4841369599423283200 = 4503599627370496 * 2 ^ kQ := by rw [nvq_full _ (by decide), d1, d2, Nat.add_zero]
  have e3 : m * (4503599627370496 * 2 ^ kQ) = m * 4503599627370496 * 2 ^ kQ := (Nat.mul_assoc _ _ _).symm
  have hs := rndM_sc (m * 4503599627370496) kQ (-1074)
  rw [← e3, show (-1074 : Int) - ((kQ : Nat) : Int) = -2148 by decide] at hs
  rw [e0, hm, e1, e2, hs]
  have hV : m * 4503599627370496 < 2 ^ 104 := by
    have : (2 : Nat) ^ 104 = 4503599627370496 * 4503599627370496 := by decide
    rw [this]
    exact Nat.mul_lt_mul_of_pos_right h (by decide)
  obtain ⟨b1, b2⟩ := rn_bound (m * 4503599627370496) 104 (Nat.le_of_lt hV) (by decide)
  have hF : Fz ((m * 4503599627370496 : Nat) : Int) := Fz_of _ 52 (Int.natCast_dvd_natCast.2 (by rw [show (2 : Nat) ^ 52 = 4503599627370496 by decide]; exact Nat.dvd_mul_left _ _)) (by rw [Int.natAbs_natCast, show (2 : Nat) ^ 52 = 4503599627370496 by decide]; omega)
  have hz := rz_exact hF
  have hw := (rn_word _ b1).2
  have hv : rnv (m * 4503599627370496) = m * 4503599627370496 := by
    have := rz_abs ((m * 4503599627370496 : Nat) : Int)
    rw [hz, Int.natAbs_natCast] at this
    exact this.symm
  rw [hv] at hw
  have hlt : rnR (m * 4503599627370496) < 53 * 4503599627370496 := by
    apply Classical.byContradiction
    intro hc
    have h53 : nv (53 * 4503599627370496) = 2 ^ 104 := by rw [nvq_full _ (by decide)]
    rcases Nat.lt_or_eq_of_le (Nat.le_of_not_lt hc) with he | he
    · have := nv_lt he
      rw [h53, hw] at this
      exact absurd hV (Nat.not_lt.2 (Nat.le_of_lt this))
    · rw [← he, h53] at hw
      exact absurd hV (Nat.not_lt.2 (Nat.le_of_eq hw))
  have hrr : rndM (m * 4503599627370496) (-1074) = rnR (m * 4503599627370496) := rfl
  rw [hrr]
  obtain ⟨a1, _, a3⟩ := signN_mod (decide (9223372036854775808 ≤ x)) (rnR (m * 4503599627370496)) (by omega)
  exact ⟨_, rfl, a3, by rw [a1]; omega⟩
end Go.Proofs.Ytokeialkeadanaa

namespace Go.Proofs.Ytokeialkeadanaa
open Go.RowKit Go.IntWalk

theorem retq_fl {a b : Nat} (h : a = b) : Ending.returned (.float .f64 a) = .returned (.float .f64 b) := by rw [h]
theorem svq_mag (r : Nat) (h : r < 9223372036854775808) : sv r = (nv r : Int) := by
  unfold sv
  rw [if_neg (by omega), Nat.mod_eq_of_lt h]
theorem orderq_mag (r c : Nat) (hr : r ≤ 9218868437227405312) (hc : c ≤ 9218868437227405312) : FloatKind.f64.format.order r c = some (if r < c then .lt else if c < r then .gt else .eq) := by
  rw [order_eq r c (by omega) (by omega) (by omega) (by omega), svq_mag r (by omega), svq_mag c (by omega)]
  congr 1
  by_cases h1 : r < c
  · rw [if_pos h1]
    exact cmp_lt (by have := nv_lt h1; omega)
  · rw [if_neg h1]
    by_cases h2 : c < r
    · rw [if_pos h2]
      exact cmp_gt (by have := nv_lt h2; omega)
    · rw [if_neg h2]
      have : r = c := by omega
      rw [this]
      exact cmp_eq rfl
theorem orderq_max (r : Nat) : r < 9223372036854775808 → (FloatKind.f64.format.order r 9218868437227405311 == some .gt) = decide (r = 9218868437227405312) := by
  intro hr
  by_cases h : 9218868437227405312 < r
  · rw [order_nan_l r _ (by rw [Nat.mod_eq_of_lt hr]; exact h), decide_eq_false (by omega)]; rfl
  · rw [orderq_mag r _ (by omega) (by decide)]
    by_cases c : r = 9218868437227405312
    · rw [if_neg (by omega), if_pos (by omega), decide_eq_true c]; rfl
    · rw [decide_eq_false c]
      by_cases d : r < 9218868437227405311
      · rw [if_pos d]; rfl
      · rw [if_neg d, if_neg (by omega)]; rfl
def finB (x : Nat) : Bool := decide (x % 9223372036854775808 < 9218868437227405312)
theorem twoW_fin (p : Nat) (hp : p ≤ 2046) : twoW p < 18446744073709551616 ∧ twoW p % 9223372036854775808 < 9218868437227405312 := by unfold twoW; omega
theorem orq_two (p : Nat) (hp : p ≤ 2046) : bits .or .u64 0 ((p : Int) * 4503599627370496) = ((twoW p : Nat) : Int) := by
  have h := u64_or_nat 0 (twoW p) (by decide) (twoW_fin p hp).1
  rw [Nat.zero_or] at h
  rw [← h]
  unfold twoW
  rw [Int.natCast_mul]
  rfl
/-- The exponent field of a word, as Frexp reads it. -/
theorem expq_w (x : Nat) (hx : x < 18446744073709551616) : bits .and .u64 ((x : Int) / 4503599627370496) 2047 = ((x % 9223372036854775808 / 4503599627370496 : Nat) : Int) := by
  have h := u64_and_nat (x / 4503599627370496) 2047 (by omega) (by decide)
  have e : x / 4503599627370496 &&& 2047 = x % 9223372036854775808 / 4503599627370496 := by
    have := Nat.and_two_pow_sub_one_eq_mod (x / 4503599627370496) 11
    have e2 : (2 : Nat) ^ 11 - 1 = 2047 := by decide
    rw [e2] at this
    rw [this]
    omega
  rw [e] at h
  rw [← h]
  rfl
/-- What Frexp tells: e + 1022 is the exponent field of a normal number; of a subnormal one e is below -1021. -/
def FrE (x : Nat) (e : Int) : Prop := (4503599627370496 ≤ x % 9223372036854775808 → e = (x % 9223372036854775808 / 4503599627370496 : Nat) - 1022) ∧ (x % 9223372036854775808 < 4503599627370496 → e < -1021) ∧ -5000 ≤ e ∧ e ≤ 5000
end Go.Proofs.Ytokeialkeadanaa
