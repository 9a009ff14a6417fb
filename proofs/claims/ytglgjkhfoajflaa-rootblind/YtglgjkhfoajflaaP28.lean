
/- matrix: Equal of two shapes; Symmetric of a good one; Mean and Mirror as MatrixSymmetric asks them. (Written by mkmyc.py.) -/
import Derived.Test.YtglgjkhfoajflaaP26
import Derived.Test.YtglgjkhfoajflaaP27
namespace Go.Proofs.Ytglgjkhfoajflaa
open Go.RowKit Go.IntWalk

/-- Whether a matrix is its own transpose. -/
def symB (r c : Nat) (f : Nat → Nat) : Bool := decide (r = c) && eqF (r * c) f (fun k => f (k % c * c + k / c))
theorem symB_iff (c : Nat) (f : Nat → Nat) : symB c c f = true ↔ ∀ i j, i < c → j < c → canonOf (f (i * c + j)) = canonOf (f (j * c + i)) := by
  unfold symB
  rw [decide_eq_true (rfl : c = c), Bool.true_and, eqF_iff]
  constructor
  · intro h i j hi hj
    have := h (i * c + j) (place_lt hi hj)
    rw [this]
    have e1 : (i * c + j) % c = j := by rw [Nat.mul_comm, Nat.mul_add_mod]; exact Nat.mod_eq_of_lt hj
    have e2 : (i * c + j) / c = i := by rw [Nat.mul_comm, Nat.mul_add_div (by omega), Nat.div_eq_of_lt hj, Nat.add_zero]
    rw [e1, e2]
  · intro h k hk
    obtain ⟨q1, q2, q3⟩ := split_k hk
    have := h _ _ q1 q2
    rw [q3] at this
    exact this
theorem eq_turn {c : Nat} {f o : Nat → Nat} (h : ∀ i j, i < c → j < c → o (i * c + j) = f (j * c + i)) : eqF (c * c) f o = symB c c f := by
  rw [Bool.eq_iff_iff, eqF_iff, symB_iff]
  constructor
  · intro h1 i j hi hj
    rw [h1 _ (place_lt hi hj), h i j hi hj]
  · intro h1 k hk
    obtain ⟨q1, q2, q3⟩ := split_k hk
    have := h1 _ _ q1 q2
    rw [← h _ _ q1 q2, q3] at this
    exact this
/-- Something that has the numbers of another one, or none. -/
def SamR (E : Int) (c : Nat) (f : Nat → Nat) (W : World) (X0 X1 : Int) (X2 : Option Addr) (X3 X4 : Nat) : Prop :=
  (E = 0 ∧ X0 = c ∧ X1 = c ∧ X3 = c * c ∧ ∃ o : Nat → Nat, FnM W X2 X3 X4 o ∧ ∀ k, k < c * c → canonOf (o k) = canonOf (f k)) ∨ E ≠ 0
theorem SamR.below {E : Int} {c : Nat} {f : Nat → Nat} {W W' : World} {X0 X1 : Int} {X2 : Option Addr} {X3 X4 : Nat} (h : SamR E c f W X0 X1 X2 X3 X4) (hb : Below W.heap.size W W') : SamR E c f W' X0 X1 X2 X3 X4 := by
  rcases h with ⟨h0, h1, h2, h3, o, h4, h5⟩ | h
  · exact Or.inl ⟨h0, h1, h2, h3, o, h4.below hb, h5⟩
  · exact Or.inr h
theorem SymR.below {E : Int} {W W' : World} {X0 X1 : Int} {X2 : Option Addr} {X3 X4 : Nat} (h : SymR E W X0 X1 X2 X3 X4) (hb : Below W.heap.size W W') : SymR E W' X0 X1 X2 X3 X4 := by
  rcases h with ⟨h0, r, o, h1, h2, h3, h4⟩ | h
  · exact Or.inl ⟨h0, r, o, h1, h2, h3.below hb, h4⟩
  · exact Or.inr h
theorem fin_expo {x : Nat} (h : (expOf x == 2047) = false) : x % 9223372036854775808 < 9218868437227405312 ∨ NaNW x ∨ 18446744073709551616 ≤ x := by
  by_cases hx : x < 18446744073709551616
  · rcases canon_is x hx with ⟨h1, _⟩ | ⟨_, h2⟩
    · exact Or.inr (Or.inl h1)
    · refine Or.inl ?_
      unfold expOf at h
      rw [h2] at h
      have : x / 4503599627370496 % 2048 ≠ 2047 := by simpa using h
      omega
  · exact Or.inr (Or.inr (by omega))
theorem fin_exp {x : Nat} (hx : x < 18446744073709551616) (h : (expOf x == 2047) = false) : x % 9223372036854775808 < 9218868437227405312 := by
  rcases fin_expo h with h1 | h1 | h1
  · exact h1
  · have := canon_nan h1
    unfold expOf at h
    rw [this] at h
    exact absurd h (by decide)
  · omega
end Go.Proofs.Ytglgjkhfoajflaa

namespace Go.Proofs.Ytglgjkhfoajflaa
open Go.RowKit Go.IntWalk

theorem side_yes (n : Nat) (h : n ≤ 12) : sideB n = true := by unfold sideB; simp; omega
/-- The unit matrix' numbers. -/
def eyeF (n k : Nat) : Nat := if k / n = k % n then 4607182418800017408 else 0
theorem eye_at {n a b : Nat} (hb : b < n) : eyeF n (a * n + b) = if a = b then 4607182418800017408 else 0 := by
  unfold eyeF
  have e1 : (a * n + b) % n = b := by rw [Nat.mul_comm, Nat.mul_add_mod]; exact Nat.mod_eq_of_lt hb
  have e2 : (a * n + b) / n = a := by rw [Nat.mul_comm, Nat.mul_add_div (by omega), Nat.div_eq_of_lt hb, Nat.add_zero]
  rw [e1, e2]
theorem row_fn {W : World} {g N : Nat} {o : Nat → Nat} (h : W.rowIs g 28 N (fun k => .float .f64 (o k))) (ho : ∀ k, k < N → o k < 18446744073709551616) (hN : N ≤ 9223372036854775807) : FnM W (some ⟨g, 0, none⟩) N N o :=
  Or.inr ⟨g, 0, rfl, h.lt, Nat.le_refl _, hN, fun k hk => ⟨by rw [Nat.zero_add]; exact h.cell hk, ho k hk⟩⟩
end Go.Proofs.Ytglgjkhfoajflaa

namespace Go.Proofs.Ytglgjkhfoajflaa
open Go.RowKit Go.IntWalk

theorem stepq_append {ops : Array Oper} {o : Oper} {a : Act} {w : World} {K : Act → World → Prop} {Q : Exit → Act → World → Prop} {E : Prop}
    (hw : Region.wanted o (yielded ops a.tmps) = true) (s x : Operand) (hop : o.op = Op.call { callee := Callee.builtin Builtin.append, args := #[s, x], argTypes := #[32, 32] })
    (sv xv : Value) (hs : a.eval s = sv) (hx : a.eval x = xv)
    (hr : ∃ a' k' cap' w', (Builtin.append_ #[32, 32] o.type #[sv, xv]).run Try.prog w = .ok (.slice a' k' cap') w' ∧ K (a.put o.dst (.slice a' k' cap')) w') :
    if Region.wanted o (yielded ops a.tmps) = true then Oper.wp Try.prog o a w K Q else E := by
  rw [if_pos hw]
  obtain ⟨a', k', cap', w', hrun, hK⟩ := hr
  unfold Oper.wp
  simp [execOp, hop, resolve, invoke, builtin, hs, hx, hrun, Result.andThen]
  exact hK
/-- One number appended to numbers of one's own. -/
theorem appq_one (W : World) (base : Nat) (u : Value) (zs : List Nat) (z : Nat) (ho : Owns W base u zs) (hn : zs.length ≤ 100000000) (hb : base ≤ W.heap.size) :
    ∃ g c w5, (Builtin.append_ #[32, 32] 32 #[u, .slice (some ⟨W.heap.size, 0, none⟩) 1 1]).run Try.prog (W.alloc (.cells #[.float .f64 z] 28)) = .ok (.slice (some ⟨g, 0, none⟩) (zs.length + 1) c) w5 ∧ Owns w5 base (.slice (some ⟨g, 0, none⟩) (zs.length + 1) c) (zs ++ [z]) ∧ Below base W w5 := by
  obtain ⟨i0, hi, hz0, hz1, hz2⟩ := info_parts info_f
  have hown := ho
  unfold Owns at hown
  obtain ⟨v', w', hrun, r1, r2, _⟩ := run_append_own (P := Try.prog) (W.alloc (.cells #[.float .f64 z] 28)) base 32 32 28 i0 (.float .f64 0) 1 8 Try.underlying32 hi hz0 hz1 hz2 rfl (by decide) u _ _ (hown.alloc _) ⟨W.heap.size, 0, none⟩ 1 1 [.float .f64 z] rfl (by
    intro j u hj
    match j, hj with
    | 0, hj => simp at hj; subst hj; simp [Addr.add]) (by intro u hu; simp at hu; subst hu; rfl) (by unfold maxLen; omega) (by omega) (by simp; omega)
  have r1' := r1
  rcases r1' with ⟨_, ⟨_, h0⟩ | ⟨g', cap', cur, rfl, _⟩⟩
  · omega
  refine ⟨g', cap', w', hrun, ?_, ((Below.refl _ _).alloc hb _).grown r2 (by simp; omega) (fun k hk => (World.ownsRow.lt hown k hk).1)⟩
  show w'.ownsRow _ _ _ _ _ _
  rw [List.length_append, List.map_append]
  exact r1
theorem owns_fn {W : World} {base : Nat} {s : Option Addr} {k c : Nat} {g : Nat → Nat} (h : Owns W base (.slice s k c) ((List.range k).map g)) (hg : ∀ j, j < k → g j < 18446744073709551616) : FnM W s k c g := by
  unfold Owns at h
  rw [List.length_map, List.length_range] at h
  rcases h with ⟨_, ⟨e, h0⟩ | ⟨g1, cap, cur, e, h1, h2, h3, h4, h5, h6⟩⟩
  · cases e
    exact Or.inl ⟨rfl, rfl, rfl⟩
  · cases e
    refine Or.inr ⟨g1, 0, rfl, (Array.getElem?_eq_some_iff.1 h2).1, h3, h4, fun j hj => ⟨?_, hg j hj⟩⟩
    have e1 : (cur.toList.take (k * 1))[j]? = (((List.range k).map g).map (Value.float .f64))[j]? := by rw [h6]
    rw [List.getElem?_take, if_pos (by omega), List.getElem?_map, List.getElem?_map, List.getElem?_range hj] at e1
    have e2 : cur[j]? = some (.float .f64 (g j)) := by rw [← Array.getElem?_toList, e1]; rfl
    rw [Nat.zero_add]
    simp [World.cell?, h2, e2]
theorem owns_drew {W : World} {base : Nat} {v : Value} {xs : List Nat} (h : Owns W base v xs) : Owns W.drew base v xs := h
theorem owns_set {W : World} {base ob o : Nat} {v u : Value} {xs : List Nat} (h : Owns W base v xs) (hb : ob < base) : Owns (W.setCell ⟨ob, o, none⟩ u) base v xs := ownsRow_setCell_below h hb u
theorem mset2 {W : World} {b : Nat} {r c : Int} {sa sa2 : Option Addr} {n n2 cap cap2 : Nat} (h : W.heap[b]? = some (MBox r c sa n cap)) : (W.setCell ⟨b, 2, none⟩ (.slice sa2 n2 cap2)).heap[b]? = some (MBox r c sa2 n2 cap2) := by
  unfold MBox at h ⊢
  simp [World.setCell, Array.getElem?_modify, h]
theorem addq_run (x y : Nat) (h : FloatKind.f64.format.add x 0 = some y) (W : World) : (binOp .add 28 (.float .f64 x) (.float .f64 0)).run Try.prog W = .ok (.float .f64 y) W := run_float_arith W .add _ .f64 x 0 y h
theorem plusQ_add (x : Nat) (hx : x < 18446744073709551616) (fx : x % 9223372036854775808 < 9218868437227405312) : FloatKind.f64.format.add x 0 = some (plusQ x) := by
  by_cases c : x = 9223372036854775808
  · rw [c]; decide +kernel
  · rw [addq_zero x 0 hx fx (Or.inl rfl) c]
    unfold plusQ
    rw [if_neg c]
/-- The variables of plus as they lie; blocks from B on are the list's. -/
def FrP (w W : World) (B mb rb ob : Nat) (om or oo : Obj) : Prop := Below w.heap.size w W ∧ B ≤ W.heap.size ∧ W.heap[mb]? = some om ∧ W.heap[rb]? = some or ∧ W.heap[ob]? = some oo
theorem FrP.grow {w W W' : World} {B mb rb ob : Nat} {om or oo : Obj} (h : FrP w W B mb rb ob om or oo) (hw : w.heap.size ≤ B) (h1 : mb < B) (h2 : rb < B) (h3 : ob < B) (hb : Below B W W') : FrP w W' B mb rb ob om or oo :=
  ⟨h.1.trans (hb.mono hw), Nat.le_trans h.2.1 hb.size, (hb.block _ h1).trans h.2.2.1, (hb.block _ h2).trans h.2.2.2.1, (hb.block _ h3).trans h.2.2.2.2⟩
end Go.Proofs.Ytglgjkhfoajflaa

namespace Go.Proofs.Ytglgjkhfoajflaa
open Go.RowKit Go.IntWalk

theorem expq_fin {x : Nat} (fx : x % 9223372036854775808 < 9218868437227405312) : (x / 4503599627370496 % 2048 == 2047) = false := by
  rw [beq_eq_false_iff_ne]
  omega
theorem plusQ_twice (x : Nat) : plusQ (plusQ x) = plusQ x := by
  unfold plusQ
  by_cases c : x = 9223372036854775808
  · rw [if_pos c]; rfl
  · rw [if_neg c, if_neg c]
theorem eye_can (n i k : Nat) (hk : k < n) : canonOf (eyeF n (i * n + k)) = if k = i then 4607182418800017408 else 0 := by
  rw [eye_at hk]
  by_cases c : k = i
  · rw [if_pos c, if_pos c.symm]; decide
  · rw [if_neg c, if_neg (fun h => c h.symm)]; decide
theorem eye_canR (n j k : Nat) (hj : j < n) : canonOf (eyeF n (k * n + j)) = if k = j then 4607182418800017408 else 0 := by
  rw [eye_at hj]
  split <;> decide
/-- Numbers that are those of a matrix with noughts +0: finite. -/
theorem plus_ans {W : World} {r c n : Nat} {sa : Option Addr} {ka g : Nat} {f o : Nat → Nat} (ha : Gd W r c sa n ka f) (h : ∀ k, k < r * c → canonOf (o k) = plusQ (f k)) : AnsM r c (r * c) g o = .tuple #[.agg #[.int .i64 r, .int .i64 c, .slice (some ⟨g, 0, none⟩) (r * c) (r * c)], .int .i64 0] ∧ ∀ k, k < r * c → canonOf (o k) = canonOf (plusQ (f k)) := by
  have key : ∀ k, k < r * c → plusQ (f k) < 18446744073709551616 ∧ plusQ (f k) % 9223372036854775808 < 9218868437227405312 := fun k hk => by
    have hk2 : k < n := by rw [ha.2.2.1]; exact hk
    have := plusQ_fin (fn_lt ha.2.2.2.1 k hk2) (fin_exp (fn_lt ha.2.2.2.1 k hk2) ((finF_iff _ _).1 ha.2.2.2.2 k hk2))
    exact ⟨this.1, this.2.1⟩
  have hf : finF (r * c) o = true := finF_of (fun k hk => by
    unfold expOf
    rw [h k hk]
    exact expq_fin (key k hk).2)
  refine ⟨?_, fun k hk => by rw [h k hk, canq_fin (key k hk).2]⟩
  unfold AnsM MV
  rw [if_pos hf, if_pos hf]
theorem gd_fin {W : World} {r c n : Nat} {sa : Option Addr} {ka : Nat} {f : Nat → Nat} (ha : Gd W r c sa n ka f) (k : Nat) (hk : k < r * c) : f k < 18446744073709551616 ∧ f k % 9223372036854775808 < 9218868437227405312 := by
  have hk2 : k < n := by rw [ha.2.2.1]; exact hk
  exact ⟨fn_lt ha.2.2.2.1 k hk2, fin_exp (fn_lt ha.2.2.2.1 k hk2) ((finF_iff _ _).1 ha.2.2.2.2 k hk2)⟩
end Go.Proofs.Ytglgjkhfoajflaa
