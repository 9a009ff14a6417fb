
/- A list of pairs that comes in; a copy of it; one pair more. -/
import Derived.Test.YtfdphegiafccpabP25
import Derived.ProofKit
import Derived.OpenShut
import Derived.ChangeSlices
import Derived.WideShapes
import Derived.SizedLaws
import Derived.Carry
import Derived.Deep.SlicePairs
import Derived.Lib.SmallJoins
namespace Go.Proofs.Ytfdphegiafccpab
open Go.ChangeShapes Go.WideShapes Go.ChangeAt Go.RowKit Go.IntWalk

theorem info_p : (Try.prog.info? 36).map (fun i => (i.zero, i.size, i.bytes)) = some (some (.agg #[.int .i64 0, .int .i64 0]), 2, 16) := by kernel_rfl
theorem info_pp : ∃ i, Try.prog.info? 36 = some i ∧ i.zero = some (.agg #[.int .i64 0, .int .i64 0]) ∧ i.size = 2 ∧ i.bytes = 16 := by
  have h := info_p
  cases hi : Try.prog.info? 36 with
  | none => rw [hi] at h; cases h
  | some i =>
    rw [hi] at h
    simp only [Option.map_some, Option.some.injEq, Prod.mk.injEq] at h
    exact ⟨i, rfl, h.1, h.2.1, h.2.2⟩
/-- The cells of the first pairs. -/
def prL (C T : Nat → Int) : Nat → List Value
  | 0 => []
  | k + 1 => prL C T k ++ [.int .i64 (C k), .int .i64 (T k)]
theorem prL_len (C T : Nat → Int) (k : Nat) : (prL C T k).length = k * 2 := by
  induction k with
  | zero => rfl
  | succ k ih => show (prL C T k ++ _).length = _; rw [List.length_append, ih]; simp; omega
theorem prL_get (C T : Nat → Int) (k i : Nat) (hi : i < k) : (prL C T k)[i * 2]? = some (.int .i64 (C i)) ∧ (prL C T k)[i * 2 + 1]? = some (.int .i64 (T i)) := by
  induction k with
  | zero => omega
  | succ k ih =>
    show (prL C T k ++ [.int .i64 (C k), .int .i64 (T k)])[i * 2]? = _ ∧ (prL C T k ++ [.int .i64 (C k), .int .i64 (T k)])[i * 2 + 1]? = _
    have hl := prL_len C T k
    by_cases h : i < k
    · rw [List.getElem?_append_left (by omega), List.getElem?_append_left (by omega)]
      exact ih h
    · have hik : i = k := by omega
      subst hik
      rw [List.getElem?_append_right (by omega), List.getElem?_append_right (by omega), hl, Nat.sub_self, show i * 2 + 1 - i * 2 = 1 by omega]
      exact ⟨rfl, rfl⟩
theorem prL_one (C T : Nat → Int) (k : Nat) : ∀ u ∈ prL C T k, u.oneCell' = true := by
  induction k with
  | zero => intro u h; cases h
  | succ k ih =>
    intro u h
    rcases List.mem_append.1 h with h | h
    · exact ih u h
    · simp at h
      rcases h with h | h <;> (rw [h]; rfl)
/-- The pairs that a slice made here owns. -/
def OwnP (w : World) (base : Nat) (v : Value) (k : Nat) (C T : Nat → Int) : Prop := w.ownsRow base 36 2 v k (prL C T k)
theorem OwnP.at {w : World} {base k : Nat} {v : Value} {C T : Nat → Int} (h : OwnP w base v k C T) (hb : ∀ i, i < k → (-9223372036854775808 ≤ C i ∧ C i ≤ 9223372036854775807) ∧ (-9223372036854775808 ≤ T i ∧ T i ≤ 9223372036854775807)) : ∃ sa cap, v = .slice sa k cap ∧ PrAt w sa k C T := by
  rcases Joins.ownsRow_forms h with ⟨rfl, rfl⟩ | ⟨g, cap, rfl, _⟩
  · exact ⟨none, 0, rfl, hb, fun h0 => absurd rfl h0⟩
  · refine ⟨some ⟨g, 0, none⟩, cap, rfl, hb, fun _ => ⟨g, 0, rfl, (h.lt g rfl).2, fun i hi => ?_⟩⟩
    have hc := h.cells (g := g) rfl
    obtain ⟨e1, e2⟩ := prL_get C T k i hi
    have c1 := hc _ _ e1
    have c2 := hc _ _ e2
    rw [add_plain] at c1 c2
    rw [← Nat.add_assoc] at c2
    exact ⟨c1, c2⟩
/-- append to nil: a copy. -/
theorem append_pairs (ty : TypeId) (sa : Option Addr) (n cap : Nat) (C T : Nat → Int) (w : World) (hp : PrAt w sa n C T) (hn : n ≤ 8796093022208) :
    ∃ a' cap' w', (Builtin.append_ #[29, 29] ty #[.slice none 0 0, .slice sa n cap]).run Try.prog w = .ok (.slice a' n cap') w' ∧ PrAt w' a' n C T ∧ Below w.heap.size w w' := by
  obtain ⟨i, hi, hz, hsz, hby⟩ := info_pp
  by_cases h0 : n = 0
  · subst h0
    refine ⟨none, 0, w, ?_, ⟨fun i hi => absurd hi (Nat.not_lt_zero _), fun h => absurd rfl h⟩, Below.refl _ _⟩
    cases sa with
    | none => simp [Builtin.append_, run_underlying Try.underlying29, sizeOf, typeInfo, hi, Builtin.lenOf, Builtin.firstCells]
    | some a => simp [Builtin.append_, run_underlying Try.underlying29, sizeOf, typeInfo, hi, Builtin.lenOf, Builtin.firstCells, loadCells, loadCellsFrom]
  · obtain ⟨b, off, rfl, hbl, hc⟩ := hp.2 h0
    have hcell : ∀ j u, (prL C T n)[j]? = some u → w.cell? ((⟨b, off, none⟩ : Addr).add j) = some u := by
      intro j u hj
      have hjl : j < n * 2 := by rw [← prL_len C T n]; exact (List.getElem?_eq_some_iff.1 hj).1
      rw [add_plain]
      obtain ⟨e1, e2⟩ := prL_get C T n (j / 2) (by omega)
      obtain ⟨c1, c2⟩ := hc (j / 2) (by omega)
      rcases (show j = j / 2 * 2 ∨ j = j / 2 * 2 + 1 by omega) with h | h
      · rw [← h] at e1 c1
        rw [e1] at hj
        cases hj
        exact c1
      · rw [← h] at e2
        rw [e2] at hj
        cases hj
        have : off + j / 2 * 2 + 1 = off + j := by omega
        rw [this] at c2
        exact c2
    obtain ⟨v', w', hr, hown, hgr, _⟩ := run_append_own (P := Try.prog) w w.heap.size 29 ty 36 i (.agg #[.int .i64 0, .int .i64 0]) 2 16 Try.underlying29 hi hz hsz hby rfl (by decide) (.slice none 0 0) 0 [] (World.ownsRow_nil w w.heap.size 36 2) ⟨b, off, none⟩ n cap (prL C T n) (prL_len C T n) hcell (prL_one C T n) (by unfold maxLen; omega) (by omega) (Nat.le_refl _)
    rw [Nat.zero_add, List.nil_append] at hown
    obtain ⟨a', cap', rfl, hpr⟩ := OwnP.at (C := C) (T := T) hown hp.1
    exact ⟨a', cap', w', hr, hpr, (Below.refl _ _).grown hgr (Nat.le_refl _) (fun k hk => by cases hk)⟩
theorem wpList_append_pairs {ops : Array Oper} {rest : List Oper} {o : Oper} {a : Act} {w : World} {Q : Exit → Act → World → Prop}
    (hg : o.guard = none) (s x : Operand) (hop : o.op = Op.call { callee := Callee.builtin Builtin.append, args := #[s, x], argTypes := #[29, 29] })
    (hs : a.eval s = .slice none 0 0) (ad : Option Addr) (n cap : Nat) (hx : a.eval x = .slice ad n cap)
    (hr : ∃ a' cap' w', (Builtin.append_ #[29, 29] o.type #[.slice none 0 0, .slice ad n cap]).run Try.prog w = .ok (.slice a' n cap') w' ∧ wpList Try.prog ops Q rest (a.put o.dst (.slice a' n cap')) w') :
    wpList Try.prog ops Q (o :: rest) a w := by
  obtain ⟨a', cap', w', hrun, hK⟩ := hr
  refine wpList_plain hg fun K hK2 => ?_
  unfold Oper.wp execOp
  simp only [hop, resolve, invoke, builtin, Sem.run_bind, Sem.run_pure, Result.andThen_ok, List.map_toArray, List.map_cons, List.map_nil, hs, hx, hrun]
  exact hK2 _ _ hK
theorem open_pairs {H : Type} {enc : TypeId × Value → H} {P : Program} {W : World} {base : Nat} {t e : TypeId} {f0 f1 : Field} {v : Value} {d : DataW H} {p : List MemPlace} (ht : P.underlying t = some (.slice e)) (he : P.underlying e = some (.struct #[f0, f1])) (ce : P.cellsOf e = 2) (o0 : f0.offset = 0) (o1 : f1.offset = 1) (c0 : P.cellsOf f0.type = 1) (c1 : P.cellsOf f1.type = 1) (h0 : P.underlying f0.type = some (.int .i64)) (h1 : P.underlying f1.type = some (.int .i64))
    (hv : Value.okWide P W .any base t v) (h : DataW.Trod enc P W 0 (fun _ => true) true t v d p) (hlt : ∀ x ∈ p, x.block < W.heap.size) :
    ∃ sa n cap C T, v = .slice sa n cap ∧ PrAt W sa n C T ∧ n ≤ cap ∧ cap ≤ maxLen ∧ (n ≠ 0 → ∃ es sp, d = .slice es sp ∧ es.length = n) := by
  obtain ⟨a0, len, cap, rfl⟩ := okWide_slice ht hv
  obtain ⟨fuel, hf⟩ := h
  rcases Deep.open_slice_pairs ht he ce o0 o1 c0 c1 hf with ⟨hcs, hx⟩ | ⟨a, len', cap', m, nn, V0, V1, D0, D1, P0, P1, hcs, _, hl, hm, hmm, hx, hall⟩
  · simp [Value.cells] at hcs
    obtain ⟨rfl, rfl, rfl⟩ := hcs
    exact ⟨none, 0, 0, fun _ => 0, fun _ => 0, rfl, ⟨fun i hi => absurd hi (Nat.not_lt_zero _), fun hn => absurd rfl hn⟩, Nat.le_refl _, Nat.zero_le _, fun hn => absurd rfl hn⟩
  · simp [Value.cells] at hcs
    obtain ⟨rfl, rfl, rfl⟩ := hcs
    simp only [Prod.mk.injEq] at hx
    obtain ⟨rfl, rfl⟩ := hx
    simp only [if_true] at hmm
    have hlm : len ≤ m := by rw [hmm]; exact hl
    have hnum : ∀ i, i < len → ∃ c t : Int, V0 i = .int .i64 c ∧ V1 i = .int .i64 t ∧ (-9223372036854775808 ≤ c ∧ c ≤ 9223372036854775807) ∧ (-9223372036854775808 ≤ t ∧ t ≤ 9223372036854775807) := fun i hi => by
      obtain ⟨_, _, t0, t1⟩ := hall i (by omega)
      obtain ⟨x0, e0, _, w0⟩ := DataW.trod_int h0 t0
      obtain ⟨x1, e1, _, w1⟩ := DataW.trod_int h1 t1
      simp only [List.cons.injEq, and_true] at e0 e1
      exact ⟨x0, x1, e0, e1, bounds_i64 w0, bounds_i64 w1⟩
    refine ⟨some a, len, cap, fun i => intOf (V0 i), fun i => intOf (V1 i), rfl, ⟨fun i hi => ?_, fun hn => ?_⟩, hl, hm, fun _ => ⟨_, _, rfl, by simp⟩⟩
    · obtain ⟨c, t, e0, e1, b0, b1⟩ := hnum i hi
      show (-9223372036854775808 ≤ intOf (V0 i) ∧ intOf (V0 i) ≤ 9223372036854775807) ∧ (-9223372036854775808 ≤ intOf (V1 i) ∧ intOf (V1 i) ≤ 9223372036854775807)
      rw [e0, e1]
      exact ⟨b0, b1⟩
    · obtain ⟨b, off, spot⟩ := a
      have hspot : spot = none := by
        have := (hall 0 (by omega)).1
        simpa [Addr.add] using World.cell?_spot this
      subst hspot
      refine ⟨b, off, rfl, hlt (.cell b off) (List.mem_append_left _ (MemPlace.mem_row.2 ⟨0, by omega, by simp⟩)), fun i hi => ?_⟩
      obtain ⟨q0, q1, _, _⟩ := hall i (by omega)
      obtain ⟨c, t, e0, e1, _, _⟩ := hnum i hi
      rw [add_plain] at q0 q1
      rw [e0] at q0
      rw [e1, ← Nat.add_assoc] at q1
      show W.cell? ⟨b, off + i * 2, none⟩ = some (.int .i64 (intOf (V0 i))) ∧ W.cell? ⟨b, off + i * 2 + 1, none⟩ = some (.int .i64 (intOf (V1 i)))
      rw [e0, e1]
      exact ⟨q0, q1⟩
end Go.Proofs.Ytfdphegiafccpab
