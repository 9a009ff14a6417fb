
/- A list of parts, four cells each, where it lies: as it comes in, and as a motion has it. -/
import Derived.Test.YtfngjoaghbofgaaP37
namespace Go.Proofs.Ytfngjoaghbofgaa
open Go.RowKit Go.IntWalk

/-- May the numbers of a part be so? -/
def PtB (n : Nat) (K A : Nat → Int) (N F : Nat → Nat) : Prop := ∀ i, i < n → (-9223372036854775808 ≤ K i ∧ K i ≤ 9223372036854775807) ∧ (-9223372036854775808 ≤ A i ∧ A i ≤ 9223372036854775807) ∧ N i < 18446744073709551616 ∧ F i < 18446744073709551616
/-- The parts of a list, where it lies: kinds K, axes A, noises N, fadings F (as bits). -/
def PtU (W : World) (sa : Option Addr) (n : Nat) (K A : Nat → Int) (N F : Nat → Nat) : Prop := PtB n K A N F ∧ (n ≠ 0 → ∃ b off, sa = some ⟨b, off, none⟩ ∧ b < W.heap.size ∧ ∀ i, i < n → W.cell? ⟨b, off + i * 4, none⟩ = some (.int .i64 (K i)) ∧ W.cell? ⟨b, off + i * 4 + 1, none⟩ = some (.int .i64 (A i)) ∧ W.cell? ⟨b, off + i * 4 + 2, none⟩ = some (.int .u64 ((N i : Nat) : Int)) ∧ W.cell? ⟨b, off + i * 4 + 3, none⟩ = some (.int .u64 ((F i : Nat) : Int)))
/-- .. with their numbers as floats. -/
def PtF (W : World) (sa : Option Addr) (n : Nat) (K A : Nat → Int) (N F : Nat → Nat) : Prop := PtB n K A N F ∧ (n ≠ 0 → ∃ b off, sa = some ⟨b, off, none⟩ ∧ b < W.heap.size ∧ ∀ i, i < n → W.cell? ⟨b, off + i * 4, none⟩ = some (.int .i64 (K i)) ∧ W.cell? ⟨b, off + i * 4 + 1, none⟩ = some (.int .i64 (A i)) ∧ W.cell? ⟨b, off + i * 4 + 2, none⟩ = some (.float .f64 (N i)) ∧ W.cell? ⟨b, off + i * 4 + 3, none⟩ = some (.float .f64 (F i)))
theorem PtU.below {W W' : World} {sa : Option Addr} {n : Nat} {K A : Nat → Int} {N F : Nat → Nat} (h : PtU W sa n K A N F) (hb : Below W.heap.size W W') : PtU W' sa n K A N F := by
  refine ⟨h.1, fun hn => ?_⟩
  obtain ⟨b, off, e, hl, hc⟩ := h.2 hn
  refine ⟨b, off, e, Nat.lt_of_lt_of_le hl hb.size, fun i hi => ?_⟩
  rw [hb.cell (p := ⟨b, off + i * 4, none⟩) hl, hb.cell (p := ⟨b, off + i * 4 + 1, none⟩) hl, hb.cell (p := ⟨b, off + i * 4 + 2, none⟩) hl, hb.cell (p := ⟨b, off + i * 4 + 3, none⟩) hl]
  exact hc i hi
theorem PtF.below {W W' : World} {sa : Option Addr} {n : Nat} {K A : Nat → Int} {N F : Nat → Nat} (h : PtF W sa n K A N F) (hb : Below W.heap.size W W') : PtF W' sa n K A N F := by
  refine ⟨h.1, fun hn => ?_⟩
  obtain ⟨b, off, e, hl, hc⟩ := h.2 hn
  refine ⟨b, off, e, Nat.lt_of_lt_of_le hl hb.size, fun i hi => ?_⟩
  rw [hb.cell (p := ⟨b, off + i * 4, none⟩) hl, hb.cell (p := ⟨b, off + i * 4 + 1, none⟩) hl, hb.cell (p := ⟨b, off + i * 4 + 2, none⟩) hl, hb.cell (p := ⟨b, off + i * 4 + 3, none⟩) hl]
  exact hc i hi
/-- The cells of the first parts. -/
def ptL (K A : Nat → Int) (N F : Nat → Nat) : Nat → List Value
  | 0 => []
  | k + 1 => ptL K A N F k ++ [.int .i64 (K k), .int .i64 (A k), .float .f64 (N k), .float .f64 (F k)]
theorem ptL_len (K A : Nat → Int) (N F : Nat → Nat) (k : Nat) : (ptL K A N F k).length = k * 4 := by
  induction k with
  | zero => rfl
  | succ k ih => show (ptL K A N F k ++ _).length = _; rw [List.length_append, ih]; simp; omega
theorem ptL_get (K A : Nat → Int) (N F : Nat → Nat) (k i : Nat) (hi : i < k) : (ptL K A N F k)[i * 4]? = some (.int .i64 (K i)) ∧ (ptL K A N F k)[i * 4 + 1]? = some (.int .i64 (A i)) ∧ (ptL K A N F k)[i * 4 + 2]? = some (.float .f64 (N i)) ∧ (ptL K A N F k)[i * 4 + 3]? = some (.float .f64 (F i)) := by
  induction k with
  | zero => omega
  | succ k ih =>
    show (ptL K A N F k ++ [.int .i64 (K k), .int .i64 (A k), .float .f64 (N k), .float .f64 (F k)])[i * 4]? = _ ∧ (ptL K A N F k ++ [.int .i64 (K k), .int .i64 (A k), .float .f64 (N k), .float .f64 (F k)])[i * 4 + 1]? = _ ∧ (ptL K A N F k ++ [.int .i64 (K k), .int .i64 (A k), .float .f64 (N k), .float .f64 (F k)])[i * 4 + 2]? = _ ∧ (ptL K A N F k ++ [.int .i64 (K k), .int .i64 (A k), .float .f64 (N k), .float .f64 (F k)])[i * 4 + 3]? = _
    have hl := ptL_len K A N F k
    by_cases h : i < k
    · rw [List.getElem?_append_left (by omega), List.getElem?_append_left (by omega), List.getElem?_append_left (by omega), List.getElem?_append_left (by omega)]
      exact ih h
    · have hik : i = k := by omega
      subst hik
      rw [List.getElem?_append_right (by omega), List.getElem?_append_right (by omega), List.getElem?_append_right (by omega), List.getElem?_append_right (by omega), hl, Nat.sub_self, show i * 4 + 1 - i * 4 = 1 by omega, show i * 4 + 2 - i * 4 = 2 by omega, show i * 4 + 3 - i * 4 = 3 by omega]
      exact ⟨rfl, rfl, rfl, rfl⟩
theorem ptL_one (K A : Nat → Int) (N F : Nat → Nat) (k : Nat) : ∀ u ∈ ptL K A N F k, u.oneCell' = true := by
  induction k with
  | zero => intro u h; cases h
  | succ k ih =>
    intro u h
    rcases List.mem_append.1 h with h | h
    · exact ih u h
    · simp at h
      rcases h with h | h | h | h <;> (rw [h]; rfl)
/-- The parts that a slice made here owns. -/
def OwnPt (w : World) (base : Nat) (v : Value) (k : Nat) (K A : Nat → Int) (N F : Nat → Nat) : Prop := w.ownsRow base 75 4 v k (ptL K A N F k)
theorem OwnPt.at {w : World} {base k : Nat} {v : Value} {K A : Nat → Int} {N F : Nat → Nat} (h : OwnPt w base v k K A N F) (hb : PtB k K A N F) : ∃ sa cap, v = .slice sa k cap ∧ PtF w sa k K A N F := by
  rcases Joins.ownsRow_forms h with ⟨rfl, rfl⟩ | ⟨g, cap, rfl, _⟩
  · exact ⟨none, 0, rfl, hb, fun h0 => absurd rfl h0⟩
  · refine ⟨some ⟨g, 0, none⟩, cap, rfl, hb, fun _ => ⟨g, 0, rfl, (h.lt g rfl).2, fun i hi => ?_⟩⟩
    have hc := h.cells (g := g) rfl
    obtain ⟨e1, e2, e3, e4⟩ := ptL_get K A N F k i hi
    have c1 := hc _ _ e1
    have c2 := hc _ _ e2
    have c3 := hc _ _ e3
    have c4 := hc _ _ e4
    rw [Go.WideShapes.add_plain] at c1 c2 c3 c4
    rw [← Nat.add_assoc] at c2 c3 c4
    exact ⟨c1, c2, c3, c4⟩
theorem OwnPt.keepB {w w' : World} {base k : Nat} {v : Value} {K A : Nat → Int} {N F : Nat → Nat} (h : OwnPt w base v k K A N F) (hb : Below w.heap.size w w') : OwnPt w' base v k K A N F := by
  obtain ⟨h1, h2⟩ := h
  refine ⟨h1, ?_⟩
  rcases h2 with h2 | ⟨g, cap, cur, e1, e2, e3, e4⟩
  · exact .inl h2
  · exact .inr ⟨g, cap, cur, e1, e2, (hb.block g (Array.getElem?_eq_some_iff.1 e3).1).trans e3, e4⟩
theorem OwnPt.more {w' : World} {base k : Nat} {v' : Value} {K A : Nat → Int} {N F : Nat → Nat} (h : w'.ownsRow base 75 4 v' (k + 1) (ptL K A N F k ++ [.int .i64 (K k), .int .i64 (A k), .float .f64 (N k), .float .f64 (F k)])) : OwnPt w' base v' (k + 1) K A N F := h
theorem info_pt0 : (Try.prog.info? 75).map (fun i => (i.zero, i.size, i.bytes)) = some (some (.agg #[.int .i64 0, .int .i64 0, .float .f64 0, .float .f64 0]), 4, 32) := by kernel_rfl
theorem info_pt : ∃ i, Try.prog.info? 75 = some i ∧ i.zero = some (.agg #[.int .i64 0, .int .i64 0, .float .f64 0, .float .f64 0]) ∧ i.size = 4 ∧ i.bytes = 32 := by
  have h := info_pt0
  cases hi : Try.prog.info? 75 with
  | none => rw [hi] at h; cases h
  | some i =>
    rw [hi] at h
    simp only [Option.map_some, Option.some.injEq, Prod.mk.injEq] at h
    exact ⟨i, rfl, h.1, h.2.1, h.2.2⟩
end Go.Proofs.Ytfngjoaghbofgaa
