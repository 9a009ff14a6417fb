
/- Sandwich of any two, MulVec of any matrix and list, by matrix and by the document. -/
import Derived.Test.YtggiklghcnojiaaP29
namespace Go.Proofs.Ytggiklghcnojiaa
open Go.RowKit Go.IntWalk

theorem dotM_canon {f f2 g : Nat → Nat} (n : Nat) (h : ∀ k, k < n → canonOf (f k) = canonOf (f2 k)) : dotM f g n = dotM f2 g n := by
  induction n with
  | zero => rfl
  | succ n ih => rw [dotM, dotM, ih (fun k hk => h k (by omega)), h n (by omega)]
/-- The numbers of f p f', from the diagonal down. -/
def sndL (xs ys : List Nat) (c : Nat) (i j : Nat) : Nat := dotM (fun k => prdV xs ys c c i k) (fun k => xs.getD (j * c + k) 0) c
def sndV (xs ys : List Nat) (c : Nat) (i j : Nat) : Nat := if j ≤ i then sndL xs ys c i j else sndL xs ys c j i
def sndE (r c r2 c2 : Nat) (v : Nat → Nat → Nat) : Int := if ¬ (r2 = c2 ∧ c = r2) then 3 else if finV r r v = true then 0 else 5
/-- What Sandwich tells of any two. -/
def sndT (rx cx : Int) (n : Nat) (xs : List Nat) (ry cy : Int) (m : Nat) (ys : List Nat) : Int := if first2 (chkM rx cx n xs) (chkM ry cy m ys) = 0 then sndE rx.toNat cx.toNat ry.toNat cy.toNat (sndV xs ys cx.toNat) else first2 (chkM rx cx n xs) (chkM ry cy m ys)
theorem snd_val {r c : Nat} {xs ys : List Nat} {o o2 : Nat → Nat} (hsym : ∀ i j, i < r → j < r → o (i * r + j) = o (j * r + i)) (h2 : ∀ i j, i < r → j < c → canonOf (o2 (i * c + j)) = dotM (fun k => xs.getD (i * c + k) 0) (fun k => ys.getD (k * c + j) 0) c) (h3 : ∀ i j, i < r → j ≤ i → canonOf (o (i * r + j)) = dotM (fun k => o2 (i * c + k)) (fun k => xs.getD (j * c + k) 0) c) (i j : Nat) (hi : i < r) (hj : j < r) : canonOf (o (i * r + j)) = sndV xs ys c i j := by
  have low : ∀ a b, a < r → b ≤ a → canonOf (o (a * r + b)) = sndL xs ys c a b := fun a b ha hb => by
    rw [h3 a b ha hb]
    unfold sndL
    refine dotM_canon c (fun k hk => ?_)
    unfold prdV
    rw [← h2 a k ha hk, canon_twice]
  unfold sndV
  by_cases h : j ≤ i
  · rw [if_pos h]; exact low i j hi h
  · rw [if_neg h, hsym i j hi hj]; exact low j i hj (by omega)
theorem snd_res (r c : Nat) (xs ys : List Nat) (g : Nat) (o o2 : Nat → Nat) (w' : World) (hf : FnM w' (some ⟨g, 0, none⟩) (r * r) (r * r) o) (hsym : ∀ i j, i < r → j < r → o (i * r + j) = o (j * r + i)) (h2 : ∀ i j, i < r → j < c → canonOf (o2 (i * c + j)) = dotM (fun k => xs.getD (i * c + k) 0) (fun k => ys.getD (k * c + j) 0) c) (h3 : ∀ i j, i < r → j ≤ i → canonOf (o (i * r + j)) = dotM (fun k => o2 (i * c + k)) (fun k => xs.getD (j * c + k) 0) c) :
    ∃ X0 X1 X2 X3 X4, AnsM r r (r * r) g o = .tuple #[.agg #[.int .i64 X0, .int .i64 X1, .slice X2 X3 X4], .int .i64 (sndE r c c c (sndV xs ys c))] ∧ ResM (sndE r c c c (sndV xs ys c)) r r (sndV xs ys c) w' X0 X1 X2 X3 X4 :=
  res_of r r g o (sndV xs ys c) (sndE r c c c (sndV xs ys c)) w' (by unfold sndE; rw [if_neg (fun h => h ⟨rfl, rfl⟩)]) hf (snd_val hsym h2 h3)
end Go.Proofs.Ytggiklghcnojiaa

namespace Go.Proofs.Ytggiklghcnojiaa
open Go.RowKit Go.IntWalk

/-- The numbers of a matrix times a list. -/
def vecV (xs us : List Nat) (c : Nat) (i : Nat) : Nat := dotM (fun k => xs.getD (i * c + k) 0) (fun k => us.getD k 0) c
def shpE (cx : Int) (q : Nat) : Int := if cx = q then 0 else 3
/-- What is wrong with a matrix, a list, and the two together. -/
def vecE (rx cx : Int) (n : Nat) (xs : List Nat) (q : Nat) (us : List Nat) : Int := first2 (first2 (chkM rx cx n xs) (lstE q us)) (shpE cx q)
/-- What MulVec tells. -/
def vecT (rx cx : Int) (n : Nat) (xs : List Nat) (q : Nat) (us : List Nat) : Int := if vecE rx cx n xs q us = 0 then (if finF rx.toNat (vecV xs us cx.toNat) = true then 0 else 5) else vecE rx cx n xs q us
/-- A list that a call hands back, or none beside an error. -/
def LsC (E : Int) (r : Nat) (v : Nat → Nat) (W : World) (s : Option Addr) (k l : Nat) : Prop := (E = 0 ∧ k = r ∧ ∃ o : Nat → Nat, FnM W s k l o ∧ ∀ i, i < r → canonOf (o i) = v i) ∨ (E ≠ 0 ∧ s = none ∧ k = 0 ∧ l = 0)
theorem LsC.below {E : Int} {r : Nat} {v : Nat → Nat} {W W' : World} {s : Option Addr} {k l : Nat} (h : LsC E r v W s k l) (hb : Below W.heap.size W W') : LsC E r v W' s k l := by
  rcases h with ⟨h1, h2, o, h3, h4⟩ | h
  · exact Or.inl ⟨h1, h2, o, h3.below hb, h4⟩
  · exact Or.inr h
theorem finF_canon {r : Nat} {o v : Nat → Nat} (h : ∀ i, i < r → canonOf (o i) = v i) : finF r o = finF r v := by
  rw [Bool.eq_iff_iff, finF_iff, finF_iff]
  have key : ∀ i, i < r → expOf (o i) = expOf (v i) := fun i hi => by
    unfold expOf
    rw [← h i hi, canon_twice]
  constructor
  · intro q i hi
    rw [← key i hi]
    exact q i hi
  · intro q i hi
    rw [key i hi]
    exact q i hi
theorem lst_zero {q : Nat} {us : List Nat} (h : lstE q us = 0) : q ≤ 12 ∧ finM us = true := by
  unfold lstE at h
  by_cases h1 : 12 < q
  · rw [if_pos h1] at h; cases h
  rw [if_neg h1] at h
  by_cases h2 : finM us = false
  · rw [if_pos h2] at h; cases h
  exact ⟨by omega, by revert h2; cases finM us <;> simp⟩
theorem fin_get {us : List Nat} {q : Nat} (hl : us.length = q) (h : finM us = true) : finF q (fun j => us.getD j 0) = true := by
  unfold finF
  rw [show (List.range q).map (fun j => us.getD j 0) = us from by
    apply List.ext_getElem?
    intro i
    by_cases hi : i < q
    · rw [List.getElem?_map, List.getElem?_range hi, List.getElem?_eq_getElem (by omega)]
      simp [List.getD_eq_getElem?_getD, List.getElem?_eq_getElem (show i < us.length by omega)]
    · rw [List.getElem?_eq_none (by simp; omega), List.getElem?_eq_none (by omega)]]
  exact h
end Go.Proofs.Ytggiklghcnojiaa

namespace Go.Proofs.Ytggiklghcnojiaa
open Go.RowKit Go.IntWalk

/-- May the numbers of a part be so? -/
def PtB (n : Nat) (K A : Nat → Int) (N F : Nat → Nat) : Prop := ∀ i, i < n → (-9223372036854775808 ≤ K i ∧ K i ≤ 9223372036854775807) ∧ (-9223372036854775808 ≤ A i ∧ A i ≤ 9223372036854775807) ∧ N i < 18446744073709551616 ∧ F i < 18446744073709551616
/-- The parts of a list, where it lies: kinds K, axes A, noises N, fadings F (as bits). -/
def PtU (W : World) (sa : Option Addr) (n : Nat) (K A : Nat → Int) (N F : Nat → Nat) : Prop := PtB n K A N F ∧ (n ≠ 0 → ∃ b off, sa = some ⟨b, off, none⟩ ∧ b < W.heap.size ∧ ∀ i, i < n → W.cell? ⟨b, off + i * 4, none⟩ = some (.int .i64 (K i)) ∧ W.cell? ⟨b, off + i * 4 + 1, none⟩ = some (.int .i64 (A i)) ∧ W.cell? ⟨b, off + i * 4 + 2, none⟩ = some (.int .u64 ((N i : Nat) : Int)) ∧ W.cell? ⟨b, off + i * 4 + 3, none⟩ = some (.int .u64 ((F i : Nat) : Int)))
/-- .. with their numbers as floats. -/
def PtF (W : World) (sa : Option Addr) (n : Nat) (K A : Nat → Int) (N F : Nat → Nat) : Prop := PtB n K A N F ∧ (n ≠ 0 → ∃ b off, sa = some ⟨b, off, none⟩ ∧ b < W.heap.size ∧ ∀ i, i < n → W.cell? ⟨b, off + i * 4, none⟩ = some (.int .i64 (K i)) ∧ W.cell? ⟨b, off + i * 4 + 1, none⟩ = some (.int .i64 (A i)) ∧ W.cell? ⟨b, off + i * 4 + 2, none⟩ = some (.float .f64 (N i)) ∧ W.cell? ⟨b, off + i * 4 + 3, none⟩ = some (.float .f64 (F i)))
theorem PtU.below {W W' : World} {sa : Option Addr} {n : Nat} {K A : Nat → Int} {N F : Nat → Nat} (h : PtU W sa n K A N F) (hb : Below W.heap.size W W') : PtU W' sa n K A N F := by
  refine ⟨h.1, fun hn => ?_⟩
  obtain ⟨b, off, e, hl, hc⟩ := h.2 hn
  refine ⟨b, off, e, Nat.lt_of_lt_of_le hl hb.size, fun i hi => ?_⟩
  rw [hb.cell (p := ⟨b, off + i * 4, none⟩) hl, hb.cell (p := ⟨b, off + i * 4 + 1, none⟩) hl, hb.cell (p := ⟨b, off + i * 4 + 2, none⟩) hl, hb.cell (p := ⟨b, off + i * 4 + 3, none⟩) hl]
  exact hc i hi
theorem PtF.below {W W' : World} {sa : Option Addr} {n : Nat} {K A : Nat → Int} {N F : Nat → Nat} (h : PtF W sa n K A N F) (hb : Below W.heap.size W W') : PtF W' sa n K A N F := by
  refine ⟨h.1, fun hn => ?_⟩
  obtain ⟨b, off, e, hl, hc⟩ := h.2 hn
  refine ⟨b, off, e, Nat.lt_of_lt_of_le hl hb.size, fun i hi => ?_⟩
  rw [hb.cell (p := ⟨b, off + i * 4, none⟩) hl, hb.cell (p := ⟨b, off + i * 4 + 1, none⟩) hl, hb.cell (p := ⟨b, off + i * 4 + 2, none⟩) hl, hb.cell (p := ⟨b, off + i * 4 + 3, none⟩) hl]
  exact hc i hi
/-- The cells of the first parts. -/
def ptL (K A : Nat → Int) (N F : Nat → Nat) : Nat → List Value
  | 0 => []
  | k + 1 => ptL K A N F k ++ [.int .i64 (K k), .int .i64 (A k), .float .f64 (N k), .float .f64 (F k)]
theorem ptL_len (K A : Nat → Int) (N F : Nat → Nat) (k : Nat) : (ptL K A N F k).length = k * 4 := by
  induction k with
  | zero => rfl
  | succ k ih => show (ptL K A N F k ++ _).length = _; rw [List.length_append, ih]; simp; omega
theorem ptL_get (K A : Nat → Int) (N F : Nat → Nat) (k i : Nat) (hi : i < k) : (ptL K A N F k)[i * 4]? = some (.int .i64 (K i)) ∧ (ptL K A N F k)[i * 4 + 1]? = some (.int .i64 (A i)) ∧ (ptL K A N F k)[i * 4 + 2]? = some (.float .f64 (N i)) ∧ (ptL K A N F k)[i * 4 + 3]? = some (.float .f64 (F i)) := by
  induction k with
  | zero => omega
  | succ k ih =>
    show (ptL K A N F k ++ [.int .i64 (K k), .int .i64 (A k), .float .f64 (N k), .float .f64 (F k)])[i * 4]? = _ ∧ (ptL K A N F k ++ [.int .i64 (K k), .int .i64 (A k), .float .f64 (N k), .float .f64 (F k)])[i * 4 + 1]? = _ ∧ (ptL K A N F k ++ [.int .i64 (K k), .int .i64 (A k), .float .f64 (N k), .float .f64 (F k)])[i * 4 + 2]? = _ ∧ (ptL K A N F k ++ [.int .i64 (K k), .int .i64 (A k), .float .f64 (N k), .float .f64 (F k)])[i * 4 + 3]? = _
    have hl := ptL_len K A N F k
    by_cases h : i < k
    · rw [List.getElem?_append_left (by omega), List.getElem?_append_left (by omega), List.getElem?_append_left (by omega), List.getElem?_append_left (by omega)]
      exact ih h
    · have hik : i = k := by omega
      subst hik
      rw [List.getElem?_append_right (by omega), List.getElem?_append_right (by omega), List.getElem?_append_right (by omega), List.getElem?_append_right (by omega), hl, Nat.sub_self, show i * 4 + 1 - i * 4 = 1 by omega, show i * 4 + 2 - i * 4 = 2 by omega, show i * 4 + 3 - i * 4 = 3 by omega]
      exact ⟨rfl, rfl, rfl, rfl⟩
theorem ptL_one (K A : Nat → Int) (N F : Nat → Nat) (k : Nat) : ∀ u ∈ ptL K A N F k, u.oneCell' = true := by
  induction k with
  | zero => intro u h; cases h
  | succ k ih =>
    intro u h
    rcases List.mem_append.1 h with h | h
    · exact ih u h
    · simp at h
      rcases h with h | h | h | h <;> (rw [h]; rfl)
/-- The parts that a slice made here owns. -/
def OwnPt (w : World) (base : Nat) (v : Value) (k : Nat) (K A : Nat → Int) (N F : Nat → Nat) : Prop := w.ownsRow base 45 4 v k (ptL K A N F k)
theorem OwnPt.at {w : World} {base k : Nat} {v : Value} {K A : Nat → Int} {N F : Nat → Nat} (h : OwnPt w base v k K A N F) (hb : PtB k K A N F) : ∃ sa cap, v = .slice sa k cap ∧ PtF w sa k K A N F := by
  rcases Joins.ownsRow_forms h with ⟨rfl, rfl⟩ | ⟨g, cap, rfl, _⟩
  · exact ⟨none, 0, rfl, hb, fun h0 => absurd rfl h0⟩
  · refine ⟨some ⟨g, 0, none⟩, cap, rfl, hb, fun _ => ⟨g, 0, rfl, (h.lt g rfl).2, fun i hi => ?_⟩⟩
    have hc := h.cells (g := g) rfl
    obtain ⟨e1, e2, e3, e4⟩ := ptL_get K A N F k i hi
    have c1 := hc _ _ e1
    have c2 := hc _ _ e2
    have c3 := hc _ _ e3
    have c4 := hc _ _ e4
    rw [Go.WideShapes.add_plain] at c1 c2 c3 c4
    rw [← Nat.add_assoc] at c2 c3 c4
    exact ⟨c1, c2, c3, c4⟩
theorem OwnPt.keepB {w w' : World} {base k : Nat} {v : Value} {K A : Nat → Int} {N F : Nat → Nat} (h : OwnPt w base v k K A N F) (hb : Below w.heap.size w w') : OwnPt w' base v k K A N F := by
  obtain ⟨h1, h2⟩ := h
  refine ⟨h1, ?_⟩
  rcases h2 with h2 | ⟨g, cap, cur, e1, e2, e3, e4⟩
  · exact .inl h2
  · exact .inr ⟨g, cap, cur, e1, e2, (hb.block g (Array.getElem?_eq_some_iff.1 e3).1).trans e3, e4⟩
theorem OwnPt.more {w' : World} {base k : Nat} {v' : Value} {K A : Nat → Int} {N F : Nat → Nat} (h : w'.ownsRow base 45 4 v' (k + 1) (ptL K A N F k ++ [.int .i64 (K k), .int .i64 (A k), .float .f64 (N k), .float .f64 (F k)])) : OwnPt w' base v' (k + 1) K A N F := h
theorem info_pt0 : (Try.prog.info? 45).map (fun i => (i.zero, i.size, i.bytes)) = some (some (.agg #[.int .i64 0, .int .i64 0, .float .f64 0, .float .f64 0]), 4, 32) := by kernel_rfl
theorem info_pt : ∃ i, Try.prog.info? 45 = some i ∧ i.zero = some (.agg #[.int .i64 0, .int .i64 0, .float .f64 0, .float .f64 0]) ∧ i.size = 4 ∧ i.bytes = 32 := by
  have h := info_pt0
  cases hi : Try.prog.info? 45 with
  | none => rw [hi] at h; cases h
  | some i =>
    rw [hi] at h
    simp only [Option.map_some, Option.some.injEq, Prod.mk.injEq] at h
    exact ⟨i, rfl, h.1, h.2.1, h.2.2⟩
end Go.Proofs.Ytggiklghcnojiaa
