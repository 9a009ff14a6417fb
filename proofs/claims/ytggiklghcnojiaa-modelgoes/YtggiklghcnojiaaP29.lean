
/- The document's AllFinite, Check, First, If, List of matrices and lists; the law's told and list. -/
import Derived.Test.YtggiklghcnojiaaP25
import Derived.Test.YtggiklghcnojiaaP20
import Derived.Test.YtggiklghcnojiaaP22
import Derived.Test.YtggiklghcnojiaaP26
namespace Go.Proofs.Ytggiklghcnojiaa
open Go.RowKit Go.IntWalk

/-- The first error of a list. -/
def firstL : List Int → Int
  | [] => 0
  | x :: xs => if x = 0 then firstL xs else x
theorem firstL_take (xs : List Int) (k : Nat) (h : ∀ j, j < k → xs.getD j 0 = 0) : firstL xs = firstL (xs.drop k) := by
  induction k generalizing xs with
  | zero => rfl
  | succ k ih =>
    cases xs with
    | nil => rfl
    | cons x xs =>
      have h0 := h 0 (by omega)
      simp at h0
      rw [List.drop_succ_cons, firstL, if_pos h0]
      exact ih xs (fun j hj => by have := h (j + 1) (by omega); simpa using this)
end Go.Proofs.Ytggiklghcnojiaa

namespace Go.Proofs.Ytggiklghcnojiaa
open Go.RowKit Go.IntWalk

/-- What is wrong with a list. -/
def lstE (n : Nat) (xs : List Nat) : Int := if 12 < n then 1 else if finM xs = false then 4 else 0
end Go.Proofs.Ytggiklghcnojiaa

namespace Go.Proofs.Ytggiklghcnojiaa
open Go.RowKit Go.IntWalk

/-- A variable that holds an int. -/
def IBox (i : Int) : Obj := .cells #[.int .i64 i] 3
theorem icell_of {w : World} {b : Nat} {i : Int} (h : w.heap[b]? = some (IBox i)) : w.cell? ⟨b, 0, none⟩ = some (.int .i64 i) := by
  unfold IBox at h
  simp [World.cell?, h]
theorem four_b (w : World) (A B C R : Obj) : ((((w.alloc A).alloc B).alloc C).alloc R).heap[w.heap.size]? = some A ∧ ((((w.alloc A).alloc B).alloc C).alloc R).heap[w.heap.size + 1]? = some B ∧ ((((w.alloc A).alloc B).alloc C).alloc R).heap[w.heap.size + 1 + 1]? = some C ∧ ((((w.alloc A).alloc B).alloc C).alloc R).heap[w.heap.size + 1 + 1 + 1]? = some R ∧ Below w.heap.size w ((((w.alloc A).alloc B).alloc C).alloc R) := by
  obtain ⟨h1, h2, h3, h4, h5⟩ := three_b w A B C
  have hb : Below (((w.alloc A).alloc B).alloc C).heap.size (((w.alloc A).alloc B).alloc C) ((((w.alloc A).alloc B).alloc C).alloc R) := (Below.refl _ _).alloc (Nat.le_refl _) R
  refine ⟨blkM h1 hb, blkM h2 hb, blkM h3 hb, ?_, h4.trans (hb.mono h4.size)⟩
  have := nblkM (((w.alloc A).alloc B).alloc C) R
  rw [h5] at this
  exact this
/-- What checkSpan tells. -/
def spanE (E r c i j a b : Int) : Int := if E ≠ 0 then E else if i < 0 ∨ j < 0 ∨ r - a < i ∨ c - b < j then 1 else 0
end Go.Proofs.Ytggiklghcnojiaa

namespace Go.Proofs.Ytggiklghcnojiaa
open Go.RowKit Go.IntWalk

theorem field2_run (a b c : Value) (w : World) : (Instr.field 34 (.agg #[a, b, c]) 2).run Try.prog w = .ok c w := by
  unfold Instr.field
  simp [go_sem]
  rfl
theorem span_zero {r c i j a b : Int} {n : Nat} {xs : List Nat} (h : spanE (chkM r c n xs) r c i j a b = 0) : chkM r c n xs = 0 ∧ ∃ R C p q : Nat, r = R ∧ c = C ∧ i = p ∧ j = q ∧ (p : Int) + a ≤ R ∧ (q : Int) + b ≤ C ∧ R ≤ 12 ∧ C ≤ 12 ∧ n = R * C ∧ finM xs = true := by
  unfold spanE at h
  by_cases hE : chkM r c n xs = 0
  · rw [if_neg (fun hc => hc hE)] at h
    by_cases hd : i < 0 ∨ j < 0 ∨ r - a < i ∨ c - b < j
    · rw [if_pos hd] at h; cases h
    · obtain ⟨R, C, rfl, rfl, h1, h2, h3, h4⟩ := chk_some hE
      obtain ⟨p, rfl⟩ := Int.eq_ofNat_of_zero_le (show 0 ≤ i by omega)
      obtain ⟨q, rfl⟩ := Int.eq_ofNat_of_zero_le (show 0 ≤ j by omega)
      exact ⟨hE, R, C, p, q, rfl, rfl, rfl, rfl, by omega, by omega, h1, h2, h3, h4⟩
  · rw [if_pos hE] at h
    exact absurd h hE
/-- A list handed back: numbers told by a function, or nothing. -/
def LstR (E : Int) (m : Nat) (g : Nat → Nat) (W : World) (s : Option Addr) (k cap : Nat) : Prop := (E = 0 ∧ k = m ∧ FnM W s k cap g) ∨ (E ≠ 0 ∧ s = none ∧ k = 0 ∧ cap = 0)
theorem LstR.below {E : Int} {m : Nat} {g : Nat → Nat} {W W' : World} {s : Option Addr} {k cap : Nat} (h : LstR E m g W s k cap) (hb : Below W.heap.size W W') : LstR E m g W' s k cap := by
  rcases h with ⟨h0, h1, h2⟩ | h
  · exact Or.inl ⟨h0, h1, h2.below hb⟩
  · exact Or.inr h
end Go.Proofs.Ytggiklghcnojiaa

namespace Go.Proofs.Ytggiklghcnojiaa
open Go.RowKit Go.IntWalk

/-- What With tells. -/
def withE (F : Int) (x : Nat) : Int := if F ≠ 0 then F else if finB x = true then 0 else 4
/-- What With hands back. -/
def WthR (G : Int) (r c : Int) (n p x : Nat) (f : Nat → Nat) (W : World) (X0 X1 : Int) (X2 : Option Addr) (X3 X4 : Nat) : Prop :=
  (G = 0 ∧ X0 = r ∧ X1 = c ∧ X3 = n ∧ ∃ o : Nat → Nat, FnM W X2 X3 X4 o ∧ ∀ k, k < n → o k = if k = p then x else f k) ∨ (G ≠ 0 ∧ X0 = 0 ∧ X1 = 0 ∧ X2 = none ∧ X3 = 0 ∧ X4 = 0)
theorem WthR.below {G r c : Int} {n p x : Nat} {f : Nat → Nat} {W W' : World} {X0 X1 : Int} {X2 : Option Addr} {X3 X4 : Nat} (h : WthR G r c n p x f W X0 X1 X2 X3 X4) (hb : Below W.heap.size W W') : WthR G r c n p x f W' X0 X1 X2 X3 X4 := by
  rcases h with ⟨h0, h1, h2, h3, o, h4, h5⟩ | h
  · exact Or.inl ⟨h0, h1, h2, h3, o, h4.below hb, h5⟩
  · exact Or.inr h
end Go.Proofs.Ytggiklghcnojiaa

namespace Go.Proofs.Ytggiklghcnojiaa
open Go.RowKit Go.IntWalk

/-- Numbers in memory of one's own. -/
def OwM (W : World) (B : Nat) (ta : Option Addr) (n cap : Nat) (xs : List Nat) : Prop := FlM W ta n cap xs ∧ (n = 0 ∨ ∃ g, ta = some ⟨g, 0, none⟩ ∧ B ≤ g ∧ ∀ k, W.frozen? ⟨g, k, none⟩ = false)
theorem OwM.mono {W : World} {B B' : Nat} {ta : Option Addr} {n cap : Nat} {xs : List Nat} (h : OwM W B ta n cap xs) (hb : B' ≤ B) : OwM W B' ta n cap xs := by
  rcases h.2 with h2 | ⟨g, h1, h2, h3⟩
  · exact ⟨h.1, Or.inl h2⟩
  · exact ⟨h.1, Or.inr ⟨g, h1, Nat.le_trans hb h2, h3⟩⟩
theorem fl_lt {W : World} {g n cap : Nat} {xs : List Nat} (h : FlM W (some ⟨g, 0, none⟩) n cap xs) : g < W.heap.size := by
  rcases h.2.2 with ⟨h1, _⟩ | ⟨b, off, h1, h2, _⟩
  · cases h1
  · simp only [Option.some.injEq, Addr.mk.injEq] at h1
    rw [h1.1]; exact h2
theorem OwM.below {W W' : World} {B : Nat} {ta : Option Addr} {n cap : Nat} {xs : List Nat} (h : OwM W B ta n cap xs) (hb : Below W.heap.size W W') : OwM W' B ta n cap xs := by
  refine ⟨h.1.below hb, ?_⟩
  rcases h.2 with h2 | ⟨g, h1, h2, h3⟩
  · exact Or.inl h2
  · subst h1
    exact Or.inr ⟨g, rfl, h2, fun k => (World.frozen?_of_block (hb.block g (fl_lt h.1))).trans (h3 k)⟩
theorem fl_cell {W : World} {g n cap : Nat} {xs : List Nat} (h : FlM W (some ⟨g, 0, none⟩) n cap xs) (hn : n ≠ 0) : ∃ x, W.cell? ⟨g, 0, none⟩ = some (.float .f64 x) := by
  rcases h.2.2 with ⟨h1, _⟩ | ⟨b, off, h1, _, _, _, h2⟩
  · cases h1
  · simp only [Option.some.injEq, Addr.mk.injEq, and_true] at h1
    obtain ⟨rfl, rfl⟩ := h1
    exact ⟨_, h2 0 (by omega)⟩
theorem fl_ne {W : World} {g n cap b : Nat} {xs : List Nat} {r0 c0 : Int} {s0 : Option Addr} {n0 k0 : Nat} (h : FlM W (some ⟨g, 0, none⟩) n cap xs) (hn : n ≠ 0) (hb : W.heap[b]? = some (MBox r0 c0 s0 n0 k0)) : g ≠ b := fun hc => by
  subst hc
  obtain ⟨x, hx⟩ := fl_cell h hn
  rw [(mcells_of hb).1] at hx
  cases hx
theorem OwM.sto {W : World} {B : Nat} {ta : Option Addr} {n cap : Nat} {xs : List Nat} (h : OwM W B ta n cap xs) {b : Nat} {r c r0 c0 : Int} {s s0 : Option Addr} {m k n0 k0 : Nat} (hb : W.heap[b]? = some (MBox r0 c0 s0 n0 k0)) : OwM (StoM W b r c s m k) B ta n cap xs := by
  refine ⟨sto_fl h.1 hb, ?_⟩
  by_cases hn : n = 0
  · exact Or.inl hn
  rcases h.2 with h2 | ⟨g, h1, h2, h3⟩
  · exact absurd h2 hn
  · subst h1
    exact Or.inr ⟨g, rfl, h2, fun k => (World.frozen?_of_block (StoM.keep (fl_ne h.1 hn hb))).trans (h3 k)⟩
end Go.Proofs.Ytggiklghcnojiaa

namespace Go.Proofs.Ytggiklghcnojiaa
open Go.RowKit Go.IntWalk

theorem ownsq_kept {w w' : World} {base : Nat} {v : Value} {xs : List Nat} (h : Owns w base v xs) (hb : Below w.heap.size w w') : Owns w' base v xs := by
  obtain ⟨h1, h2 | ⟨g, cap, cur, e1, e2, e3, e4⟩⟩ := h
  · exact ⟨h1, .inl h2⟩
  · exact ⟨h1, .inr ⟨g, cap, cur, e1, e2, (hb.block g (Array.getElem?_eq_some_iff.1 e3).1).trans e3, e4⟩⟩
end Go.Proofs.Ytggiklghcnojiaa

namespace Go.Proofs.Ytggiklghcnojiaa
open Go.RowKit Go.IntWalk

end Go.Proofs.Ytggiklghcnojiaa

namespace Go.Proofs.Ytggiklghcnojiaa
open Go.RowKit Go.IntWalk

/-- Four variables as they were laid. -/
def Fr5 (w W : World) (p0 p1 rb mb : Nat) (A B R M : Obj) : Prop := Below w.heap.size w W ∧ W.heap[p0]? = some A ∧ W.heap[p1]? = some B ∧ W.heap[rb]? = some R ∧ W.heap[mb]? = some M
theorem Fr5.drew {w W : World} {p0 p1 rb mb : Nat} {A B R M : Obj} (h : Fr5 w W p0 p1 rb mb A B R M) : Fr5 w W.drew p0 p1 rb mb A B R M := ⟨h.1.drew, h.2⟩
theorem Fr5.call {w W W' : World} {p0 p1 rb mb : Nat} {A B R M : Obj} (h : Fr5 w W p0 p1 rb mb A B R M) (hb : Below W.heap.size W W') : Fr5 w W' p0 p1 rb mb A B R M := ⟨h.1.trans (hb.mono h.1.size), blkM h.2.1 hb, blkM h.2.2.1 hb, blkM h.2.2.2.1 hb, blkM h.2.2.2.2 hb⟩
theorem Fr5.set {w W : World} {p0 p1 rb mb g k : Nat} {A B R M : Obj} (h : Fr5 w W p0 p1 rb mb A B R M) (h0 : p0 ≠ g) (h1 : p1 ≠ g) (h2 : rb ≠ g) (h3 : mb ≠ g) (hg : w.heap.size ≤ g) (x : Value) : Fr5 w (W.setCell ⟨g, k, none⟩ x) p0 p1 rb mb A B R M := ⟨h.1.setCell (p := ⟨g, k, none⟩) hg _, (set_keepM h0 x).trans h.2.1, (set_keepM h1 x).trans h.2.2.1, (set_keepM h2 x).trans h.2.2.2.1, (set_keepM h3 x).trans h.2.2.2.2⟩
end Go.Proofs.Ytggiklghcnojiaa

namespace Go.Proofs.Ytggiklghcnojiaa
open Go.RowKit Go.IntWalk

end Go.Proofs.Ytggiklghcnojiaa

namespace Go.Proofs.Ytggiklghcnojiaa
open Go.RowKit Go.IntWalk

theorem row_fnM {W : World} {g N : Nat} {o : Nat → Nat} (h : W.rowIs g 38 N (fun k => .float .f64 (o k))) (hlt : ∀ k, k < N → o k < 18446744073709551616) (hmax : N ≤ 9223372036854775807) : FnM W (some ⟨g, 0, none⟩) N N o :=
  Or.inr ⟨g, 0, rfl, h.lt, Nat.le_refl _, hmax, fun k hk => ⟨by rw [Nat.zero_add]; exact h.cell hk, hlt k hk⟩⟩
end Go.Proofs.Ytggiklghcnojiaa

namespace Go.Proofs.Ytggiklghcnojiaa
open Go.RowKit Go.IntWalk

/-- A list that isn't there beside an error. -/
def NonL (E : Int) : Value := .tuple #[.slice none 0 0, .int .i64 E]
/-- What MulVec hands back where all goes together: the numbers, or none beside ErrOver. -/
def AnsL (N g : Nat) (o : Nat → Nat) : Value := .tuple #[if finF N o = true then .slice (some ⟨g, 0, none⟩) N N else .slice none 0 0, .int .i64 (if finF N o = true then 0 else 5)]
end Go.Proofs.Ytggiklghcnojiaa

namespace Go.Proofs.Ytggiklghcnojiaa
open Go.RowKit Go.IntWalk

end Go.Proofs.Ytggiklghcnojiaa

namespace Go.Proofs.Ytggiklghcnojiaa
open Go.RowKit Go.IntWalk

end Go.Proofs.Ytggiklghcnojiaa

namespace Go.Proofs.Ytggiklghcnojiaa
open Go.RowKit Go.IntWalk

theorem first_two2 (a b : Int) : firstL [a, b] = first2 a b := by
  unfold first2
  by_cases h : a = 0
  · rw [if_pos h]
    show (if a = 0 then firstL [b] else a) = b
    rw [if_pos h]
    show (if b = 0 then firstL [] else b) = b
    by_cases hb : b = 0
    · rw [if_pos hb, hb]; rfl
    · rw [if_neg hb]
  · rw [if_neg h]
    show (if a = 0 then firstL [b] else a) = a
    rw [if_neg h]
theorem first2_zero {a b : Int} (h : first2 a b = 0) : a = 0 ∧ b = 0 := by
  unfold first2 at h
  by_cases c : a = 0
  · rw [if_pos c] at h; exact ⟨c, h⟩
  · rw [if_neg c] at h; exact absurd h c
/-- The numbers of a product. -/
def prdV (xs ys : List Nat) (c c2 : Nat) (i j : Nat) : Nat := dotM (fun k => xs.getD (i * c + k) 0) (fun k => ys.getD (k * c2 + j) 0) c
/-- What Mul tells of any two. -/
def mulT (rx cx : Int) (n : Nat) (xs : List Nat) (ry cy : Int) (m : Nat) (ys : List Nat) : Int := if first2 (chkM rx cx n xs) (chkM ry cy m ys) = 0 then mulE rx.toNat cx.toNat ry.toNat cy.toNat (prdV xs ys cx.toNat cy.toNat) else first2 (chkM rx cx n xs) (chkM ry cy m ys)
end Go.Proofs.Ytggiklghcnojiaa
