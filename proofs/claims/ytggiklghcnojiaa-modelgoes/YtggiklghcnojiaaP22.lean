
/- matrix: turned, byRows, answered, refused, the checks of two. -/
import Derived.Test.YtggiklghcnojiaaP21
import Derived.Test.YtggiklghcnojiaaP4
namespace Go.Proofs.Ytggiklghcnojiaa
open Go.RowKit Go.IntWalk

theorem FillR.fn {P : Nat → Nat → Nat → Prop} {r c B : Nat} {e : Ending} {w' : World} (h : FillR P r c (r * c) B e w') (hmax : r * c ≤ 9223372036854775807) : ∃ (g : Nat) (o : Nat → Nat), e = .returned (MV r c (some ⟨g, 0, none⟩) (r * c) (r * c)) ∧ B ≤ g ∧ FnM w' (some ⟨g, 0, none⟩) (r * c) (r * c) o ∧ ∀ i j, i < r → j < c → P i j (o (i * c + j)) := by
  obtain ⟨g, o, h1, h2, h3, h4⟩ := h
  refine ⟨g, o, h1, h2, Or.inr ⟨g, 0, rfl, h3.lt, Nat.le_refl _, hmax, fun k hk => ?_⟩, fun i j hi hj => (h4 i j hi hj).1⟩
  have hc : 0 < c := by
    apply Classical.byContradiction
    intro hc
    have : c = 0 := by omega
    subst this
    omega
  have e1 : k / c * c + k % c = k := by rw [Nat.mul_comm]; exact Nat.div_add_mod k c
  have := h4 (k / c) (k % c) ((Nat.div_lt_iff_lt_mul hc).2 hk) (Nat.mod_lt _ hc)
  rw [e1] at this
  exact ⟨by rw [Nat.zero_add]; exact h3.cell hk, this.2⟩
theorem mir_at {P : Nat → Nat → Nat → Prop} {n : Nat} {o : Nat → Nat} (h : ∀ i j, i < n → j ≤ i → MirP P n o i j) (i j : Nat) (hi : i < n) (hj : j < n) : o (i * n + j) < 18446744073709551616 ∧ o (i * n + j) = o (j * n + i) := by
  by_cases c : j ≤ i
  · obtain ⟨⟨_, h2⟩, h3⟩ := h i j hi c
    exact ⟨h2, h3.symm⟩
  · obtain ⟨⟨_, h2⟩, h3⟩ := h j i hj (by omega)
    exact ⟨by rw [h3]; exact h2, h3⟩
theorem MirR.fn {P : Nat → Nat → Nat → Prop} {n B : Nat} {e : Ending} {w' : World} (h : MirR P n (n * n) B e w') (hmax : n * n ≤ 9223372036854775807) : ∃ (g : Nat) (o : Nat → Nat), e = .returned (MV n n (some ⟨g, 0, none⟩) (n * n) (n * n)) ∧ B ≤ g ∧ FnM w' (some ⟨g, 0, none⟩) (n * n) (n * n) o ∧ (∀ i j, i < n → j < n → o (i * n + j) = o (j * n + i)) ∧ ∀ i j, i < n → j ≤ i → P i j (o (i * n + j)) := by
  obtain ⟨g, o, h1, h2, h3, h4⟩ := h
  refine ⟨g, o, h1, h2, Or.inr ⟨g, 0, rfl, h3.lt, Nat.le_refl _, hmax, fun k hk => ?_⟩, fun i j hi hj => (mir_at h4 i j hi hj).2, fun i j hi hj => (h4 i j hi hj).1.1⟩
  have hc : 0 < n := by
    apply Classical.byContradiction
    intro hc
    have : n = 0 := by omega
    subst this
    omega
  have e1 : k / n * n + k % n = k := by rw [Nat.mul_comm]; exact Nat.div_add_mod k n
  have := mir_at h4 (k / n) (k % n) ((Nat.div_lt_iff_lt_mul hc).2 hk) (Nat.mod_lt _ hc)
  rw [e1] at this
  exact ⟨by rw [Nat.zero_add]; exact h3.cell hk, this.1⟩
/-- Blocks laid one behind the other. -/
theorem two_b (w : World) (A R : Obj) : ((w.alloc A).alloc R).heap[w.heap.size]? = some A ∧ ((w.alloc A).alloc R).heap[w.heap.size + 1]? = some R ∧ Below w.heap.size w ((w.alloc A).alloc R) ∧ ((w.alloc A).alloc R).heap.size = w.heap.size + 2 := by
  refine ⟨?_, ?_, ((Below.refl _ _).alloc (Nat.le_refl _) _).alloc (by simp) _, by simp⟩
  · rw [((Below.refl (w.alloc A).heap.size (w.alloc A)).alloc (Nat.le_refl _) R).block _ (by simp)]
    exact nblkM _ _
  · have := nblkM (w.alloc A) R
    rw [World.size_alloc] at this
    exact this
theorem three_b (w : World) (A B R : Obj) : (((w.alloc A).alloc B).alloc R).heap[w.heap.size]? = some A ∧ (((w.alloc A).alloc B).alloc R).heap[w.heap.size + 1]? = some B ∧ (((w.alloc A).alloc B).alloc R).heap[w.heap.size + 1 + 1]? = some R ∧ Below w.heap.size w (((w.alloc A).alloc B).alloc R) ∧ (((w.alloc A).alloc B).alloc R).heap.size = w.heap.size + 3 := by
  obtain ⟨h1, h2, h3, h4⟩ := two_b w A B
  have hb : Below ((w.alloc A).alloc B).heap.size ((w.alloc A).alloc B) (((w.alloc A).alloc B).alloc R) := (Below.refl _ _).alloc (Nat.le_refl _) R
  refine ⟨(hb.block _ (by rw [h4]; omega)).trans h1, (hb.block _ (by rw [h4]; omega)).trans h2, ?_, h3.trans (hb.mono h3.size), by simp⟩
  have := nblkM ((w.alloc A).alloc B) R
  rw [h4] at this
  exact this
theorem blkM {A B : World} {b : Nat} {o : Obj} (h : A.heap[b]? = some o) (hb : Below A.heap.size A B) : B.heap[b]? = some o := (hb.block _ (Array.getElem?_eq_some_iff.1 h).1).trans h
theorem frzM {A : World} {b : Nat} {r c : Int} {sa : Option Addr} {n cap : Nat} (h : A.heap[b]? = some (MBox r c sa n cap)) (o : Nat) : A.frozen? ⟨b, o, none⟩ = false := by unfold MBox at h; simp [World.frozen?, h]
/-- A matrix' three stores into a variable. -/
def StoM (W : World) (b : Nat) (r c : Int) (sa : Option Addr) (n cap : Nat) : World := ((W.setCell ⟨b, 0, none⟩ (.int .i64 r)).setCell ⟨b, 1, none⟩ (.int .i64 c)).setCell ⟨b, 2, none⟩ (.slice sa n cap)
theorem StoM.keep {W : World} {a b : Nat} {r c : Int} {sa : Option Addr} {n cap : Nat} (hab : a ≠ b) : (StoM W b r c sa n cap).heap[a]? = W.heap[a]? := by
  unfold StoM
  rw [set_keepM hab, set_keepM hab, set_keepM hab]
theorem StoM.below {w W : World} {b : Nat} {r c : Int} {sa : Option Addr} {n cap : Nat} (h : Below w.heap.size w W) (hb : w.heap.size ≤ b) : Below w.heap.size w (StoM W b r c sa n cap) :=
  ((h.setCell (p := ⟨b, 0, none⟩) hb _).setCell (p := ⟨b, 1, none⟩) hb _).setCell (p := ⟨b, 2, none⟩) hb _
theorem StoM.fn {W : World} {b : Nat} {r c r0 c0 : Int} {sa sb s0 : Option Addr} {n cap m k n0 k0 : Nat} {f : Nat → Nat} (h : FnM W sb m k f) (hb : W.heap[b]? = some (MBox r0 c0 s0 n0 k0)) : FnM (StoM W b r c sa n cap) sb m k f := by
  rcases h with h | ⟨b', off, h3, h4, h5, h6, h7⟩
  · exact Or.inl h
  · by_cases hm : m = 0
    · subst hm
      refine Or.inr ⟨b', off, h3, ?_, h5, h6, fun j hj => absurd hj (Nat.not_lt_zero j)⟩
      unfold StoM
      simpa [World.setCell] using h4
    · have hne : b' ≠ b := fun hc => by
        subst hc
        have h8 := (h7 0 (by omega)).1
        unfold MBox at hb
        rw [Nat.add_zero] at h8
        simp only [World.cell?, hb] at h8
        match off, h8 with
        | 0, h8 => simp at h8
        | 1, h8 => simp at h8
        | 2, h8 => simp at h8
        | (t + 3), h8 => simp at h8
      refine Or.inr ⟨b', off, h3, ?_, h5, h6, fun j hj => ⟨?_, (h7 j hj).2⟩⟩
      · unfold StoM
        simpa [World.setCell] using h4
      · have := (h7 j hj).1
        unfold World.cell? at this ⊢
        rw [StoM.keep hne]
        exact this
/-- The numbers told by a function: all finite. -/
def finF (n : Nat) (f : Nat → Nat) : Bool := finM ((List.range n).map f)
/-- The first of two errors. -/
def first2 (a b : Int) : Int := if a = 0 then b else a
end Go.Proofs.Ytggiklghcnojiaa

namespace Go.Proofs.Ytggiklghcnojiaa
open Go.RowKit Go.IntWalk

/-- Two variables that hold matrices as they were laid. -/
def Fr3 (w W : World) (p0 p1 : Nat) (A B : Obj) : Prop := Below w.heap.size w W ∧ W.heap[p0]? = some A ∧ W.heap[p1]? = some B
theorem Fr3.drew {w W : World} {p0 p1 : Nat} {A B : Obj} (h : Fr3 w W p0 p1 A B) : Fr3 w W.drew p0 p1 A B := ⟨h.1.drew, h.2.1, h.2.2⟩
theorem Fr3.call {w W W' : World} {p0 p1 : Nat} {A B : Obj} (h : Fr3 w W p0 p1 A B) (hb : Below W.heap.size W W') : Fr3 w W' p0 p1 A B := ⟨h.1.trans (hb.mono h.1.size), blkM h.2.1 hb, blkM h.2.2 hb⟩
theorem Fr3.sto {w W : World} {p0 p1 b : Nat} {A B : Obj} {r c : Int} {sa : Option Addr} {n cap : Nat} (h : Fr3 w W p0 p1 A B) (h0 : p0 ≠ b) (h1 : p1 ≠ b) (hb : w.heap.size ≤ b) : Fr3 w (StoM W b r c sa n cap) p0 p1 A B := ⟨StoM.below h.1 hb, (StoM.keep h0).trans h.2.1, (StoM.keep h1).trans h.2.2⟩
theorem chk_good {r c n : Nat} {xs : List Nat} (hr : r ≤ 12) (hc : c ≤ 12) (hn : n = r * c) (hf : finM xs = true) : chkM r c n xs = 0 := by
  unfold chkM sideB
  rw [if_neg (by simp; omega), if_neg (by rw [hn]; simp), if_neg (by rw [hf]; simp)]
theorem chk_some {r c : Int} {n : Nat} {xs : List Nat} (h : chkM r c n xs = 0) : ∃ a b : Nat, r = a ∧ c = b ∧ a ≤ 12 ∧ b ≤ 12 ∧ n = a * b ∧ finM xs = true := by
  unfold chkM at h
  by_cases h1 : sideB r = false ∨ sideB c = false
  · rw [if_pos h1] at h; cases h
  rw [if_neg h1] at h
  by_cases h2 : (n : Int) ≠ r * c
  · rw [if_pos h2] at h; cases h
  rw [if_neg h2] at h
  by_cases h3 : finM xs = false
  · rw [if_pos h3] at h; cases h
  have hr : 0 ≤ r ∧ r ≤ 12 := by
    have : sideB r = true := by revert h1; cases sideB r <;> simp
    unfold sideB at this; simpa using this
  have hc : 0 ≤ c ∧ c ≤ 12 := by
    have : sideB c = true := by revert h1; cases sideB c <;> simp
    unfold sideB at this; simpa using this
  obtain ⟨a, rfl⟩ := Int.eq_ofNat_of_zero_le hr.1
  obtain ⟨b, rfl⟩ := Int.eq_ofNat_of_zero_le hc.1
  refine ⟨a, b, rfl, rfl, by omega, by omega, ?_, by revert h3; cases finM xs <;> simp⟩
  have h4 : (n : Int) = (a : Int) * (b : Int) := by
    apply Classical.byContradiction
    intro h5
    exact h2 h5
  exact_mod_cast h4
/-- A good matrix. -/
def Gd (w : World) (r c : Nat) (sa : Option Addr) (n cap : Nat) (f : Nat → Nat) : Prop := r ≤ 12 ∧ c ≤ 12 ∧ n = r * c ∧ FnM w sa n cap f ∧ finF n f = true
theorem Gd.below {w w' : World} {r c : Nat} {sa : Option Addr} {n cap : Nat} {f : Nat → Nat} (h : Gd w r c sa n cap f) (hb : Below w.heap.size w w') : Gd w' r c sa n cap f := ⟨h.1, h.2.1, h.2.2.1, h.2.2.2.1.below hb, h.2.2.2.2⟩
theorem Gd.le {w : World} {r c : Nat} {sa : Option Addr} {n cap : Nat} {f : Nat → Nat} (h : Gd w r c sa n cap f) : n ≤ 144 := by
  rw [h.2.2.1]; exact Nat.mul_le_mul h.1 h.2.1
theorem Gd.chk {w : World} {r c : Nat} {sa : Option Addr} {n cap : Nat} {f : Nat → Nat} (h : Gd w r c sa n cap f) : chkM r c n ((List.range n).map f) = 0 := chk_good h.1 h.2.1 h.2.2.1 h.2.2.2.2
/-- What a call hands back: the matrix, or none beside ErrOver. -/
def AnsM (r c N g : Nat) (o : Nat → Nat) : Value := .tuple #[if finF N o = true then MV r c (some ⟨g, 0, none⟩) N N else MV 0 0 none 0 0, .int .i64 (if finF N o = true then 0 else 5)]
end Go.Proofs.Ytggiklghcnojiaa

namespace Go.Proofs.Ytggiklghcnojiaa
open Go.RowKit Go.IntWalk

/-- Nothing beside an error. -/
def NonM (E : Int) : Value := .tuple #[MV 0 0 none 0 0, .int .i64 E]
end Go.Proofs.Ytggiklghcnojiaa

namespace Go.Proofs.Ytggiklghcnojiaa
open Go.RowKit Go.IntWalk

end Go.Proofs.Ytggiklghcnojiaa

namespace Go.Proofs.Ytggiklghcnojiaa
open Go.RowKit Go.IntWalk

end Go.Proofs.Ytggiklghcnojiaa
