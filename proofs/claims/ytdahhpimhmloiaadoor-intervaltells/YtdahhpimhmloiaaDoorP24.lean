
/- Contracts of interval's calls at a frame; three boxes. -/
import Derived.Test.YtdahhpimhmloiaaDoorP17
import Derived.Test.YtdahhpimhmloiaaDoorP23
namespace Go.Proofs.YtdahhpimhmloiaaDoor
open Go.RowKit Go.IntWalk

/-- The cells of three blocks of two. -/
def C3 (W : World) (n m k : Nat) (a b c d e f : Value) : Prop := (W.cell? ⟨n, 0, none⟩ = some a ∧ W.cell? ⟨n, 1, none⟩ = some b) ∧ (W.cell? ⟨m, 0, none⟩ = some c ∧ W.cell? ⟨m, 1, none⟩ = some d) ∧ (W.cell? ⟨k, 0, none⟩ = some e ∧ W.cell? ⟨k, 1, none⟩ = some f)
theorem c3_of {W W0 : World} {n m k : Nat} {a b c d e f : Value} {T : TypeId} (g1 : W0.heap[n]? = some (.cells #[a, b] T)) (g2 : W0.heap[m]? = some (.cells #[c, d] T)) (g3 : W0.heap[k]? = some (.cells #[e, f] T)) (hW : Below W0.heap.size W0 W) : C3 W n m k a b c d e f := by
  have t1 := icells_of ((hW.block _ (Array.getElem?_eq_some_iff.1 g1).1).trans g1)
  have t2 := icells_of ((hW.block _ (Array.getElem?_eq_some_iff.1 g2).1).trans g2)
  have t3 := icells_of ((hW.block _ (Array.getElem?_eq_some_iff.1 g3).1).trans g3)
  exact ⟨⟨t1.1, t1.2.1⟩, ⟨t2.1, t2.2.1⟩, t3.1, t3.2.1⟩
/-- Three boxes' cells. -/
def Box3 (V : World) (p q r : Nat) (a b c d e f : Nat) : Prop := C3 V p q r (.float .f64 a) (.float .f64 b) (.float .f64 c) (.float .f64 d) (.float .f64 e) (.float .f64 f) ∧ p < V.heap.size ∧ q < V.heap.size ∧ r < V.heap.size
theorem st2 {B : Nat} {w W : World} (h : Hid (Below B w W)) (P : Nat) (hP : B ≤ P) (x y : Value) : Hid (Below B w ((W.setCell ⟨P, 0, none⟩ x).setCell ⟨P, 1, none⟩ y)) := Below.setCell (Below.setCell h.out hP x) hP y
theorem al2 {B : Nat} {w W : World} (h : Hid (Below B w W)) (hB : Hid (B ≤ w.heap.size)) (o : Obj) : Hid (Below B w (W.alloc o)) := h.out.alloc (Nat.le_trans hB.out h.out.size) o
theorem dr2 {B : Nat} {w W : World} (h : Hid (Below B w W)) : Hid (Below B w W.drew) := h.out.drew
/-- Equal ends, kept as they are. -/
def EqN (x y z u : Nat) : Prop := x = z ∧ y = u ∧ Nrm z u
theorem eqn {x y z u : Nat} (h : x = z ∧ y = u) (n : Nrm z u) : EqN x y z u := ⟨h.1, h.2, n⟩
/-- What a call leaves: blocks as they were, the frame. -/
def Lft (V W w' : World) : Prop := ((∀ b o, b < W.heap.size → w'.cell? ⟨b, o, none⟩ = W.cell? ⟨b, o, none⟩) ∧ (∀ b o, b < W.heap.size → w'.frozen? ⟨b, o, none⟩ = W.frozen? ⟨b, o, none⟩)) ∧ Hid (Below V.heap.size V w') ∧ (∀ n, n < W.heap.size → n < w'.heap.size) ∧ V.heap.size ≤ w'.heap.size
theorem lft {V W w' : World} (hW : Hid (Below V.heap.size V W)) (h : Below W.heap.size W w') : Lft V W w' := ⟨bcell h, hW.out.trans (h.mono hW.out.size), fun _ hn => Nat.lt_of_lt_of_le hn h.size, Nat.le_trans hW.out.size h.size⟩
theorem hull_fr (V : World) (x y z u : Nat) (W : World) (h1 : E2 x y) (h2 : E2 z u) (hW : Hid (Below V.heap.size V W)) : Calls Tryd.prog 9 #[.agg #[.float .f64 x, .float .f64 y], .agg #[.float .f64 z, .float .f64 u]] W fun r w' => r = .returned (.agg #[.float .f64 (huL x y z u), .float .f64 (huH x y z u)]) ∧ E2 (huL x y z u) (huH x y z u) ∧ Lft V W w' := by
  refine (Hull_any x y z u W h1.1 h1.2 h2.1 h2.2).mono ?_
  rintro r w' ⟨rfl, h⟩
  exact ⟨rfl, nrm_e2 (hu_nrm h1 h2), lft hW h⟩
theorem meet_fr (V : World) (x y z u : Nat) (W : World) (h1 : E2 x y) (h2 : E2 z u) (hW : Hid (Below V.heap.size V W)) : Calls Tryd.prog 8 #[.agg #[.float .f64 x, .float .f64 y], .agg #[.float .f64 z, .float .f64 u]] W fun r w' => r = .returned (.agg #[.float .f64 (meLo x y z u), .float .f64 (meHi x y z u)]) ∧ E2 (meLo x y z u) (meHi x y z u) ∧ Lft V W w' := by
  refine (Meet_any x y z u W h1.1 h1.2 h2.1 h2.2).mono ?_
  rintro r w' ⟨rfl, h⟩
  exact ⟨rfl, nrm_e2 (me_nrm h1 h2), lft hW h⟩
theorem same_fr (V : World) (x y z u : Nat) (W : World) (h1 : EqN x y z u) (hW : Hid (Below V.heap.size V W)) : Calls Tryd.prog 11 #[.agg #[.float .f64 x, .float .f64 y], .agg #[.float .f64 z, .float .f64 u]] W fun r w' => r = .returned (.bool true) ∧ Lft V W w' := by
  obtain ⟨e1, e2, n⟩ := h1
  refine (same6_cn x y z u W n.1 n.2.1).mono ?_
  rintro r w' ⟨rfl, h⟩
  refine ⟨?_, lft hW h⟩
  unfold sameB
  rw [decide_eq_true e1, decide_eq_true e2]; rfl
theorem sameB_fr (V : World) (x y z u : Nat) (W : World) (n : Nrm z u) (hW : Hid (Below V.heap.size V W)) : Calls Tryd.prog 11 #[.agg #[.float .f64 x, .float .f64 y], .agg #[.float .f64 z, .float .f64 u]] W fun r w' => r = .returned (.bool (sameB x y z u)) ∧ Lft V W w' := by
  refine (same6_cn x y z u W n.1 n.2.1).mono ?_
  rintro r w' ⟨rfl, h⟩
  exact ⟨rfl, lft hW h⟩
theorem empty_fr (V W : World) (hW : Hid (Below V.heap.size V W)) : Calls Tryd.prog 12 #[] W fun r w' => r = .returned (.agg #[.float .f64 9218868437227405312, .float .f64 18442240474082181120]) ∧ Lft V W w' := by
  refine (Empty_any W).mono ?_
  rintro r w' ⟨rfl, h⟩
  exact ⟨rfl, lft hW h⟩
/-- In's answer. -/
def inB (x y z u : Nat) : Bool := decide (sv (btLo z u) ≤ sv (btLo x y)) && decide (sv (btHi x y) ≤ sv (btHi z u))
theorem in_fr (V : World) (x y z u : Nat) (W : World) (h1 : E2 x y) (h2 : E2 z u) (hW : Hid (Below V.heap.size V W)) : Calls Tryd.prog 13 #[.agg #[.float .f64 x, .float .f64 y], .agg #[.float .f64 z, .float .f64 u]] W fun r w' => r = .returned (.bool (inB x y z u)) ∧ Lft V W w' := by
  refine (In_any x y z u W h1.1 h1.2 h2.1 h2.2).mono ?_
  rintro r w' ⟨rfl, h⟩
  exact ⟨rfl, lft hW h⟩
theorem is_fr (V : World) (x y : Nat) (W : World) (hW : Hid (Below V.heap.size V W)) : Calls Tryd.prog 10 #[.agg #[.float .f64 x, .float .f64 y]] W fun r w' => r = .returned (.bool (fullB x y || noneB x y)) ∧ Lft V W w' := by
  refine (Is_any x y W).mono ?_
  rintro r w' ⟨rfl, h⟩
  exact ⟨rfl, lft hW h⟩
theorem absorb_full {a b c d : Nat} (h1 : E2 a b) (h2 : E2 c d) (h : fullB a b = true) : FloatKind.f64.format.order (meLo a b (huL a b c d) (huH a b c d)) a = some .eq ∧ FloatKind.f64.format.order (meHi a b (huL a b c d) (huH a b c d)) b = some .eq := by
  obtain ⟨e1, e2⟩ := me_absorb h1 h2
  obtain ⟨n1, n2⟩ := full_nums h
  have f1 : btLo a b = plusOf a := if_pos h
  have f2 : btHi a b = plusOf b := if_pos h
  have k1 := cn_plus h1.1 n1
  have k2 := cn_plus h1.2 n2
  rw [e1, e2, f1, f2, order_eq _ _ k1.1 h1.1 k1.2.1 n1, order_eq _ _ k2.1 h1.2 k2.2.1 n2, plus_sv a h1.1 n1, plus_sv b h1.2 n2]
  exact ⟨by rw [cmp_eq rfl], by rw [cmp_eq rfl]⟩
theorem nrm_none : Nrm 9218868437227405312 18442240474082181120 := ⟨cn_pi, cn_ni, Or.inr ⟨rfl, pi_neg⟩⟩
theorem absorb_none {a b c d : Nat} (h1 : E2 a b) (h2 : E2 c d) (h : fullB a b = false) : EqN (meLo a b (huL a b c d) (huH a b c d)) (meHi a b (huL a b c d) (huH a b c d)) 9218868437227405312 18442240474082181120 := by
  obtain ⟨e1, e2⟩ := me_absorb h1 h2
  have f1 : btLo a b = 9218868437227405312 := if_neg (by rw [h]; decide)
  have f2 : btHi a b = 18442240474082181120 := if_neg (by rw [h]; decide)
  exact ⟨e1.trans f1, e2.trans f2, nrm_none⟩
theorem full_le {a b : Nat} (h : fullB a b = true) : (FloatKind.f64.format.order a b == some .lt || FloatKind.f64.format.order a b == some .eq) = true := by
  unfold fullB at h
  simp only [Bool.and_eq_true] at h
  exact h.1.1
theorem none_gt {a b : Nat} (h1 : E2 a b) (h : noneB a b = true) : FloatKind.f64.format.order a b = some .gt := by
  unfold noneB at h
  simp only [Bool.and_eq_true, beq_iff_eq] at h
  have n1 := order_some (x := a) (by rw [h.1]; simp)
  have n2 := order_some (x := b) (by rw [h.2]; simp)
  rw [order_eq _ _ h1.1 (by decide) n1 (by decide), order_eq _ _ h1.2 (by decide) n2 (by decide)] at h
  have q1 := Int.compare_eq_eq.1 (Option.some.inj h.1)
  have q2 := Int.compare_eq_eq.1 (Option.some.inj h.2)
  rw [order_eq _ _ h1.1 h1.2 n1 n2, q1, q2]
  decide +kernel
theorem in_trans {a b c d e f : Nat} (h1 : inB a b c d = true) (h2 : inB c d e f = true) : inB a b e f = true := by
  unfold inB at *
  simp only [Bool.and_eq_true, decide_eq_true_eq] at *
  omega
theorem in_self (a b : Nat) : inB a b a b = true := by
  unfold inB
  simp
theorem in_both {a b c d : Nat} (h1 : E2 a b) (h2 : E2 c d) (k1 : inB a b c d = true) (k2 : inB c d a b = true) : EqN (huL a b a b) (huH a b a b) (huL c d c d) (huH c d c d) := by
  refine ⟨?_, ?_, hu_nrm h2 h2⟩
  all_goals
    obtain ⟨s1, s2⟩ := hu_self h1
    obtain ⟨s3, s4⟩ := hu_self h2
    unfold inB at k1 k2
    simp only [Bool.and_eq_true, decide_eq_true_eq] at k1 k2
    have n1 := nrm_any h1.1 h1.2
    have n2 := nrm_any h2.1 h2.2
  · rw [s1, s3]; exact cn_inj n1.1 n2.1 (by omega)
  · rw [s2, s4]; exact cn_inj n1.2.1 n2.2.1 (by omega)
theorem meets_same {a b c d : Nat} (h1 : E2 a b) (h2 : E2 c d) : noneB (meLo a b c d) (meHi a b c d) = sameB (meLo a b c d) (meHi a b c d) 9218868437227405312 18442240474082181120 := none_bits (me_nrm h1 h2)
theorem meets_fr (V : World) (x y z u : Nat) (W : World) (h1 : E2 x y) (h2 : E2 z u) (hW : Hid (Below V.heap.size V W)) : Calls Tryd.prog 14 #[.agg #[.float .f64 x, .float .f64 y], .agg #[.float .f64 z, .float .f64 u]] W fun r w' => r = .returned (.bool (!sameB (meLo x y z u) (meHi x y z u) 9218868437227405312 18442240474082181120)) ∧ Lft V W w' := by
  refine (Meets_any x y z u W h1.1 h1.2 h2.1 h2.2).mono ?_
  rintro r w' ⟨rfl, h⟩
  exact ⟨by rw [meets_same h1 h2], lft hW h⟩
end Go.Proofs.YtdahhpimhmloiaaDoor
