
/- Comparisons of ends; interval's In, Meets, Is. -/
import Derived.Test.YtdahhpimhmloiaaDoorP10
namespace Go.Proofs.YtdahhpimhmloiaaDoor
open Go.RowKit Go.IntWalk

/-- What the walk leaves of 'x <= y'. -/
def leB (x y : Nat) : Bool := FloatKind.f64.format.order x y == some .lt || FloatKind.f64.format.order x y == some .eq
theorem le_sv {x y : Nat} (hx : Cn x) (hy : Cn y) : leB x y = decide (sv x ≤ sv y) := by
  unfold leB
  rw [cn_order hx hy]
  rcases Int.lt_trichotomy (sv x) (sv y) with c | c | c
  · rw [cmp_lt c, decide_eq_true (by omega)]; rfl
  · rw [cmp_eq c, decide_eq_true (by omega)]; rfl
  · rw [cmp_gt c, decide_eq_false (by omega)]; rfl
theorem lt_sv {x y : Nat} (hx : Cn x) (hy : Cn y) : (FloatKind.f64.format.order x y == some .lt) = decide (sv x < sv y) := by
  rw [cn_order hx hy]
  rcases Int.lt_trichotomy (sv x) (sv y) with c | c | c
  · rw [cmp_lt c, decide_eq_true (by omega)]; rfl
  · rw [cmp_eq c, decide_eq_false (by omega)]; rfl
  · rw [cmp_gt c, decide_eq_false (by omega)]; rfl
theorem le_not {x y : Nat} (h : ¬ (FloatKind.f64.format.order x y = some .lt ∨ FloatKind.f64.format.order x y = some .eq)) : leB x y = false := by
  unfold leB
  rw [not_or] at h
  simp [h.1, h.2]
set_option maxHeartbeats 2000000 in
theorem In_any (a b c d : Nat) (w : World) (ha : a < 18446744073709551616) (hb : b < 18446744073709551616) (hc : c < 18446744073709551616) (hd : d < 18446744073709551616) : Calls Tryd.prog 13 #[IV a b, IV c d] w fun r w' => r = .returned (.bool (decide (sv (btLo c d) ≤ sv (btLo a b)) && decide (sv (btHi a b) ≤ sv (btHi c d)))) ∧ Below w.heap.size w w' := by
  obtain ⟨g1, g2⟩ := iblk2 w (IBox a b) (IBox c d)
  have HB0 : Hid (Below w.heap.size w ((w.alloc (IBox a b)).alloc (IBox c d))) := ((Below.refl _ _).alloc (Nat.le_refl _) _).alloc (by simp) _
  obtain ⟨W0, hW0⟩ : ∃ V, Hid ((w.alloc (IBox a b)).alloc (IBox c d) = V) := ⟨_, rfl⟩
  rw [hW0.out] at HB0 g1 g2
  have HC : Hid (∀ W, Hid (Below W0.heap.size W0 W) → (W.cell? ⟨w.heap.size, 0, none⟩ = some (.float .f64 a) ∧ W.cell? ⟨w.heap.size, 1, none⟩ = some (.float .f64 b)) ∧ (W.cell? ⟨w.heap.size + 1, 0, none⟩ = some (.float .f64 c) ∧ W.cell? ⟨w.heap.size + 1, 1, none⟩ = some (.float .f64 d)) ∧ (∀ o, W.frozen? ⟨w.heap.size, o, none⟩ = false) ∧ (∀ o, W.frozen? ⟨w.heap.size + 1, o, none⟩ = false)) := fun W hW => by
    have t1 := icells_of ((hW.out.block _ (Array.getElem?_eq_some_iff.1 g1).1).trans g1)
    have t2 := icells_of ((hW.out.block _ (Array.getElem?_eq_some_iff.1 g2).1).trans g2)
    exact ⟨⟨t1.1, t1.2.1⟩, ⟨t2.1, t2.2.1⟩, t1.2.2, t2.2.2⟩
  obtain ⟨n1, n2⟩ := cn_bt ha hb
  obtain ⟨n3, n4⟩ := cn_bt hc hd
  have HE : Hid ((leB (btLo c d) (btLo a b) && leB (btHi a b) (btHi c d)) = (decide (sv (btLo c d) ≤ sv (btLo a b)) && decide (sv (btHi a b) ≤ sv (btHi c d)))) := by
    show _ = _
    rw [le_sv n3 n1, le_sv n2 n4]
  have HE2 : Hid (¬ (FloatKind.f64.format.order (btLo c d) (btLo a b) = some .lt ∨ FloatKind.f64.format.order (btLo c d) (btLo a b) = some .eq) → false = (decide (sv (btLo c d) ≤ sv (btLo a b)) && decide (sv (btHi a b) ≤ sv (btHi c d)))) := fun h => by
    rw [← HE.out, le_not h]; rfl
  have HT : Hid (∀ x y W, Hid (Below W0.heap.size W0 W) → Calls Tryd.prog 40 #[IV x y] W fun r w' => r = .returned (IV (btLo x y) (btHi x y)) ∧ ((w'.cell? ⟨w.heap.size, 0, none⟩ = some (.float .f64 a) ∧ w'.cell? ⟨w.heap.size, 1, none⟩ = some (.float .f64 b)) ∧ (w'.cell? ⟨w.heap.size + 1, 0, none⟩ = some (.float .f64 c) ∧ w'.cell? ⟨w.heap.size + 1, 1, none⟩ = some (.float .f64 d)) ∧ (∀ o, w'.frozen? ⟨w.heap.size, o, none⟩ = false) ∧ (∀ o, w'.frozen? ⟨w.heap.size + 1, o, none⟩ = false)) ∧ Hid (Below W0.heap.size W0 w')) := fun x y W hW => by
    refine (taken_any x y W).mono ?_
    rintro r w' ⟨rfl, h⟩
    have h' : Below W0.heap.size W0 w' := hW.out.trans (h.mono hW.out.size)
    exact ⟨rfl, HC.out _ h', h'⟩
  have HQ0 : Hid (Below W0.heap.size W0 W0.drew) := (Below.refl _ _).drew
  obtain ⟨⟨y0, y1⟩, ⟨y2, y3⟩, _⟩ := HC.out W0 (Below.refl _ _)
  have hst := fstore
  unfold IBox at hW0
  have hW0' := hW0.out
  have HF4 : Hid (∀ W p q r s, Hid (Below W0.heap.size W0 W) → Below w.heap.size w (Set4 W w.heap.size p q r s)) := fun W p q r s h => Below.setCell (Below.setCell (Below.setCell (Below.setCell (HB0.out.trans (h.out.mono HB0.out.size)) (Nat.le_refl _) _) (Nat.le_refl _) _) (Nat.le_succ _) _) (Nat.le_succ _) _
  unfold IV at HT ⊢
  unfold Set4 at HF4
  clear ha hb hc hd n1 n2 n3 n4 g1 g2
  go_enter Tryd.func13, Tryd.ntmps13
  go_wp2_with fail
  go_region_with (first
    | (go_at_call 40; refine (HT.out _ _ _ (by assumption)).mono ?_; rintro r w1 ⟨rfl, ⟨⟨x0, x1⟩, ⟨x2, x3⟩, f0, f1⟩, HF⟩))
  all_goals go_wp2
  all_goals go_ret
  all_goals first | exact ⟨ret_boolV HE.out, HF4.out _ _ _ _ _ (by assumption)⟩ | exact ⟨ret_boolV (HE2.out (by assumption)), HF4.out _ _ _ _ _ (by assumption)⟩
end Go.Proofs.YtdahhpimhmloiaaDoor
