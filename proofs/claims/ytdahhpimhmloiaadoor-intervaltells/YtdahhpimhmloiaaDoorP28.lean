
/- interval's Below; the document's least, most. -/
import Derived.Test.YtdahhpimhmloiaaDoorP27
namespace Go.Proofs.YtdahhpimhmloiaaDoor
open Go.RowKit Go.IntWalk

/-- What four stores leave in two blocks of ends. -/
theorem set4_cells {w W0 W : World} {a b c d : Nat} (g1 : W0.heap[w.heap.size]? = some (IBox a b)) (g2 : W0.heap[w.heap.size + 1]? = some (IBox c d)) (h : Below W0.heap.size W0 W) (p q r s : Nat) :
    (Set4 W w.heap.size (.float .f64 p) (.float .f64 q) (.float .f64 r) (.float .f64 s)).heap[w.heap.size]? = some (IBox p q) ∧ (Set4 W w.heap.size (.float .f64 p) (.float .f64 q) (.float .f64 r) (.float .f64 s)).heap[w.heap.size + 1]? = some (IBox r s) := by
  have k1 : W.heap[w.heap.size]? = some (.cells #[.float .f64 a, .float .f64 b] 28) := (h.block _ (Array.getElem?_eq_some_iff.1 g1).1).trans g1
  have k2 : W.heap[w.heap.size + 1]? = some (.cells #[.float .f64 c, .float .f64 d] 28) := (h.block _ (Array.getElem?_eq_some_iff.1 g2).1).trans g2
  unfold Set4
  constructor
  · rw [Below.heap_setCell _ _ _ _ (by show _ ≠ w.heap.size + 1; omega), Below.heap_setCell _ _ _ _ (by show _ ≠ w.heap.size + 1; omega)]
    simp [World.setCell, Array.getElem?_modify, k1, IBox]
  · have e : ((W.setCell ⟨w.heap.size, 0, none⟩ (.float .f64 p)).setCell ⟨w.heap.size, 1, none⟩ (.float .f64 q)).heap[w.heap.size + 1]? = some (.cells #[.float .f64 c, .float .f64 d] 28) := by
      rw [Below.heap_setCell _ _ _ _ (by show _ ≠ w.heap.size; omega), Below.heap_setCell _ _ _ _ (by show _ ≠ w.heap.size; omega)]
      exact k2
    obtain ⟨X, hX⟩ : ∃ X, X = (W.setCell ⟨w.heap.size, 0, none⟩ (.float .f64 p)).setCell ⟨w.heap.size, 1, none⟩ (.float .f64 q) := ⟨_, rfl⟩
    rw [← hX] at e ⊢
    simp [World.setCell, Array.getElem?_modify, e, IBox]
/-- Below's answer. -/
theorem none_bt (a b : Nat) : noneB (btLo a b) (btHi a b) = !fullB a b := by
  by_cases c : fullB a b = true
  · rw [c]
    have e1 : btLo a b = plusOf a := if_pos c
    have e2 : btHi a b = plusOf b := if_pos c
    rw [e1, e2]
    unfold noneB
    have hlt : FloatKind.f64.format.order a 9218868437227405312 = some .lt := by
      unfold fullB at c
      simp only [Bool.and_eq_true, beq_iff_eq] at c
      exact c.1.2
    have : FloatKind.f64.format.order (plusOf a) 9218868437227405312 = some .lt := by
      unfold plusOf
      split
      · decide +kernel
      · exact hlt
    rw [this]; rfl
  · rw [Bool.eq_false_iff.2 c]
    have e1 : btLo a b = 9218868437227405312 := if_neg c
    have e2 : btHi a b = 18442240474082181120 := if_neg c
    rw [e1, e2]
    decide +kernel
theorem below_is {a b c d : Nat} (h1 : E2 a b) (h2 : E2 c d) : (noneB (btLo a b) (btHi a b) || (noneB (btLo c d) (btHi c d) || FloatKind.f64.format.order (btHi a b) (btLo c d) == some .lt)) = rbeB a b c d := by
  rw [none_bt, none_bt]
  unfold rbeB
  by_cases k1 : fullB a b = true
  · by_cases k2 : fullB c d = true
    · obtain ⟨n1, n2⟩ := full_nn h1.1 h1.2 k1
      obtain ⟨n3, n4⟩ := full_nn h2.1 h2.2 k2
      have e2 : btHi a b = plusOf b := if_pos k1
      have e3 : btLo c d = plusOf c := if_pos k2
      have p2 := cn_plus n2.1 n2.2
      have p3 := cn_plus n3.1 n3.2
      rw [e2, e3, order_eq _ _ p2.1 p3.1 p2.2.1 p3.2.1, order_eq _ _ n2.1 n3.1 n2.2 n3.2, plus_sv b n2.1 n2.2, plus_sv c n3.1 n3.2]
    · rw [Bool.eq_false_iff.2 k2]
      cases fullB a b <;> rfl
  · rw [Bool.eq_false_iff.2 k1]
    rfl
set_option maxHeartbeats 4000000 in
theorem Below_any (a b c d : Nat) (w : World) (h1 : E2 a b) (h2 : E2 c d) : Calls Tryd.prog 28 #[IV a b, IV c d] w fun r w' => r = .returned (.bool (rbeB a b c d)) ∧ Below w.heap.size w w' := by
  obtain ⟨g1, g2⟩ := iblk2 w (IBox a b) (IBox c d)
  have HB0 : Hid (Below w.heap.size w ((w.alloc (IBox a b)).alloc (IBox c d))) := ((Below.refl _ _).alloc (Nat.le_refl _) _).alloc (by simp) _
  obtain ⟨W0, hW0⟩ : ∃ V, Hid ((w.alloc (IBox a b)).alloc (IBox c d) = V) := ⟨_, rfl⟩
  rw [hW0.out] at HB0 g1 g2
  have HC : Hid (∀ W, Hid (Below W0.heap.size W0 W) → (W.cell? ⟨w.heap.size, 0, none⟩ = some (.float .f64 a) ∧ W.cell? ⟨w.heap.size, 1, none⟩ = some (.float .f64 b)) ∧ (W.cell? ⟨w.heap.size + 1, 0, none⟩ = some (.float .f64 c) ∧ W.cell? ⟨w.heap.size + 1, 1, none⟩ = some (.float .f64 d)) ∧ (∀ o, W.frozen? ⟨w.heap.size, o, none⟩ = false) ∧ (∀ o, W.frozen? ⟨w.heap.size + 1, o, none⟩ = false)) := fun W hW => by
    have t1 := icells_of ((hW.out.block _ (Array.getElem?_eq_some_iff.1 g1).1).trans g1)
    have t2 := icells_of ((hW.out.block _ (Array.getElem?_eq_some_iff.1 g2).1).trans g2)
    exact ⟨⟨t1.1, t1.2.1⟩, ⟨t2.1, t2.2.1⟩, t1.2.2, t2.2.2⟩
  have HE := hid (below_is h1 h2)
  obtain ⟨S, hS⟩ : ∃ z, Hid (rbeB a b c d = z) := ⟨_, rfl⟩
  rw [hS.out] at HE ⊢
  have HT : Hid (∀ x y W, Hid (Below W0.heap.size W0 W) → Calls Tryd.prog 40 #[IV x y] W fun r w' => r = .returned (IV (btLo x y) (btHi x y)) ∧ ((w'.cell? ⟨w.heap.size, 0, none⟩ = some (.float .f64 a) ∧ w'.cell? ⟨w.heap.size, 1, none⟩ = some (.float .f64 b)) ∧ (w'.cell? ⟨w.heap.size + 1, 0, none⟩ = some (.float .f64 c) ∧ w'.cell? ⟨w.heap.size + 1, 1, none⟩ = some (.float .f64 d)) ∧ (∀ o, w'.frozen? ⟨w.heap.size, o, none⟩ = false) ∧ (∀ o, w'.frozen? ⟨w.heap.size + 1, o, none⟩ = false)) ∧ Hid (Below W0.heap.size W0 w')) := fun x y W hW => by
    refine (taken_any x y W).mono ?_
    rintro r w' ⟨rfl, h⟩
    have h' : Below W0.heap.size W0 w' := hW.out.trans (h.mono hW.out.size)
    exact ⟨rfl, HC.out _ h', h'⟩
  have HQ0 : Hid (Below W0.heap.size W0 W0.drew) := (Below.refl _ _).drew
  obtain ⟨⟨y0, y1⟩, ⟨y2, y3⟩, _⟩ := HC.out W0 (Below.refl _ _)
  have hst := fstore
  have HN1 : Hid (∀ W (p q r s : Nat), Hid (Below W0.heap.size W0 W) → Calls Tryd.prog 43 #[IV p q] (Set4 W w.heap.size (.float .f64 p) (.float .f64 q) (.float .f64 r) (.float .f64 s)) fun z w' => z = .returned (.bool (noneB p q)) ∧ (w'.cell? ⟨w.heap.size, 1, none⟩ = some (.float .f64 q) ∧ w'.cell? ⟨w.heap.size + 1, 0, none⟩ = some (.float .f64 r) ∧ w'.cell? ⟨w.heap.size + 1, 1, none⟩ = some (.float .f64 s)) ∧ w.heap.size + 1 < w'.heap.size ∧ Hid (Below w.heap.size w w')) := fun W p q r s hW => by
    obtain ⟨k1, k2⟩ := set4_cells g1 g2 hW.out p q r s
    have hb : Below w.heap.size w (Set4 W w.heap.size (.float .f64 p) (.float .f64 q) (.float .f64 r) (.float .f64 s)) := Below.setCell (Below.setCell (Below.setCell (Below.setCell (HB0.out.trans (hW.out.mono HB0.out.size)) (Nat.le_refl _) _) (Nat.le_refl _) _) (Nat.le_succ _) _) (Nat.le_succ _) _
    refine (none_any p q _).mono ?_
    rintro z w' ⟨rfl, h⟩
    have l1 := (h.block _ (Array.getElem?_eq_some_iff.1 k1).1).trans k1
    have l2 := (h.block _ (Array.getElem?_eq_some_iff.1 k2).1).trans k2
    have t1 := icells_of l1
    have t2 := icells_of l2
    exact ⟨rfl, ⟨t1.2.1, t2.1, t2.2.1⟩, (Array.getElem?_eq_some_iff.1 l2).1, hb.trans (h.mono hb.size)⟩
  have HN2 := hid none_any
  unfold IBox at hW0
  have hW0' := hW0.out
  obtain ⟨A1, hA1⟩ : ∃ z, Hid (btLo a b = z) := ⟨_, rfl⟩
  obtain ⟨A2, hA2⟩ : ∃ z, Hid (btHi a b = z) := ⟨_, rfl⟩
  obtain ⟨B1, hB1⟩ : ∃ z, Hid (btLo c d = z) := ⟨_, rfl⟩
  obtain ⟨B2, hB2⟩ : ∃ z, Hid (btHi c d = z) := ⟨_, rfl⟩
  have e1 := hA1.out
  have e2 := hA2.out
  have e3 := hB1.out
  have e4 := hB2.out
  rw [e1, e2, e3, e4] at HE
  unfold IV at HT HN1 HN2 ⊢
  unfold Set4 at HN1
  clear h1 h2 g1 g2
  obtain ⟨NA, hNA⟩ : ∃ z, noneB A1 A2 = z := ⟨_, rfl⟩
  obtain ⟨NB, hNB⟩ : ∃ z, noneB B1 B2 = z := ⟨_, rfl⟩
  rw [hNA, hNB] at HE
  cases NA
  · cases NB
    · go_enter Tryd.func28, Tryd.ntmps28
      go_wp2_with fail
      go_region_with (first
        | (go_at_call 40; refine (HT.out _ _ _ (by assumption)).mono ?_; rintro r w1 ⟨rfl, ⟨⟨x0, x1⟩, ⟨x2, x3⟩, f0, f1⟩, HF⟩))
      all_goals go_wp2_with fail
      all_goals refine (HN1.out _ _ _ _ _ (by assumption)).mono ?_
      all_goals rw [hNA]
      all_goals rintro z w4 ⟨rfl, ⟨z0, z1, z2⟩, hl, HB4⟩
      all_goals go_wp2_with fail
      all_goals refine (HN2.out _ _ _).mono ?_
      all_goals rw [hNB]
      all_goals rintro z w5 ⟨rfl, hb5⟩
      all_goals
        have k := (bcell hb5).1
        have j0 := (k w.heap.size 1 (by omega)).trans z0
        have j1 := (k (w.heap.size + 1) 0 hl).trans z1
        have HB5 := hid (HB4.out.trans (hb5.mono HB4.out.size))
        clear k hb5
        go_wp2
        go_ret
        exact ⟨ret_boolV (by rw [← HE.out]; rfl), HB5.out⟩
    · go_enter Tryd.func28, Tryd.ntmps28
      go_wp2_with fail
      go_region_with (first
        | (go_at_call 40; refine (HT.out _ _ _ (by assumption)).mono ?_; rintro r w1 ⟨rfl, ⟨⟨x0, x1⟩, ⟨x2, x3⟩, f0, f1⟩, HF⟩))
      all_goals go_wp2_with fail
      all_goals refine (HN1.out _ _ _ _ _ (by assumption)).mono ?_
      all_goals rw [hNA]
      all_goals rintro z w4 ⟨rfl, ⟨z0, z1, z2⟩, hl, HB4⟩
      all_goals go_wp2_with fail
      all_goals refine (HN2.out _ _ _).mono ?_
      all_goals rw [hNB]
      all_goals rintro z w5 ⟨rfl, hb5⟩
      all_goals
        have HB5 := hid (HB4.out.trans (hb5.mono HB4.out.size))
        clear hb5
        go_wp2
        go_ret
        exact ⟨ret_boolV (by rw [← HE.out]; rfl), HB5.out⟩
  · go_enter Tryd.func28, Tryd.ntmps28
    go_wp2_with fail
    go_region_with (first
      | (go_at_call 40; refine (HT.out _ _ _ (by assumption)).mono ?_; rintro r w1 ⟨rfl, ⟨⟨x0, x1⟩, ⟨x2, x3⟩, f0, f1⟩, HF⟩))
    all_goals go_wp2_with fail
    all_goals refine (HN1.out _ _ _ _ _ (by assumption)).mono ?_
    all_goals rw [hNA]
    all_goals rintro z w4 ⟨rfl, ⟨z0, z1, z2⟩, hl, HB4⟩
    all_goals
      go_wp2
      go_ret
      exact ⟨ret_boolV (by rw [← HE.out]; rfl), HB4.out⟩
def leastN (x y : Nat) : Nat := if FloatKind.f64.format.order y x = some .lt then y else x
def mostN (x y : Nat) : Nat := if FloatKind.f64.format.order y x = some .gt then y else x
set_option maxHeartbeats 400000 in
theorem rleast_any (x y : Nat) (w : World) : Calls Tryd.prog 49 #[.float .f64 x, .float .f64 y] w fun r w' => r = .returned (.float .f64 (leastN x y)) ∧ w' = w := by
  by_cases c : FloatKind.f64.format.order y x = some .lt
  · rw [show leastN x y = y from if_pos c]
    go_enter Tryd.func49, Tryd.ntmps49
    go_wp2
    go_ret
    exact ⟨rfl, rfl⟩
  · rw [show leastN x y = x from if_neg c]
    have d : (FloatKind.f64.format.order y x == some .lt) = false := by simpa using c
    go_enter Tryd.func49, Tryd.ntmps49
    go_wp2
    go_ret
    exact ⟨rfl, rfl⟩
set_option maxHeartbeats 400000 in
theorem rmost_any (x y : Nat) (w : World) : Calls Tryd.prog 50 #[.float .f64 x, .float .f64 y] w fun r w' => r = .returned (.float .f64 (mostN x y)) ∧ w' = w := by
  by_cases c : FloatKind.f64.format.order y x = some .gt
  · rw [show mostN x y = y from if_pos c]
    go_enter Tryd.func50, Tryd.ntmps50
    go_wp2
    go_ret
    exact ⟨rfl, rfl⟩
  · rw [show mostN x y = x from if_neg c]
    have d : (FloatKind.f64.format.order y x == some .gt) = false := by simpa using c
    go_enter Tryd.func50, Tryd.ntmps50
    go_wp2
    go_ret
    exact ⟨rfl, rfl⟩
end Go.Proofs.YtdahhpimhmloiaaDoor
