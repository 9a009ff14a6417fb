
/- interval's Mul at the chapter's first example. (Written by hand and program.) -/
import Derived.Test.YtilffgmekeeohaaDoorP45
namespace Go.Proofs.YtilffgmekeeohaaDoor
open Go.RowKit Go.IntWalk

theorem set_0 {W : World} {b : Nat} {a c : Value} {T : TypeId} (h : W.heap[b]? = some (.cells #[a, c] T)) : (W.setCell ⟨b, 0, none⟩ a).heap[b]? = some (.cells #[a, c] T) := by
  simp [World.setCell, Array.getElem?_modify, h]
theorem set_1 {W : World} {b : Nat} {a c : Value} {T : TypeId} (h : W.heap[b]? = some (.cells #[a, c] T)) : (W.setCell ⟨b, 1, none⟩ c).heap[b]? = some (.cells #[a, c] T) := by
  simp [World.setCell, Array.getElem?_modify, h]
/-- Three blocks of ends as they were laid, and all below them untouched. -/
def Fr3 (w : World) (a b c d : Nat) (W : World) : Prop := Below w.heap.size w W ∧ W.heap[w.heap.size]? = some (IBox a b) ∧ W.heap[w.heap.size + 1]? = some (IBox c d) ∧ W.heap[w.heap.size + 1 + 1]? = some (IBox 0 0)
theorem Fr3.go {w W W' : World} {a b c d : Nat} (h : Fr3 w a b c d W) (hb : Below W.heap.size W W') : Fr3 w a b c d W' := by
  obtain ⟨h1, h2, h3, h4⟩ := h
  exact ⟨h1.trans (hb.mono h1.size), (hb.block _ (Array.getElem?_eq_some_iff.1 h2).1).trans h2, (hb.block _ (Array.getElem?_eq_some_iff.1 h3).1).trans h3, (hb.block _ (Array.getElem?_eq_some_iff.1 h4).1).trans h4⟩
theorem Fr3.cells {w W : World} {a b c d : Nat} (h : Fr3 w a b c d W) : Cells3 W w.heap.size a b c d := by
  obtain ⟨h1, h2, h3, h4⟩ := h
  have t1 := icells_of h2
  have t2 := icells_of h3
  have t3 := icells_of h4
  exact ⟨⟨t1.1, t1.2.1⟩, ⟨t2.1, t2.2.1⟩, ⟨t3.1, t3.2.1⟩, t1.2.2, t2.2.2, t3.2.2⟩
theorem Fr3.set4 {w W : World} {a b c d : Nat} (h : Fr3 w a b c d W) : Fr3 w a b c d (Set4 W w.heap.size (.float .f64 a) (.float .f64 b) (.float .f64 c) (.float .f64 d)) := by
  obtain ⟨h1, h2, h3, h4⟩ := h
  unfold Set4
  refine ⟨Below.setCell (Below.setCell (Below.setCell (Below.setCell h1 (Nat.le_refl _) _) (Nat.le_refl _) _) (Nat.le_succ _) _) (Nat.le_succ _) _, ?_, ?_, ?_⟩
  · rw [Below.heap_setCell _ _ _ _ (by show _ ≠ w.heap.size + 1; omega), Below.heap_setCell _ _ _ _ (by show _ ≠ w.heap.size + 1; omega)]
    exact set_1 (set_0 h2)
  · refine set_1 (set_0 ?_)
    rw [Below.heap_setCell _ _ _ _ (by show _ ≠ w.heap.size; omega), Below.heap_setCell _ _ _ _ (by show _ ≠ w.heap.size; omega)]
    exact h3
  · rw [Below.heap_setCell _ _ _ _ (by show _ ≠ w.heap.size + 1; omega), Below.heap_setCell _ _ _ _ (by show _ ≠ w.heap.size + 1; omega), Below.heap_setCell _ _ _ _ (by show _ ≠ w.heap.size; omega), Below.heap_setCell _ _ _ _ (by show _ ≠ w.heap.size; omega)]
    exact h4
def prodZ (x y : Nat) : Nat := if x = 13830554455654793216 then (if y = 13837309855095848960 then 4613937818241073152 else 13839561654909534208) else (if y = 13837309855095848960 then 13841813454723219456 else 4620693217682128896)
theorem prod_all (x y : Nat) (to : Bool) (w : World) (hx : x = 13830554455654793216 ∨ x = 4611686018427387904) (hy : y = 13837309855095848960 ∨ y = 4616189618054758400) (hT : Tab w) (hs : 1 < w.heap.size) : Calls Tryd.prog 37 #[.float .f64 x, .float .f64 y, .bool to] w fun r w' => r = .returned (.float .f64 (prodZ x y)) ∧ Below w.heap.size w w' := by
  rcases hx with rfl | rfl <;> rcases hy with rfl | rfl
  · exact product_m1_m3 to w hT hs
  · exact product_m1_4 to w hT hs
  · exact product_2_m3 to w hT hs
  · exact product_2_4 to w hT hs
theorem min4_ex (ts : Array TypeId) (t : TypeId) (w : World) : (Builtin.min_ ts t #[.float .f64 4613937818241073152, .float .f64 13839561654909534208, .float .f64 13841813454723219456, .float .f64 4620693217682128896]).run Tryd.prog w = .ok (.float .f64 13841813454723219456) w := by
  have o1 : FloatKind.f64.format.order 4613937818241073152 13839561654909534208 = some .gt := by decide +kernel
  have o2 : FloatKind.f64.format.order 13839561654909534208 13841813454723219456 = some .gt := by decide +kernel
  have o3 : FloatKind.f64.format.order 13841813454723219456 4620693217682128896 = some .lt := by decide +kernel
  simp [Builtin.min_, Builtin.min2, o1, o2, o3]
theorem max4_ex (ts : Array TypeId) (t : TypeId) (w : World) : (Builtin.max_ ts t #[.float .f64 4613937818241073152, .float .f64 13839561654909534208, .float .f64 13841813454723219456, .float .f64 4620693217682128896]).run Tryd.prog w = .ok (.float .f64 4620693217682128896) w := by
  have o1 : FloatKind.f64.format.order 4613937818241073152 13839561654909534208 = some .gt := by decide +kernel
  have o2 : FloatKind.f64.format.order 4613937818241073152 13841813454723219456 = some .gt := by decide +kernel
  have o3 : FloatKind.f64.format.order 4613937818241073152 4620693217682128896 = some .lt := by decide +kernel
  simp [Builtin.max_, Builtin.max2, o1, o2, o3]
set_option maxHeartbeats 4000000 in
theorem Mul_ex (w : World) (hT : Tab w) (hs : 1 < w.heap.size) : Calls Tryd.prog 16 #[IV 13830554455654793216 4611686018427387904, IV 13837309855095848960 4616189618054758400] w fun r w' => r = .returned (IV 13841813454723219456 4620693217682128896) ∧ Below w.heap.size w w' := by
  obtain ⟨g1, g2, g3⟩ := iblk3 w (IBox 13830554455654793216 4611686018427387904) (IBox 13837309855095848960 4616189618054758400) (IBox 0 0)
  have HB0 : Hid (Below w.heap.size w (((w.alloc (IBox 13830554455654793216 4611686018427387904)).alloc (IBox 13837309855095848960 4616189618054758400)).alloc (IBox 0 0))) := (((Below.refl _ _).alloc (Nat.le_refl _) _).alloc (by simp) _).alloc (by simp; omega) _
  obtain ⟨W0, hW0⟩ : ∃ V, Hid (((w.alloc (IBox 13830554455654793216 4611686018427387904)).alloc (IBox 13837309855095848960 4616189618054758400)).alloc (IBox 0 0) = V) := ⟨_, rfl⟩
  rw [hW0.out] at HB0 g1 g2 g3
  have HC : Hid (∀ W, Hid (Below W0.heap.size W0 W) → Cells3 W w.heap.size 13830554455654793216 4611686018427387904 13837309855095848960 4616189618054758400) := fun W hW => by
    have t1 := icells_of ((hW.out.block _ (Array.getElem?_eq_some_iff.1 g1).1).trans g1)
    have t2 := icells_of ((hW.out.block _ (Array.getElem?_eq_some_iff.1 g2).1).trans g2)
    have t3 := icells_of ((hW.out.block _ (Array.getElem?_eq_some_iff.1 g3).1).trans g3)
    exact ⟨⟨t1.1, t1.2.1⟩, ⟨t2.1, t2.2.1⟩, ⟨t3.1, t3.2.1⟩, t1.2.2, t2.2.2, t3.2.2⟩
  have HT : Hid (∀ x y W, Hid (Below W0.heap.size W0 W) → Calls Tryd.prog 22 #[IV x y] W fun r w' => r = .returned (IV (btLo x y) (btHi x y)) ∧ Cells3 w' w.heap.size 13830554455654793216 4611686018427387904 13837309855095848960 4616189618054758400 ∧ Hid (Below W0.heap.size W0 w')) := fun x y W hW => by
    refine (taken_any x y W).mono ?_
    rintro r w' ⟨rfl, h⟩
    have h' : Below W0.heap.size W0 w' := hW.out.trans (h.mono hW.out.size)
    exact ⟨rfl, HC.out _ h', h'⟩
  have HF0 : Hid (∀ W, Hid (Below W0.heap.size W0 W) → Hid (Fr3 w 13830554455654793216 4611686018427387904 13837309855095848960 4616189618054758400 (Set4 W w.heap.size (.float .f64 13830554455654793216) (.float .f64 4611686018427387904) (.float .f64 13837309855095848960) (.float .f64 4616189618054758400)))) := fun W hW => Fr3.set4 (Fr3.go (W := W0) ⟨HB0.out, g1, g2, g3⟩ hW.out)
  have n1 : noneB 13830554455654793216 4611686018427387904 = false := by decide +kernel
  have n2 : noneB 13837309855095848960 4616189618054758400 = false := by decide +kernel
  have HN : Hid (∀ x y W, Hid (Fr3 w 13830554455654793216 4611686018427387904 13837309855095848960 4616189618054758400 W) → Calls Tryd.prog 23 #[IV x y] W fun r w' => r = .returned (.bool (noneB x y)) ∧ Cells3 w' w.heap.size 13830554455654793216 4611686018427387904 13837309855095848960 4616189618054758400 ∧ Hid (Fr3 w 13830554455654793216 4611686018427387904 13837309855095848960 4616189618054758400 w')) := fun x y W hW => by
    refine (none_any x y W).mono ?_
    rintro r w' ⟨rfl, h⟩
    exact ⟨rfl, (hW.out.go h).cells, hW.out.go h⟩
  have HPR : Hid (∀ x y to W, Hid (Fr3 w 13830554455654793216 4611686018427387904 13837309855095848960 4616189618054758400 W) → (x = 13830554455654793216 ∨ x = 4611686018427387904) → (y = 13837309855095848960 ∨ y = 4616189618054758400) → Calls Tryd.prog 37 #[.float .f64 x, .float .f64 y, .bool to] W fun r w' => r = .returned (.float .f64 (prodZ x y)) ∧ Hid (Fr3 w 13830554455654793216 4611686018427387904 13837309855095848960 4616189618054758400 w')) := fun x y to W hW hx hy => by
    refine (prod_all x y to W hx hy (hT.below hs hW.out.1) (Nat.lt_of_lt_of_le hs hW.out.1.size)).mono ?_
    rintro r w' ⟨rfl, h⟩
    exact ⟨rfl, hW.out.go h⟩
  have q1 : btLo 13841813454723219456 4620693217682128896 = 13841813454723219456 := by decide +kernel
  have q2 : btHi 13841813454723219456 4620693217682128896 = 4620693217682128896 := by decide +kernel
  have HBT : Hid (∀ W, Hid (Fr3 w 13830554455654793216 4611686018427387904 13837309855095848960 4616189618054758400 W) → Calls Tryd.prog 38 #[.float .f64 13841813454723219456, .float .f64 4620693217682128896] W fun r w' => r = .returned (IV 13841813454723219456 4620693217682128896) ∧ w'.cell? ⟨w.heap.size + 1 + 1, 0, none⟩ = some (.float .f64 0) ∧ w'.cell? ⟨w.heap.size + 1 + 1, 1, none⟩ = some (.float .f64 0) ∧ (∀ o, w'.frozen? ⟨w.heap.size + 1 + 1, o, none⟩ = false) ∧ Hid (Below w.heap.size w w')) := fun W hW => by
    have := between_any 13841813454723219456 4620693217682128896 W
    rw [q1, q2] at this
    refine this.mono ?_
    rintro r w' ⟨rfl, h⟩
    have hc := (hW.out.go h).cells
    exact ⟨rfl, hc.2.2.1.1, hc.2.2.1.2, hc.2.2.2.2.2, (hW.out.go h).1⟩
  have hmn := min4_ex
  have hmx := max4_ex
  have HK : Hid (∀ W, Hid (Fr3 w 13830554455654793216 4611686018427387904 13837309855095848960 4616189618054758400 W) → ((W.cell? ⟨w.heap.size, 0, none⟩ = some (.float .f64 13830554455654793216) ∧ W.cell? ⟨w.heap.size, 1, none⟩ = some (.float .f64 4611686018427387904)) ∧ (W.cell? ⟨w.heap.size + 1, 0, none⟩ = some (.float .f64 13837309855095848960) ∧ W.cell? ⟨w.heap.size + 1, 1, none⟩ = some (.float .f64 4616189618054758400))) ∧ Hid (Fr3 w 13830554455654793216 4611686018427387904 13837309855095848960 4616189618054758400 W)) := fun W hW => ⟨⟨hW.out.cells.1, hW.out.cells.2.1⟩, hW⟩
  have HDR : Hid (∀ W, Hid (Fr3 w 13830554455654793216 4611686018427387904 13837309855095848960 4616189618054758400 W) → Hid (Fr3 w 13830554455654793216 4611686018427387904 13837309855095848960 4616189618054758400 W.drew)) := fun W hW => hW.out.go ((Below.refl _ _).drew)
  have z1 : prodZ 13830554455654793216 13837309855095848960 = 4613937818241073152 := by decide +kernel
  have z2 : prodZ 13830554455654793216 4616189618054758400 = 13839561654909534208 := by decide +kernel
  have z3 : prodZ 4611686018427387904 13837309855095848960 = 13841813454723219456 := by decide +kernel
  have z4 : prodZ 4611686018427387904 4616189618054758400 = 4620693217682128896 := by decide +kernel
  have HQ0 : Hid (Below W0.heap.size W0 W0.drew) := (Below.refl _ _).drew
  obtain ⟨⟨y0, y1⟩, ⟨y2, y3⟩, _⟩ := HC.out W0 (Below.refl _ _)
  have e1 : btLo 13830554455654793216 4611686018427387904 = 13830554455654793216 := by decide +kernel
  have e2 : btHi 13830554455654793216 4611686018427387904 = 4611686018427387904 := by decide +kernel
  have e3 : btLo 13837309855095848960 4616189618054758400 = 13837309855095848960 := by decide +kernel
  have e4 : btHi 13837309855095848960 4616189618054758400 = 4616189618054758400 := by decide +kernel
  have hst := fstore
  have HTB := hid (And.intro hT hs)
  unfold IBox at hW0
  have hW0' := hW0.out
  unfold IV at HT HN HBT ⊢
  unfold Set4 at HF0
  clear g1 g2 hT hs
  go_enter Tryd.func16, Tryd.ntmps16
  go_wp2_with fail
  go_region_with (first
    | (go_at_call 22; refine (HT.out _ _ _ (by assumption)).mono ?_; rintro r w1 ⟨rfl, ⟨⟨x0, x1⟩, ⟨x2, x3⟩, ⟨x4, x5⟩, f0, f1, f2⟩, HF⟩))
  all_goals go_wp2_with fail
  all_goals refine (HN.out _ _ _ (HF0.out _ (by assumption))).mono ?_
  all_goals rintro r w2 ⟨rfl, ⟨⟨k0, k1⟩, ⟨k2, k3⟩, ⟨k4, k5⟩, h0, h1, h2⟩, HG⟩
  all_goals go_wp2_with fail
  all_goals refine (HN.out _ _ _ HG).mono ?_
  all_goals rintro r w3 ⟨rfl, ⟨⟨l0, l1⟩, ⟨l2, l3⟩, ⟨l4, l5⟩, i0, i1, i2⟩, HH⟩
  all_goals go_wp2_with fail
  all_goals have HQ1 := HDR.out _ HH
  all_goals go_region_held3 (fun W => ((W.cell? ⟨w.heap.size, 0, none⟩ = some (.float .f64 13830554455654793216) ∧ W.cell? ⟨w.heap.size, 1, none⟩ = some (.float .f64 4611686018427387904)) ∧ (W.cell? ⟨w.heap.size + 1, 0, none⟩ = some (.float .f64 13837309855095848960) ∧ W.cell? ⟨w.heap.size + 1, 1, none⟩ = some (.float .f64 4616189618054758400))) ∧ Hid (Fr3 w 13830554455654793216 4611686018427387904 13837309855095848960 4616189618054758400 W))
    ((refine HK.out _ ?_; first | with_reducible assumption | with_reducible exact HQ1))
    (first
      | (go_at_call 37; refine (HPR.out _ _ _ _ (And.right (by assumption)) (by first | exact Or.inl rfl | exact Or.inr rfl) (by first | exact Or.inl rfl | exact Or.inr rfl)).mono ?_; rintro r w4 ⟨rfl, HJ⟩)
      | fail)
  all_goals go_wp2_with fail
  all_goals have HQ2 := HDR.out _ HJ
  all_goals go_region_held3 (fun W => ((W.cell? ⟨w.heap.size, 0, none⟩ = some (.float .f64 13830554455654793216) ∧ W.cell? ⟨w.heap.size, 1, none⟩ = some (.float .f64 4611686018427387904)) ∧ (W.cell? ⟨w.heap.size + 1, 0, none⟩ = some (.float .f64 13837309855095848960) ∧ W.cell? ⟨w.heap.size + 1, 1, none⟩ = some (.float .f64 4616189618054758400))) ∧ Hid (Fr3 w 13830554455654793216 4611686018427387904 13837309855095848960 4616189618054758400 W))
    ((refine HK.out _ ?_; first | with_reducible assumption | with_reducible exact HQ2))
    (first
      | (go_at_call 37; refine (HPR.out _ _ _ _ (And.right (by assumption)) (by first | exact Or.inl rfl | exact Or.inr rfl) (by first | exact Or.inl rfl | exact Or.inr rfl)).mono ?_; rintro r w4 ⟨rfl, HJ⟩)
      | fail)
  all_goals go_wp2_with fail
  all_goals refine (HBT.out _ HJ).mono ?_
  all_goals rintro r w5 ⟨rfl, u0, u1, u2, HL⟩
  all_goals go_wp2
  all_goals exact bodyPost_ret (v := IV 13841813454723219456 4620693217682128896) (by simp [results, Tryd.results16, go_sem, u0, u1, IV]) rfl ⟨rfl, Below.setCell (Below.setCell HL.out (Nat.le_trans (Nat.le_succ _) (Nat.le_succ _)) _) (Nat.le_trans (Nat.le_succ _) (Nat.le_succ _)) _⟩
end Go.Proofs.YtilffgmekeeohaaDoor
