
/- interval's quotient of 2 by 0 and divided at the chapter's first example. -/
import Derived.Test.YtilffgmekeeohaaDoorP47
import Derived.Test.YtilffgmekeeohaaDoorP17
namespace Go.Proofs.YtilffgmekeeohaaDoor
open Go.RowKit Go.IntWalk

set_option maxHeartbeats 1000000 in
theorem settled_inf (w : World) : Calls Tryd.prog 49 #[.float .f64 9218868437227405312, .float .f64 0, .float .f64 4611686018427387904, .bool true] w fun r w' => r = .returned (.float .f64 9218868437227405312) ∧ Below w.heap.size w w' := by
  have o1 : FloatKind.f64.format.order 0 4611686018427387904 = some .lt := by decide +kernel
  have HN := hid (Next_any 9218868437227405312 w (by decide))
  rw [show nextOf 9218868437227405312 = 9218868437227405312 by decide +kernel] at HN
  go_enter Tryd.func49, Tryd.ntmps49
  go_wp2_with fail
  refine HN.out.mono ?_
  rintro r w1 ⟨rfl, hb⟩
  have HB := hid hb
  clear hb
  go_wp2
  go_ret
  exact ⟨rfl, HB.out⟩
set_option maxHeartbeats 1000000 in
theorem quotient_inf (w : World) : Calls Tryd.prog 59 #[.float .f64 4611686018427387904, .float .f64 0, .bool true] w fun r w' => r = .returned (.float .f64 9218868437227405312) ∧ Below w.heap.size w w' := by
  have hq : ∀ W : World, (binOp .quo 26 (.float .f64 4611686018427387904) (.float .f64 0)).run Tryd.prog W = .ok (.float .f64 9218868437227405312) W := fun W => run_float_arith W .quo _ .f64 _ _ _ (by decide +kernel)
  go_enter Tryd.func59, Tryd.ntmps59
  go_wp2_with fail
  refine (product_inf _ _).mono ?_
  rintro r w1 ⟨rfl, rfl⟩
  go_wp2_with fail
  refine (settled_inf _).mono ?_
  rintro r w2 ⟨rfl, hb⟩
  have HB := hid hb
  clear hb
  go_wp2
  go_ret
  exact ⟨rfl, HB.out⟩
def quoZ (x : Nat) : Nat := if x = 4607182418800017408 then 4607182418800017408 else 9218868437227405312
theorem quo_all (x y : Nat) (to : Bool) (w : World) (h : x = 4607182418800017408 ∧ y = 4607182418800017408 ∧ to = false ∨ x = 4611686018427387904 ∧ y = 0 ∧ to = true) (hT : Tab w) (hs : 1 < w.heap.size) : Calls Tryd.prog 59 #[.float .f64 x, .float .f64 y, .bool to] w fun r w' => r = .returned (.float .f64 (quoZ x)) ∧ Below w.heap.size w w' := by
  rcases h with ⟨rfl, rfl, rfl⟩ | ⟨rfl, rfl, rfl⟩
  · exact quotient_1 w hT hs
  · exact quotient_inf w
/-- The first two blocks alone. -/
def FrB (w : World) (a b c d : Nat) (W : World) : Prop := Below w.heap.size w W ∧ W.heap[w.heap.size]? = some (IBox a b) ∧ W.heap[w.heap.size + 1]? = some (IBox c d)
theorem FrB.store {w W : World} {a b c d : Nat} (h : Hid (FrB w a b c d W)) (o : Nat) (v : Value) : Hid (FrB w a b c d (W.setCell ⟨w.heap.size + 1 + 1, o, none⟩ v)) := by
  refine ⟨Below.setCell h.out.1 (Nat.le_trans (Nat.le_succ _) (Nat.le_succ _)) _, ?_, ?_⟩
  · rw [Below.heap_setCell _ _ _ _ (by show _ ≠ w.heap.size + 1 + 1; omega)]
    exact h.out.2.1
  · rw [Below.heap_setCell _ _ _ _ (by show _ ≠ w.heap.size + 1 + 1; omega)]
    exact h.out.2.2
theorem Fr3.fst {w W : World} {a b c d : Nat} (h : Fr3 w a b c d W) : Hid (FrB w a b c d W) := ⟨h.1, h.2.1, h.2.2.1⟩
set_option maxHeartbeats 4000000 in
theorem divided_ex (w : World) (hT : Tab w) (hs : 1 < w.heap.size) : Calls Tryd.prog 40 #[IV 4607182418800017408 4611686018427387904, IV 0 4607182418800017408] w fun r w' => r = .returned (IV 4607182418800017408 9218868437227405312) ∧ Below w.heap.size w w' := by
  obtain ⟨g1, g2, g3⟩ := iblk3 w (IBox 4607182418800017408 4611686018427387904) (IBox 0 4607182418800017408) (IBox 0 0)
  have HF0 : Hid (Fr3 w 4607182418800017408 4611686018427387904 0 4607182418800017408 (((w.alloc (IBox 4607182418800017408 4611686018427387904)).alloc (IBox 0 4607182418800017408)).alloc (IBox 0 0))) := ⟨(((Below.refl _ _).alloc (Nat.le_refl _) _).alloc (by simp) _).alloc (by simp; omega) _, g1, g2, g3⟩
  obtain ⟨W0, hW0⟩ : ∃ V, Hid (((w.alloc (IBox 4607182418800017408 4611686018427387904)).alloc (IBox 0 4607182418800017408)).alloc (IBox 0 0) = V) := ⟨_, rfl⟩
  rw [hW0.out] at HF0
  obtain ⟨⟨y0, y1⟩, ⟨y2, y3⟩, ⟨y4, y5⟩, y6, y7, y8⟩ := HF0.out.cells
  have o1 : FloatKind.f64.format.order 4607182418800017408 0 = some .gt := by decide +kernel
  have o2 : FloatKind.f64.format.order 4611686018427387904 0 = some .gt := by decide +kernel
  have HQ : Hid (∀ x y to W, (x = 4607182418800017408 ∧ y = 4607182418800017408 ∧ to = false ∨ x = 4611686018427387904 ∧ y = 0 ∧ to = true) → Hid (Fr3 w 4607182418800017408 4611686018427387904 0 4607182418800017408 W) → Calls Tryd.prog 59 #[.float .f64 x, .float .f64 y, .bool to] W fun r w' => r = .returned (.float .f64 (quoZ x)) ∧ Hid (FrB w 4607182418800017408 4611686018427387904 0 4607182418800017408 w') ∧ Hid (Fr3 w 4607182418800017408 4611686018427387904 0 4607182418800017408 w')) := fun x y to W hx hW => by
    refine (quo_all x y to W hx (hT.below hs hW.out.1) (Nat.lt_of_lt_of_le hs hW.out.1.size)).mono ?_
    rintro r w' ⟨rfl, h⟩
    exact ⟨rfl, (hW.out.go h).fst, hW.out.go h⟩
  have q1 : quoZ 4607182418800017408 = 4607182418800017408 := by decide +kernel
  have q2 : quoZ 4611686018427387904 = 9218868437227405312 := by decide +kernel
  have c1 : btLo 4607182418800017408 9218868437227405312 = 4607182418800017408 := by decide +kernel
  have c2 : btHi 4607182418800017408 9218868437227405312 = 9218868437227405312 := by decide +kernel
  have HB2 : Hid (∀ W, Hid (Fr3 w 4607182418800017408 4611686018427387904 0 4607182418800017408 W) → Calls Tryd.prog 38 #[.float .f64 4607182418800017408, .float .f64 9218868437227405312] W fun r w' => r = .returned (IV 4607182418800017408 9218868437227405312) ∧ (w'.cell? ⟨w.heap.size + 1 + 1, 0, none⟩ = some (.float .f64 0) ∧ w'.cell? ⟨w.heap.size + 1 + 1, 1, none⟩ = some (.float .f64 0)) ∧ (∀ o, w'.frozen? ⟨w.heap.size + 1 + 1, o, none⟩ = false) ∧ Hid (FrB w 4607182418800017408 4611686018427387904 0 4607182418800017408 w')) := fun W hW => by
    have := between_any 4607182418800017408 9218868437227405312 W
    rw [c1, c2] at this
    refine this.mono ?_
    rintro r w' ⟨rfl, h⟩
    exact ⟨rfl, (hW.out.go h).cells.2.2.1, (hW.out.go h).cells.2.2.2.2.2, (hW.out.go h).fst⟩
  have HK : Hid (∀ W, Hid (FrB w 4607182418800017408 4611686018427387904 0 4607182418800017408 W) → ((W.cell? ⟨w.heap.size, 0, none⟩ = some (.float .f64 4607182418800017408) ∧ W.cell? ⟨w.heap.size, 1, none⟩ = some (.float .f64 4611686018427387904)) ∧ (W.cell? ⟨w.heap.size + 1, 0, none⟩ = some (.float .f64 0) ∧ W.cell? ⟨w.heap.size + 1, 1, none⟩ = some (.float .f64 4607182418800017408))) ∧ Hid (FrB w 4607182418800017408 4611686018427387904 0 4607182418800017408 W)) := fun W hW => ⟨⟨⟨(icells_of hW.out.2.1).1, (icells_of hW.out.2.1).2.1⟩, ⟨(icells_of hW.out.2.2).1, (icells_of hW.out.2.2).2.1⟩⟩, hW⟩
  have HDR : Hid (∀ m, Hid (Fr3 w 4607182418800017408 4611686018427387904 0 4607182418800017408 (W0.drewN m).drew)) := fun m => HF0.out.go (Below.drew (bl_drewN _ (Below.refl _ _)))
  have HDR2 : Hid (∀ m, Hid (Fr3 w 4607182418800017408 4611686018427387904 0 4607182418800017408 (W0.drewN m))) := fun m => HF0.out.go (bl_drewN _ (Below.refl _ _))
  unfold IBox at hW0
  have hW0' := hW0.out
  have hst := fstore
  unfold IV at HB2 ⊢
  clear g1 g2 g3 hT hs c1 c2
  go_enter Tryd.func40, Tryd.ntmps40
  go_wp2_with fail
  go_quiet (fail)
  go_wp2_with fail
  have HQ1 := HDR.out nq
  have HQ2 := HQ1.out.fst
  have HQ3 := HDR2.out (nq + 1)
  have HQ4 := HQ3.out.fst
  go_region_held3 (fun W => ((W.cell? ⟨w.heap.size, 0, none⟩ = some (.float .f64 4607182418800017408) ∧ W.cell? ⟨w.heap.size, 1, none⟩ = some (.float .f64 4611686018427387904)) ∧ (W.cell? ⟨w.heap.size + 1, 0, none⟩ = some (.float .f64 0) ∧ W.cell? ⟨w.heap.size + 1, 1, none⟩ = some (.float .f64 4607182418800017408))) ∧ Hid (FrB w 4607182418800017408 4611686018427387904 0 4607182418800017408 W))
    ((refine HK.out _ ?_; repeat' (first | with_reducible assumption | with_reducible exact HQ2 | with_reducible exact HQ4 | with_reducible refine FrB.store ?_ _ _)))
    (first
      | (go_at_call 59; refine (HQ.out _ _ _ _ (by first | exact Or.inl ⟨rfl, rfl, rfl⟩ | exact Or.inr ⟨rfl, rfl, rfl⟩) (by assumption)).mono ?_; rintro r w4 ⟨rfl, HJ, HJ2⟩)
      | (go_at_call 38; refine (HB2.out _ (by assumption)).mono ?_; rintro r w5 ⟨rfl, ⟨u0, u1⟩, u2, HL⟩)
      | fail)
  go_wp2
  exact bodyPost_ret (v := IV 4607182418800017408 9218868437227405312) (by simp [results, Tryd.results40, go_sem, u0, u1, IV]) rfl ⟨rfl, Below.setCell (Below.setCell HL.out.1 (Nat.le_trans (Nat.le_succ _) (Nat.le_succ _)) _) (Nat.le_trans (Nat.le_succ _) (Nat.le_succ _)) _⟩
end Go.Proofs.YtilffgmekeeohaaDoor
