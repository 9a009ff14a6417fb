
/- interval's Div at the chapter's first example. -/
import Derived.Test.YtdahhpimhmloiaaDoorP44
namespace Go.Proofs.YtdahhpimhmloiaaDoor
open Go.RowKit Go.IntWalk

set_option maxHeartbeats 1000000 in
theorem nought_ex (w : World) : Calls Tryd.prog 55 #[IV 0 4607182418800017408] w fun r w' => r = .returned (.bool false) ∧ Below w.heap.size w w' := by
  have o1 : FloatKind.f64.format.order 0 0 = some .eq := by decide +kernel
  have o2 : (FloatKind.f64.format.order 4607182418800017408 0 == some .eq) = false := by decide +kernel
  have HB0 : Hid (Below w.heap.size w (w.alloc (IBox 0 4607182418800017408))) := (Below.refl _ _).alloc (Nat.le_refl _) _
  unfold IBox at HB0
  unfold IV
  go_enter Tryd.func55, Tryd.ntmps55
  go_wp2
  go_ret
  exact ⟨rfl, HB0.out⟩
set_option maxHeartbeats 4000000 in
theorem Div_ex (w : World) (hT : Tab w) (hs : 1 < w.heap.size) : Calls Tryd.prog 37 #[IV 4607182418800017408 4611686018427387904, IV 0 4607182418800017408] w fun r w' => r = .returned (IV 4607182418800017408 9218868437227405312) ∧ Below w.heap.size w w' := by
  obtain ⟨g1, g2, g3⟩ := iblk3 w (IBox 4607182418800017408 4611686018427387904) (IBox 0 4607182418800017408) (IBox 0 0)
  have HF : Hid (Fr3 w 4607182418800017408 4611686018427387904 0 4607182418800017408 (((w.alloc (IBox 4607182418800017408 4611686018427387904)).alloc (IBox 0 4607182418800017408)).alloc (IBox 0 0))) := ⟨(((Below.refl _ _).alloc (Nat.le_refl _) _).alloc (by simp) _).alloc (by simp; omega) _, g1, g2, g3⟩
  obtain ⟨W0, hW0⟩ : ∃ V, Hid (((w.alloc (IBox 4607182418800017408 4611686018427387904)).alloc (IBox 0 4607182418800017408)).alloc (IBox 0 0) = V) := ⟨_, rfl⟩
  rw [hW0.out] at HF
  have HT : Hid (∀ x y W, Hid (Fr3 w 4607182418800017408 4611686018427387904 0 4607182418800017408 W) → Calls Tryd.prog 40 #[IV x y] W fun r w' => r = .returned (IV (btLo x y) (btHi x y)) ∧ Cells3 w' w.heap.size 4607182418800017408 4611686018427387904 0 4607182418800017408 ∧ Hid (Fr3 w 4607182418800017408 4611686018427387904 0 4607182418800017408 w')) := fun x y W hW => by
    refine (taken_any x y W).mono ?_
    rintro r w' ⟨rfl, h⟩
    exact ⟨rfl, (hW.out.go h).cells, hW.out.go h⟩
  have HS4 : Hid (∀ W, Hid (Fr3 w 4607182418800017408 4611686018427387904 0 4607182418800017408 W) → Hid (Fr3 w 4607182418800017408 4611686018427387904 0 4607182418800017408 (Set4 W w.heap.size (.float .f64 4607182418800017408) (.float .f64 4611686018427387904) (.float .f64 0) (.float .f64 4607182418800017408)))) := fun W hW => hW.out.set4
  have HN : Hid (∀ x y W, Hid (Fr3 w 4607182418800017408 4611686018427387904 0 4607182418800017408 W) → Calls Tryd.prog 43 #[IV x y] W fun r w' => r = .returned (.bool (noneB x y)) ∧ Cells3 w' w.heap.size 4607182418800017408 4611686018427387904 0 4607182418800017408 ∧ Hid (Fr3 w 4607182418800017408 4611686018427387904 0 4607182418800017408 w')) := fun x y W hW => by
    refine (none_any x y W).mono ?_
    rintro r w' ⟨rfl, h⟩
    exact ⟨rfl, (hW.out.go h).cells, hW.out.go h⟩
  have HZ : Hid (∀ W, Hid (Fr3 w 4607182418800017408 4611686018427387904 0 4607182418800017408 W) → Calls Tryd.prog 55 #[IV 0 4607182418800017408] W fun r w' => r = .returned (.bool false) ∧ Cells3 w' w.heap.size 4607182418800017408 4611686018427387904 0 4607182418800017408 ∧ Hid (Fr3 w 4607182418800017408 4611686018427387904 0 4607182418800017408 w')) := fun W hW => by
    refine (nought_ex W).mono ?_
    rintro r w' ⟨rfl, h⟩
    exact ⟨rfl, (hW.out.go h).cells, hW.out.go h⟩
  have HD : Hid (∀ W, Hid (Fr3 w 4607182418800017408 4611686018427387904 0 4607182418800017408 W) → Calls Tryd.prog 56 #[IV 4607182418800017408 4611686018427387904, IV 0 4607182418800017408] W fun r w' => r = .returned (IV 4607182418800017408 9218868437227405312) ∧ Cells3 w' w.heap.size 4607182418800017408 4611686018427387904 0 4607182418800017408 ∧ Hid (Fr3 w 4607182418800017408 4611686018427387904 0 4607182418800017408 w')) := fun W hW => by
    refine (divided_ex W (hT.below hs hW.out.1) (Nat.lt_of_lt_of_le hs hW.out.1.size)).mono ?_
    rintro r w' ⟨rfl, h⟩
    exact ⟨rfl, (hW.out.go h).cells, hW.out.go h⟩
  have HQ0 : Hid (Fr3 w 4607182418800017408 4611686018427387904 0 4607182418800017408 W0.drew) := HF.out.go ((Below.refl _ _).drew)
  obtain ⟨⟨y0, y1⟩, ⟨y2, y3⟩, _⟩ := HF.out.cells
  have e1 : btLo 4607182418800017408 4611686018427387904 = 4607182418800017408 := by decide +kernel
  have e2 : btHi 4607182418800017408 4611686018427387904 = 4611686018427387904 := by decide +kernel
  have e3 : btLo 0 4607182418800017408 = 0 := by decide +kernel
  have e4 : btHi 0 4607182418800017408 = 4607182418800017408 := by decide +kernel
  have n1 : noneB 4607182418800017408 4611686018427387904 = false := by decide +kernel
  have n2 : noneB 0 4607182418800017408 = false := by decide +kernel
  have o1 : FloatKind.f64.format.order 4607182418800017408 0 = some .gt := by decide +kernel
  have o2 : FloatKind.f64.format.order 0 0 = some .eq := by decide +kernel
  have hst := fstore
  unfold IBox at hW0
  have hW0' := hW0.out
  unfold IV at HT HN HZ HD ⊢
  unfold Set4 at HS4
  clear g1 g2 g3 hT hs
  go_enter Tryd.func37, Tryd.ntmps37
  go_wp2_with fail
  go_region_with (first
    | (go_at_call 40; refine (HT.out _ _ _ (by assumption)).mono ?_; rintro r w1 ⟨rfl, ⟨⟨x0, x1⟩, ⟨x2, x3⟩, ⟨x4, x5⟩, f0, f1, f2⟩, HF1⟩))
  all_goals go_wp2_with fail
  all_goals refine (HN.out _ _ _ (HS4.out _ (by assumption))).mono ?_
  all_goals rintro r w2 ⟨rfl, ⟨⟨k0, k1⟩, ⟨k2, k3⟩, ⟨k4, k5⟩, h0, h1, h2⟩, HG⟩
  all_goals go_wp2_with fail
  all_goals refine (HN.out _ _ _ HG).mono ?_
  all_goals rintro r w3 ⟨rfl, ⟨⟨l0, l1⟩, ⟨l2, l3⟩, ⟨l4, l5⟩, i0, i1, i2⟩, HH⟩
  all_goals go_wp2_with fail
  all_goals refine (HZ.out _ HH).mono ?_
  all_goals rintro r w4 ⟨rfl, ⟨⟨p0, p1⟩, ⟨p2, p3⟩, ⟨p4, p5⟩, j0, j1, j2⟩, HI⟩
  all_goals go_wp2_with fail
  all_goals refine (HD.out _ HI).mono ?_
  all_goals rintro r w5 ⟨rfl, ⟨⟨a0, a1⟩, ⟨a2, a3⟩, ⟨u0, u1⟩, a4, a5, u2⟩, HL⟩
  all_goals go_wp2
  all_goals exact bodyPost_ret (v := IV 4607182418800017408 9218868437227405312) (by simp [results, Tryd.results37, go_sem, u0, u1, IV]) rfl ⟨rfl, Below.setCell (Below.setCell HL.out.1 (Nat.le_trans (Nat.le_succ _) (Nat.le_succ _)) _) (Nat.le_trans (Nat.le_succ _) (Nat.le_succ _)) _⟩
end Go.Proofs.YtdahhpimhmloiaaDoor
