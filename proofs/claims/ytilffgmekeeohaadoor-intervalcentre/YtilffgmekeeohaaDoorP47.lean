
/- interval's settled where nothing is to be mended; quotient at the chapter's first example. -/
import Derived.Test.YtilffgmekeeohaaDoorP46
namespace Go.Proofs.YtilffgmekeeohaaDoor
open Go.RowKit Go.IntWalk

set_option maxHeartbeats 1000000 in
theorem settled_up (near back given : Nat) (w : World) (h : (FloatKind.f64.format.order back given == some .lt) = false) : Calls Tryd.prog 49 #[.float .f64 near, .float .f64 back, .float .f64 given, .bool true] w fun r w' => r = .returned (.float .f64 near) ∧ w' = w := by
  go_enter Tryd.func49, Tryd.ntmps49
  go_wp2
  go_ret
  exact ⟨rfl, rfl⟩
set_option maxHeartbeats 1000000 in
theorem settled_down (near back given : Nat) (w : World) (h : (FloatKind.f64.format.order back given == some .gt) = false) : Calls Tryd.prog 49 #[.float .f64 near, .float .f64 back, .float .f64 given, .bool false] w fun r w' => r = .returned (.float .f64 near) ∧ w' = w := by
  go_enter Tryd.func49, Tryd.ntmps49
  go_wp2
  go_ret
  exact ⟨rfl, rfl⟩
set_option maxHeartbeats 1000000 in
theorem quotient_1 (w : World) (hT : Tab w) (hs : 1 < w.heap.size) : Calls Tryd.prog 59 #[.float .f64 4607182418800017408, .float .f64 4607182418800017408, .bool false] w fun r w' => r = .returned (.float .f64 4607182418800017408) ∧ Below w.heap.size w w' := by
  have HT := hid (And.intro hT hs)
  have hq : ∀ W : World, (binOp .quo 26 (.float .f64 4607182418800017408) (.float .f64 4607182418800017408)).run Tryd.prog W = .ok (.float .f64 4607182418800017408) W := fun W => run_float_arith W .quo _ .f64 _ _ _ (by decide +kernel)
  have o1 : (FloatKind.f64.format.order 4607182418800017408 4607182418800017408 == some .gt) = false := by decide +kernel
  clear hT hs
  go_enter Tryd.func59, Tryd.ntmps59
  go_wp2_with fail
  refine (product_1_1 _ _ HT.out.1 HT.out.2).mono ?_
  rintro r w1 ⟨rfl, hb⟩
  have HB := hid hb
  clear hb
  go_wp2_with fail
  refine (settled_down _ _ _ _ o1).mono ?_
  rintro r w2 ⟨rfl, rfl⟩
  go_wp2
  go_ret
  exact ⟨rfl, HB.out⟩
end Go.Proofs.YtilffgmekeeohaaDoor

namespace Go.Proofs.YtilffgmekeeohaaDoor
open Go.RowKit Go.IntWalk

theorem sqrt_run (x r : Nat) (h : FloatKind.f64.format.sqrt x = some r) (w : World) : (callFunc 75 #[.float .f64 x]).run Tryd.prog w = .ok (.value (.float .f64 r)) w := by
  rw [run_callFunc_extern Tryd.func75 (by kernel_rfl) (by kernel_rfl) (by kernel_rfl) (e := Extern.MathSqrt.sqrt) (by kernel_rfl)]
  have e : Extern.MathSqrt.sqrt #[.float .f64 x] = pure (.float .f64 r) := by
    show (match FloatKind.f64.format.sqrt x with
      | some r => pure (Value.float .f64 r)
      | none => do pure (Value.float .f64 (← choose (.nanBits .f64 x x)))) = _
    rw [h]
  rw [e]
  rfl
set_option maxHeartbeats 1000000 in
theorem Sqrt_at (x r : Nat) (w : World) (h : FloatKind.f64.format.sqrt x = some r) : Calls Tryd.prog 60 #[.float .f64 x] w fun z w' => z = .returned (.float .f64 r) ∧ w' = w := by
  have hq := sqrt_run x r h
  clear h
  go_enter Tryd.func60, Tryd.ntmps60
  go_wp2
  go_ret
  exact ⟨rfl, rfl⟩
set_option maxHeartbeats 1000000 in
theorem root_4 (w : World) (hT : Tab w) (hs : 1 < w.heap.size) : Calls Tryd.prog 44 #[.float .f64 4616189618054758400, .bool true] w fun r w' => r = .returned (.float .f64 4611686018427387904) ∧ Below w.heap.size w w' := by
  have HT := hid (And.intro hT hs)
  have o1 : (FloatKind.f64.format.order 4616189618054758400 4616189618054758400 == some .lt) = false := by decide +kernel
  clear hT hs
  go_enter Tryd.func44, Tryd.ntmps44
  go_wp2_with fail
  refine (Sqrt_at 4616189618054758400 4611686018427387904 _ (by decide +kernel)).mono ?_
  rintro r w1 ⟨rfl, rfl⟩
  go_wp2_with fail
  refine (product_2_2 _ _ HT.out.1 HT.out.2).mono ?_
  rintro r w1 ⟨rfl, hb⟩
  have HB := hid hb
  clear hb
  go_wp2_with fail
  refine (settled_up _ _ _ _ o1).mono ?_
  rintro r w2 ⟨rfl, rfl⟩
  go_wp2
  go_ret
  exact ⟨rfl, HB.out⟩
set_option maxHeartbeats 1000000 in
theorem root_0 (w : World) : Calls Tryd.prog 44 #[.float .f64 0, .bool false] w fun r w' => r = .returned (.float .f64 0) ∧ w' = w := by
  have o1 : (FloatKind.f64.format.order 0 0 == some .gt) = false := by decide +kernel
  go_enter Tryd.func44, Tryd.ntmps44
  go_wp2_with fail
  refine (Sqrt_at 0 0 _ (by decide +kernel)).mono ?_
  rintro r w1 ⟨rfl, rfl⟩
  go_wp2_with fail
  refine (product_0 _ _ _).mono ?_
  rintro r w1 ⟨rfl, rfl⟩
  go_wp2_with fail
  refine (settled_down _ _ _ _ o1).mono ?_
  rintro r w2 ⟨rfl, rfl⟩
  go_wp2
  go_ret
  exact ⟨rfl, rfl⟩
end Go.Proofs.YtilffgmekeeohaaDoor

namespace Go.Proofs.YtilffgmekeeohaaDoor
open Go.RowKit Go.IntWalk

/-- Two blocks of ends, the second one for the answer, and all below them untouched. -/
def Fr2 (w : World) (a b : Nat) (W : World) : Prop := Below w.heap.size w W ∧ W.heap[w.heap.size]? = some (IBox a b) ∧ W.heap[w.heap.size + 1]? = some (IBox 0 0)
theorem Fr2.go {w W W' : World} {a b : Nat} (h : Fr2 w a b W) (hb : Below W.heap.size W W') : Fr2 w a b W' := by
  obtain ⟨h1, h2, h3⟩ := h
  exact ⟨h1.trans (hb.mono h1.size), (hb.block _ (Array.getElem?_eq_some_iff.1 h2).1).trans h2, (hb.block _ (Array.getElem?_eq_some_iff.1 h3).1).trans h3⟩
/-- Its cells. -/
def Cells2 (W : World) (n a b : Nat) : Prop := (W.cell? ⟨n, 0, none⟩ = some (.float .f64 a) ∧ W.cell? ⟨n, 1, none⟩ = some (.float .f64 b)) ∧ (W.cell? ⟨n + 1, 0, none⟩ = some (.float .f64 0) ∧ W.cell? ⟨n + 1, 1, none⟩ = some (.float .f64 0)) ∧ (∀ o, W.frozen? ⟨n, o, none⟩ = false) ∧ (∀ o, W.frozen? ⟨n + 1, o, none⟩ = false)
theorem Fr2.cells {w W : World} {a b : Nat} (h : Fr2 w a b W) : Cells2 W w.heap.size a b := by
  obtain ⟨h1, h2, h3⟩ := h
  have t1 := icells_of h2
  have t2 := icells_of h3
  exact ⟨⟨t1.1, t1.2.1⟩, ⟨t2.1, t2.2.1⟩, t1.2.2, t2.2.2⟩
theorem put_0 {W : World} {b : Nat} {a c x : Value} {T : TypeId} (h : W.heap[b]? = some (.cells #[a, c] T)) : (W.setCell ⟨b, 0, none⟩ x).heap[b]? = some (.cells #[x, c] T) := by
  simp [World.setCell, Array.getElem?_modify, h]
theorem put_1 {W : World} {b : Nat} {a c x : Value} {T : TypeId} (h : W.heap[b]? = some (.cells #[a, c] T)) : (W.setCell ⟨b, 1, none⟩ x).heap[b]? = some (.cells #[a, x] T) := by
  simp [World.setCell, Array.getElem?_modify, h]
theorem Fr2.put {w W : World} {a b : Nat} (h : Fr2 w a b W) (c d : Nat) : Fr2 w c d ((W.setCell ⟨w.heap.size, 0, none⟩ (.float .f64 c)).setCell ⟨w.heap.size, 1, none⟩ (.float .f64 d)) := by
  obtain ⟨h1, h2, h3⟩ := h
  refine ⟨Below.setCell (Below.setCell h1 (Nat.le_refl _) _) (Nat.le_refl _) _, put_1 (put_0 h2), ?_⟩
  rw [Below.heap_setCell _ _ _ _ (by show _ ≠ w.heap.size; omega), Below.heap_setCell _ _ _ _ (by show _ ≠ w.heap.size; omega)]
  exact h3
/-- The first block alone. -/
def FrA (w : World) (a b : Nat) (W : World) : Prop := Below w.heap.size w W ∧ W.heap[w.heap.size]? = some (IBox a b)
theorem FrA.store {w W : World} {a b : Nat} (h : Hid (FrA w a b W)) (o : Nat) (v : Value) : Hid (FrA w a b (W.setCell ⟨w.heap.size + 1, o, none⟩ v)) := by
  refine ⟨Below.setCell h.out.1 (Nat.le_succ _) _, ?_⟩
  rw [Below.heap_setCell _ _ _ _ (by show _ ≠ w.heap.size + 1; omega)]
  exact h.out.2
theorem Fr2.fst {w W : World} {a b : Nat} (h : Fr2 w a b W) : Hid (FrA w a b W) := ⟨h.1, h.2.1⟩
def rootZ (x : Nat) : Nat := if x = 0 then 0 else 4611686018427387904
set_option maxHeartbeats 4000000 in
theorem Sqrt_ex (w : World) (hT : Tab w) (hs : 1 < w.heap.size) : Calls Tryd.prog 18 #[IV 13839561654909534208 4616189618054758400] w fun r w' => r = .returned (IV 0 4611686018427387904) ∧ Below w.heap.size w w' := by
  obtain ⟨g1, g2⟩ := iblk2 w (IBox 13839561654909534208 4616189618054758400) (IBox 0 0)
  have HF0 : Hid (Fr2 w 13839561654909534208 4616189618054758400 ((w.alloc (IBox 13839561654909534208 4616189618054758400)).alloc (IBox 0 0))) := ⟨((Below.refl _ _).alloc (Nat.le_refl _) _).alloc (by simp) _, g1, g2⟩
  obtain ⟨W0, hW0⟩ : ∃ V, Hid ((w.alloc (IBox 13839561654909534208 4616189618054758400)).alloc (IBox 0 0) = V) := ⟨_, rfl⟩
  rw [hW0.out] at HF0
  obtain ⟨⟨y0, y1⟩, ⟨y2, y3⟩, y4, y5⟩ := HF0.out.cells
  have HQ0 : Hid (Fr2 w 13839561654909534208 4616189618054758400 W0.drew) := HF0.out.go ((Below.refl _ _).drew)
  have b1 : btLo 0 9218868437227405312 = 0 := by decide +kernel
  have b2 : btHi 0 9218868437227405312 = 9218868437227405312 := by decide +kernel
  have HBT : Hid (∀ W, Hid (Fr2 w 13839561654909534208 4616189618054758400 W) → Calls Tryd.prog 38 #[.float .f64 0, .float .f64 9218868437227405312] W fun r w' => r = .returned (IV 0 9218868437227405312) ∧ Cells2 w' w.heap.size 13839561654909534208 4616189618054758400 ∧ Hid (Fr2 w 13839561654909534208 4616189618054758400 w')) := fun W hW => by
    have := between_any 0 9218868437227405312 W
    rw [b1, b2] at this
    refine this.mono ?_
    rintro r w' ⟨rfl, h⟩
    exact ⟨rfl, (hW.out.go h).cells, hW.out.go h⟩
  have m1 : meLo 13839561654909534208 4616189618054758400 0 9218868437227405312 = 0 := by decide +kernel
  have m2 : meHi 13839561654909534208 4616189618054758400 0 9218868437227405312 = 4616189618054758400 := by decide +kernel
  have HME : Hid (∀ W, Hid (Fr2 w 13839561654909534208 4616189618054758400 W) → Calls Tryd.prog 42 #[IV 13839561654909534208 4616189618054758400, IV 0 9218868437227405312] W fun r w' => r = .returned (IV 0 4616189618054758400) ∧ Cells2 w' w.heap.size 13839561654909534208 4616189618054758400 ∧ Hid (Fr2 w 13839561654909534208 4616189618054758400 w')) := fun W hW => by
    have : Calls Tryd.prog 42 #[IV 13839561654909534208 4616189618054758400, IV 0 9218868437227405312] W fun r w' => r = .returned (IV (meLo 13839561654909534208 4616189618054758400 0 9218868437227405312) (meHi 13839561654909534208 4616189618054758400 0 9218868437227405312)) ∧ Below W.heap.size W w' := Meet_any 13839561654909534208 4616189618054758400 0 9218868437227405312 W (by decide) (by decide) (by decide) (by decide)
    rw [m1, m2] at this
    refine this.mono ?_
    rintro r w' ⟨rfl, h⟩
    exact ⟨rfl, (hW.out.go h).cells, hW.out.go h⟩
  have HPU : Hid (∀ W, Hid (Fr2 w 13839561654909534208 4616189618054758400 W) → Hid (Fr2 w 0 4616189618054758400 ((W.setCell ⟨w.heap.size, 0, none⟩ (.float .f64 0)).setCell ⟨w.heap.size, 1, none⟩ (.float .f64 4616189618054758400)))) := fun W hW => hW.out.put 0 4616189618054758400
  have n1 : noneB 0 4616189618054758400 = false := by decide +kernel
  have HN : Hid (∀ W, Hid (Fr2 w 0 4616189618054758400 W) → Calls Tryd.prog 23 #[IV 0 4616189618054758400] W fun r w' => r = .returned (.bool false) ∧ Cells2 w' w.heap.size 0 4616189618054758400 ∧ Hid (Fr2 w 0 4616189618054758400 w')) := fun W hW => by
    have := none_any 0 4616189618054758400 W
    rw [n1] at this
    refine this.mono ?_
    rintro r w' ⟨rfl, h⟩
    exact ⟨rfl, (hW.out.go h).cells, hW.out.go h⟩
  have HK : Hid (∀ W, Hid (FrA w 0 4616189618054758400 W) → (W.cell? ⟨w.heap.size, 0, none⟩ = some (.float .f64 0) ∧ W.cell? ⟨w.heap.size, 1, none⟩ = some (.float .f64 4616189618054758400)) ∧ Hid (FrA w 0 4616189618054758400 W)) := fun W hW => ⟨⟨(icells_of hW.out.2).1, (icells_of hW.out.2).2.1⟩, hW⟩
  have HDR : Hid (∀ W, Hid (Fr2 w 0 4616189618054758400 W) → Hid (Fr2 w 0 4616189618054758400 W.drew)) := fun W hW => hW.out.go ((Below.refl _ _).drew)
  have HR4 : Hid (∀ x to W, (x = 0 ∧ to = false ∨ x = 4616189618054758400 ∧ to = true) → Hid (Fr2 w 0 4616189618054758400 W) → Calls Tryd.prog 44 #[.float .f64 x, .bool to] W fun r w' => r = .returned (.float .f64 (rootZ x)) ∧ Hid (FrA w 0 4616189618054758400 w') ∧ Hid (Fr2 w 0 4616189618054758400 w')) := fun x to W hx hW => by
    rcases hx with ⟨rfl, rfl⟩ | ⟨rfl, rfl⟩
    · refine (root_0 W).mono ?_
      rintro r w' ⟨rfl, rfl⟩
      exact ⟨rfl, hW.out.fst, hW⟩
    · refine (root_4 W (hT.below hs hW.out.1) (Nat.lt_of_lt_of_le hs hW.out.1.size)).mono ?_
      rintro r w' ⟨rfl, h⟩
      exact ⟨rfl, (hW.out.go h).fst, hW.out.go h⟩
  have r1 : rootZ 0 = 0 := by decide +kernel
  have r2 : rootZ 4616189618054758400 = 4611686018427387904 := by decide +kernel
  have c1 : btLo 0 4611686018427387904 = 0 := by decide +kernel
  have c2 : btHi 0 4611686018427387904 = 4611686018427387904 := by decide +kernel
  have HB2 : Hid (∀ W, Hid (Fr2 w 0 4616189618054758400 W) → Calls Tryd.prog 38 #[.float .f64 0, .float .f64 4611686018427387904] W fun r w' => r = .returned (IV 0 4611686018427387904) ∧ (w'.cell? ⟨w.heap.size + 1, 0, none⟩ = some (.float .f64 0) ∧ w'.cell? ⟨w.heap.size + 1, 1, none⟩ = some (.float .f64 0)) ∧ (∀ o, w'.frozen? ⟨w.heap.size + 1, o, none⟩ = false) ∧ Hid (FrA w 0 4616189618054758400 w')) := fun W hW => by
    have := between_any 0 4611686018427387904 W
    rw [c1, c2] at this
    refine this.mono ?_
    rintro r w' ⟨rfl, h⟩
    exact ⟨rfl, (hW.out.go h).cells.2.1, (hW.out.go h).cells.2.2.2, (hW.out.go h).fst⟩
  unfold IBox at hW0
  have hW0' := hW0.out
  have hst := fstore
  unfold IV at HBT HME HN HB2 ⊢
  clear g1 g2 hT hs b1 b2 m1 m2 n1 c1 c2
  go_enter Tryd.func18, Tryd.ntmps18
  go_wp2_with fail
  go_region_with (first
    | (go_at_call 43; refine (Inf_pos _).mono ?_; rintro r w8 ⟨rfl, rfl⟩)
    | (go_at_call 38; refine (HBT.out _ (by assumption)).mono ?_; rintro r w1 ⟨rfl, ⟨⟨x0, x1⟩, ⟨x2, x3⟩, f0, f1⟩, HF⟩)
    | (go_at_call 42; refine (HME.out _ (by assumption)).mono ?_; rintro r w2 ⟨rfl, ⟨⟨v0, v1⟩, ⟨v2, v3⟩, q0, q1⟩, HG⟩))
  all_goals have HG2 := HPU.out _ HG
  all_goals go_wp2_with fail
  all_goals refine (HN.out _ HG2).mono ?_
  all_goals rintro r w3 ⟨rfl, ⟨⟨k0, k1⟩, ⟨k2, k3⟩, i0, i1⟩, HH⟩
  all_goals go_wp2_with fail
  all_goals have HQ1 := HDR.out _ HH
  all_goals have HQ2 := HQ1.out.fst
  all_goals go_region_held3 (fun W => (W.cell? ⟨w.heap.size, 0, none⟩ = some (.float .f64 0) ∧ W.cell? ⟨w.heap.size, 1, none⟩ = some (.float .f64 4616189618054758400)) ∧ Hid (FrA w 0 4616189618054758400 W))
    ((refine HK.out _ ?_; repeat' (first | with_reducible assumption | with_reducible exact HQ2 | with_reducible refine FrA.store ?_ _ _)))
    (first
      | (go_at_call 44; refine (HR4.out _ _ _ (by first | exact Or.inl ⟨rfl, rfl⟩ | exact Or.inr ⟨rfl, rfl⟩) (by assumption)).mono ?_; rintro r w4 ⟨rfl, HJ, HJ2⟩)
      | (go_at_call 38; refine (HB2.out _ (by assumption)).mono ?_; rintro r w5 ⟨rfl, ⟨u0, u1⟩, u2, HL⟩)
      | fail)
  all_goals go_wp2
  all_goals exact bodyPost_ret (v := IV 0 4611686018427387904) (by simp [results, Tryd.results18, go_sem, u0, u1, IV]) rfl ⟨rfl, Below.setCell (Below.setCell HL.out.1 (Nat.le_succ _) _) (Nat.le_succ _) _⟩
end Go.Proofs.YtilffgmekeeohaaDoor
