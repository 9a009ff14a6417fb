
/- interval's Has at the chapter's first example. -/
import Derived.Test.YtdahhpimhmloiaaDoorP45
namespace Go.Proofs.YtdahhpimhmloiaaDoor
open Go.RowKit Go.IntWalk

set_option maxHeartbeats 1000000 in
theorem isinf_8 (w : World) : Calls Tryd.prog 39 #[.float .f64 4620693217682128896, .int .i64 0] w fun r w' => r = .returned (.bool false) ∧ w' = w := by
  have h1 := f64bits
  have h2 := f64fromI6
  have b1 : bits .andNot .u64 4620693217682128896 9223372036854775808 = 4620693217682128896 := by decide +kernel
  have o1 : (FloatKind.f64.format.order 4620693217682128896 9218868437227405311 == some .gt) = false := by decide +kernel
  have HA : Hid (Calls Tryd.prog 58 #[.float .f64 4620693217682128896] w fun r w' => r = .returned (.float .f64 4620693217682128896) ∧ w' = w) := by
    go_enter Tryd.func58, Tryd.ntmps58
    go_wp2
    go_ret
    exact ⟨rfl, rfl⟩
  go_enter Tryd.func39, Tryd.ntmps39
  go_wp2_with fail
  refine HA.out.mono ?_
  rintro r w1 ⟨rfl, rfl⟩
  go_wp2
  go_ret
  exact ⟨rfl, rfl⟩
set_option maxHeartbeats 2000000 in
theorem Has_ex (w : World) : Calls Tryd.prog 24 #[IV 13841813454723219456 4620693217682128896, .float .f64 4620693217682128896] w fun r w' => r = .returned (.bool true) ∧ Below w.heap.size w w' := by
  have g1 := inew w (IBox 13841813454723219456 4620693217682128896)
  have HB0 : Hid (Below w.heap.size w (w.alloc (IBox 13841813454723219456 4620693217682128896))) := (Below.refl _ _).alloc (Nat.le_refl _) _
  obtain ⟨W0, hW0⟩ : ∃ V, Hid (w.alloc (IBox 13841813454723219456 4620693217682128896) = V) := ⟨_, rfl⟩
  rw [hW0.out] at g1 HB0
  have e1 : btLo 13841813454723219456 4620693217682128896 = 13841813454723219456 := by decide +kernel
  have e2 : btHi 13841813454723219456 4620693217682128896 = 4620693217682128896 := by decide +kernel
  have HT : Hid (∀ W, Hid (Below W0.heap.size W0 W) → Calls Tryd.prog 40 #[IV 13841813454723219456 4620693217682128896] W fun r w' => r = .returned (IV 13841813454723219456 4620693217682128896) ∧ w'.cell? ⟨w.heap.size, 0, none⟩ = some (.float .f64 13841813454723219456) ∧ w'.cell? ⟨w.heap.size, 1, none⟩ = some (.float .f64 4620693217682128896) ∧ (∀ o, w'.frozen? ⟨w.heap.size, o, none⟩ = false) ∧ Hid (Below W0.heap.size W0 w')) := fun W hW => by
    have := taken_any 13841813454723219456 4620693217682128896 W
    rw [e1, e2] at this
    refine this.mono ?_
    rintro r w' ⟨rfl, h⟩
    have h' : Below W0.heap.size W0 w' := hW.out.trans (h.mono hW.out.size)
    have t1 := icells_of ((h'.block _ (Array.getElem?_eq_some_iff.1 g1).1).trans g1)
    exact ⟨rfl, t1.1, t1.2.1, t1.2.2, h'⟩
  have HQ0 : Hid (Below W0.heap.size W0 W0) := Below.refl _ _
  obtain ⟨y0, y1, y2⟩ := icells_of (show W0.heap[w.heap.size]? = some (.cells #[.float .f64 13841813454723219456, .float .f64 4620693217682128896] 28) from g1)
  have o1 : FloatKind.f64.format.order 13841813454723219456 4620693217682128896 = some .lt := by decide +kernel
  have o2 : FloatKind.f64.format.order 4620693217682128896 4620693217682128896 = some .eq := by decide +kernel
  unfold IBox at hW0
  have hW0' := hW0.out
  have hst := fstore
  unfold IV at HT ⊢
  clear g1
  go_enter Tryd.func24, Tryd.ntmps24
  go_wp2_with fail
  refine (HT.out _ HQ0).mono ?_
  rintro r w1 ⟨rfl, x0, x1, x2, HF⟩
  go_wp2_with fail
  refine (isinf_8 _).mono ?_
  rintro r w2 ⟨rfl, rfl⟩
  go_wp2
  go_ret
  exact ⟨rfl, Below.setCell (Below.setCell (HB0.out.trans (HF.out.mono HB0.out.size)) (Nat.le_refl _) _) (Nat.le_refl _) _⟩
end Go.Proofs.YtdahhpimhmloiaaDoor
