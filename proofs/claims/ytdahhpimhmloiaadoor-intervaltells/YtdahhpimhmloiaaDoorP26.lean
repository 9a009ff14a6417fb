
/- In, Meets, Below: the document's. -/
import Derived.Test.YtdahhpimhmloiaaDoorP25
namespace Go.Proofs.YtdahhpimhmloiaaDoor
open Go.RowKit Go.IntWalk

def rinB (a b c d : Nat) : Bool := !fullB a b || (fullB c d && (leB c a && leB b d))
def rmeB (a b c d : Nat) : Bool := fullB a b && (fullB c d && (leB a d && leB c b))
def rbeB (a b c d : Nat) : Bool := !fullB a b || (!fullB c d || FloatKind.f64.format.order b c == some .lt)
set_option maxHeartbeats 2000000 in
theorem rIn_any (a b c d : Nat) (w : World) (h1 : E2 a b) (h2 : E2 c d) : Calls Tryd.prog 26 #[IV a b, IV c d] w fun r w' => r = .returned (.bool (rinB a b c d)) ∧ Below w.heap.size w w' := by
  obtain ⟨g1, g2⟩ := iblk2 w (IBox a b) (IBox c d)
  have HB0 : Hid (Below w.heap.size w ((w.alloc (IBox a b)).alloc (IBox c d))) := ((Below.refl _ _).alloc (Nat.le_refl _) _).alloc (by simp) _
  obtain ⟨W0, hW0⟩ : ∃ V, Hid ((w.alloc (IBox a b)).alloc (IBox c d) = V) := ⟨_, rfl⟩
  rw [hW0.out] at HB0 g1 g2
  have HC : Hid (∀ W, Hid (Below W0.heap.size W0 W) → (W.cell? ⟨w.heap.size, 0, none⟩ = some (.float .f64 a) ∧ W.cell? ⟨w.heap.size, 1, none⟩ = some (.float .f64 b)) ∧ (W.cell? ⟨w.heap.size + 1, 0, none⟩ = some (.float .f64 c) ∧ W.cell? ⟨w.heap.size + 1, 1, none⟩ = some (.float .f64 d))) := fun W hW => by
    have t1 := icells_of ((hW.out.block _ (Array.getElem?_eq_some_iff.1 g1).1).trans g1)
    have t2 := icells_of ((hW.out.block _ (Array.getElem?_eq_some_iff.1 g2).1).trans g2)
    exact ⟨⟨t1.1, t1.2.1⟩, ⟨t2.1, t2.2.1⟩⟩
  obtain ⟨⟨y0, y1⟩, ⟨y2, y3⟩⟩ := HC.out W0 (Below.refl _ _)
  have HF1 : Hid (∀ W, Hid (Below W0.heap.size W0 W) → Calls Tryd.prog 46 #[IV a b] W fun r w' => r = .returned (.bool (fullB a b)) ∧ Hid (Below W0.heap.size W0 w')) := fun W hW => by
    refine (rFull_any a b W h1.1 h1.2).mono ?_
    rintro r w' ⟨rfl, h⟩
    exact ⟨rfl, hW.out.trans (h.mono hW.out.size)⟩
  have HF2 : Hid (∀ W, Hid (Below W0.heap.size W0 W) → Calls Tryd.prog 46 #[IV c d] W fun r w' => r = .returned (.bool (fullB c d)) ∧ Hid (Below W0.heap.size W0 w')) := fun W hW => by
    refine (rFull_any c d W h2.1 h2.2).mono ?_
    rintro r w' ⟨rfl, h⟩
    exact ⟨rfl, hW.out.trans (h.mono hW.out.size)⟩
  have HW0 : Hid (Below W0.heap.size W0 W0) := Below.refl _ _
  have HBE : Hid (∀ W, Hid (Below W0.heap.size W0 W) → Below w.heap.size w W) := fun W h => HB0.out.trans (h.out.mono HB0.out.size)
  unfold IBox at hW0
  have hW0' := hW0.out
  clear g1 g2
  unfold rinB
  rcases hF : fullB a b with _ | _
  · rw [hF] at HF1
    clear hF h1 h2 HF2
    unfold IV at HF1 ⊢
    go_enter Tryd.func26, Tryd.ntmps26
    go_wp2_with fail
    refine (HF1.out _ HW0).mono ?_
    rintro r w1 ⟨rfl, HG1⟩
    obtain ⟨⟨x0, x1⟩, ⟨x2, x3⟩⟩ := HC.out _ HG1
    go_wp2
    go_ret
    exact ⟨rfl, HBE.out _ HG1⟩
  · rcases hG : fullB c d with _ | _
    · rw [hF] at HF1
      rw [hG] at HF2
      clear hF hG h1 h2
      unfold IV at HF1 HF2 ⊢
      go_enter Tryd.func26, Tryd.ntmps26
      go_wp2_with fail
      refine (HF1.out _ HW0).mono ?_
      rintro r w1 ⟨rfl, HG1⟩
      obtain ⟨⟨x0, x1⟩, ⟨x2, x3⟩⟩ := HC.out _ HG1
      go_wp2_with fail
      refine (HF2.out _ HG1).mono ?_
      rintro r w2 ⟨rfl, HG2⟩
      obtain ⟨⟨x0, x1⟩, ⟨x2, x3⟩⟩ := HC.out _ HG2
      go_wp2
      go_ret
      exact ⟨rfl, HBE.out _ HG2⟩
    · rw [hF] at HF1
      rw [hG] at HF2
      rcases c1 : leB c a with _ | _
      · unfold leB at c1
        clear hF hG h1 h2
        unfold IV at HF1 HF2 ⊢
        go_enter Tryd.func26, Tryd.ntmps26
        go_wp2_with fail
        refine (HF1.out _ HW0).mono ?_
        rintro r w1 ⟨rfl, HG1⟩
        obtain ⟨⟨x0, x1⟩, ⟨x2, x3⟩⟩ := HC.out _ HG1
        go_wp2_with fail
        refine (HF2.out _ HG1).mono ?_
        rintro r w2 ⟨rfl, HG2⟩
        obtain ⟨⟨x0, x1⟩, ⟨x2, x3⟩⟩ := HC.out _ HG2
        go_wp2
        go_ret
        exact ⟨rfl, HBE.out _ HG2⟩
      · rcases c2 : leB b d with _ | _
        · unfold leB at c1 c2
          clear hF hG h1 h2
          unfold IV at HF1 HF2 ⊢
          go_enter Tryd.func26, Tryd.ntmps26
          go_wp2_with fail
          refine (HF1.out _ HW0).mono ?_
          rintro r w1 ⟨rfl, HG1⟩
          obtain ⟨⟨x0, x1⟩, ⟨x2, x3⟩⟩ := HC.out _ HG1
          go_wp2_with fail
          refine (HF2.out _ HG1).mono ?_
          rintro r w2 ⟨rfl, HG2⟩
          obtain ⟨⟨x0, x1⟩, ⟨x2, x3⟩⟩ := HC.out _ HG2
          go_wp2
          go_ret
          exact ⟨rfl, HBE.out _ HG2⟩
        · unfold leB at c1 c2
          clear hF hG h1 h2
          unfold IV at HF1 HF2 ⊢
          go_enter Tryd.func26, Tryd.ntmps26
          go_wp2_with fail
          refine (HF1.out _ HW0).mono ?_
          rintro r w1 ⟨rfl, HG1⟩
          obtain ⟨⟨x0, x1⟩, ⟨x2, x3⟩⟩ := HC.out _ HG1
          go_wp2_with fail
          refine (HF2.out _ HG1).mono ?_
          rintro r w2 ⟨rfl, HG2⟩
          obtain ⟨⟨x0, x1⟩, ⟨x2, x3⟩⟩ := HC.out _ HG2
          go_wp2
          go_ret
          exact ⟨rfl, HBE.out _ HG2⟩
set_option maxHeartbeats 2000000 in
theorem rMeets_any (a b c d : Nat) (w : World) (h1 : E2 a b) (h2 : E2 c d) : Calls Tryd.prog 27 #[IV a b, IV c d] w fun r w' => r = .returned (.bool (rmeB a b c d)) ∧ Below w.heap.size w w' := by
  obtain ⟨g1, g2⟩ := iblk2 w (IBox a b) (IBox c d)
  have HB0 : Hid (Below w.heap.size w ((w.alloc (IBox a b)).alloc (IBox c d))) := ((Below.refl _ _).alloc (Nat.le_refl _) _).alloc (by simp) _
  obtain ⟨W0, hW0⟩ : ∃ V, Hid ((w.alloc (IBox a b)).alloc (IBox c d) = V) := ⟨_, rfl⟩
  rw [hW0.out] at HB0 g1 g2
  have HC : Hid (∀ W, Hid (Below W0.heap.size W0 W) → (W.cell? ⟨w.heap.size, 0, none⟩ = some (.float .f64 a) ∧ W.cell? ⟨w.heap.size, 1, none⟩ = some (.float .f64 b)) ∧ (W.cell? ⟨w.heap.size + 1, 0, none⟩ = some (.float .f64 c) ∧ W.cell? ⟨w.heap.size + 1, 1, none⟩ = some (.float .f64 d))) := fun W hW => by
    have t1 := icells_of ((hW.out.block _ (Array.getElem?_eq_some_iff.1 g1).1).trans g1)
    have t2 := icells_of ((hW.out.block _ (Array.getElem?_eq_some_iff.1 g2).1).trans g2)
    exact ⟨⟨t1.1, t1.2.1⟩, ⟨t2.1, t2.2.1⟩⟩
  obtain ⟨⟨y0, y1⟩, ⟨y2, y3⟩⟩ := HC.out W0 (Below.refl _ _)
  have HF1 : Hid (∀ W, Hid (Below W0.heap.size W0 W) → Calls Tryd.prog 46 #[IV a b] W fun r w' => r = .returned (.bool (fullB a b)) ∧ Hid (Below W0.heap.size W0 w')) := fun W hW => by
    refine (rFull_any a b W h1.1 h1.2).mono ?_
    rintro r w' ⟨rfl, h⟩
    exact ⟨rfl, hW.out.trans (h.mono hW.out.size)⟩
  have HF2 : Hid (∀ W, Hid (Below W0.heap.size W0 W) → Calls Tryd.prog 46 #[IV c d] W fun r w' => r = .returned (.bool (fullB c d)) ∧ Hid (Below W0.heap.size W0 w')) := fun W hW => by
    refine (rFull_any c d W h2.1 h2.2).mono ?_
    rintro r w' ⟨rfl, h⟩
    exact ⟨rfl, hW.out.trans (h.mono hW.out.size)⟩
  have HW0 : Hid (Below W0.heap.size W0 W0) := Below.refl _ _
  have HBE : Hid (∀ W, Hid (Below W0.heap.size W0 W) → Below w.heap.size w W) := fun W h => HB0.out.trans (h.out.mono HB0.out.size)
  unfold IBox at hW0
  have hW0' := hW0.out
  clear g1 g2
  unfold rmeB
  rcases hF : fullB a b with _ | _
  · rw [hF] at HF1
    clear hF h1 h2 HF2
    unfold IV at HF1 ⊢
    go_enter Tryd.func27, Tryd.ntmps27
    go_wp2_with fail
    refine (HF1.out _ HW0).mono ?_
    rintro r w1 ⟨rfl, HG1⟩
    obtain ⟨⟨x0, x1⟩, ⟨x2, x3⟩⟩ := HC.out _ HG1
    go_wp2
    go_ret
    exact ⟨rfl, HBE.out _ HG1⟩
  · rcases hG : fullB c d with _ | _
    · rw [hF] at HF1
      rw [hG] at HF2
      clear hF hG h1 h2
      unfold IV at HF1 HF2 ⊢
      go_enter Tryd.func27, Tryd.ntmps27
      go_wp2_with fail
      refine (HF1.out _ HW0).mono ?_
      rintro r w1 ⟨rfl, HG1⟩
      obtain ⟨⟨x0, x1⟩, ⟨x2, x3⟩⟩ := HC.out _ HG1
      go_wp2_with fail
      refine (HF2.out _ HG1).mono ?_
      rintro r w2 ⟨rfl, HG2⟩
      obtain ⟨⟨x0, x1⟩, ⟨x2, x3⟩⟩ := HC.out _ HG2
      go_wp2
      go_ret
      exact ⟨rfl, HBE.out _ HG2⟩
    · rw [hF] at HF1
      rw [hG] at HF2
      rcases c1 : leB a d with _ | _
      · unfold leB at c1
        clear hF hG h1 h2
        unfold IV at HF1 HF2 ⊢
        go_enter Tryd.func27, Tryd.ntmps27
        go_wp2_with fail
        refine (HF1.out _ HW0).mono ?_
        rintro r w1 ⟨rfl, HG1⟩
        obtain ⟨⟨x0, x1⟩, ⟨x2, x3⟩⟩ := HC.out _ HG1
        go_wp2_with fail
        refine (HF2.out _ HG1).mono ?_
        rintro r w2 ⟨rfl, HG2⟩
        obtain ⟨⟨x0, x1⟩, ⟨x2, x3⟩⟩ := HC.out _ HG2
        go_wp2
        go_ret
        exact ⟨rfl, HBE.out _ HG2⟩
      · rcases c2 : leB c b with _ | _
        · unfold leB at c1 c2
          clear hF hG h1 h2
          unfold IV at HF1 HF2 ⊢
          go_enter Tryd.func27, Tryd.ntmps27
          go_wp2_with fail
          refine (HF1.out _ HW0).mono ?_
          rintro r w1 ⟨rfl, HG1⟩
          obtain ⟨⟨x0, x1⟩, ⟨x2, x3⟩⟩ := HC.out _ HG1
          go_wp2_with fail
          refine (HF2.out _ HG1).mono ?_
          rintro r w2 ⟨rfl, HG2⟩
          obtain ⟨⟨x0, x1⟩, ⟨x2, x3⟩⟩ := HC.out _ HG2
          go_wp2
          go_ret
          exact ⟨rfl, HBE.out _ HG2⟩
        · unfold leB at c1 c2
          clear hF hG h1 h2
          unfold IV at HF1 HF2 ⊢
          go_enter Tryd.func27, Tryd.ntmps27
          go_wp2_with fail
          refine (HF1.out _ HW0).mono ?_
          rintro r w1 ⟨rfl, HG1⟩
          obtain ⟨⟨x0, x1⟩, ⟨x2, x3⟩⟩ := HC.out _ HG1
          go_wp2_with fail
          refine (HF2.out _ HG1).mono ?_
          rintro r w2 ⟨rfl, HG2⟩
          obtain ⟨⟨x0, x1⟩, ⟨x2, x3⟩⟩ := HC.out _ HG2
          go_wp2
          go_ret
          exact ⟨rfl, HBE.out _ HG2⟩
set_option maxHeartbeats 2000000 in
theorem rBelow_any (a b c d : Nat) (w : World) (h1 : E2 a b) (h2 : E2 c d) : Calls Tryd.prog 29 #[IV a b, IV c d] w fun r w' => r = .returned (.bool (rbeB a b c d)) ∧ Below w.heap.size w w' := by
  obtain ⟨g1, g2⟩ := iblk2 w (IBox a b) (IBox c d)
  have HB0 : Hid (Below w.heap.size w ((w.alloc (IBox a b)).alloc (IBox c d))) := ((Below.refl _ _).alloc (Nat.le_refl _) _).alloc (by simp) _
  obtain ⟨W0, hW0⟩ : ∃ V, Hid ((w.alloc (IBox a b)).alloc (IBox c d) = V) := ⟨_, rfl⟩
  rw [hW0.out] at HB0 g1 g2
  have HC : Hid (∀ W, Hid (Below W0.heap.size W0 W) → (W.cell? ⟨w.heap.size, 0, none⟩ = some (.float .f64 a) ∧ W.cell? ⟨w.heap.size, 1, none⟩ = some (.float .f64 b)) ∧ (W.cell? ⟨w.heap.size + 1, 0, none⟩ = some (.float .f64 c) ∧ W.cell? ⟨w.heap.size + 1, 1, none⟩ = some (.float .f64 d))) := fun W hW => by
    have t1 := icells_of ((hW.out.block _ (Array.getElem?_eq_some_iff.1 g1).1).trans g1)
    have t2 := icells_of ((hW.out.block _ (Array.getElem?_eq_some_iff.1 g2).1).trans g2)
    exact ⟨⟨t1.1, t1.2.1⟩, ⟨t2.1, t2.2.1⟩⟩
  obtain ⟨⟨y0, y1⟩, ⟨y2, y3⟩⟩ := HC.out W0 (Below.refl _ _)
  have HF1 : Hid (∀ W, Hid (Below W0.heap.size W0 W) → Calls Tryd.prog 46 #[IV a b] W fun r w' => r = .returned (.bool (fullB a b)) ∧ Hid (Below W0.heap.size W0 w')) := fun W hW => by
    refine (rFull_any a b W h1.1 h1.2).mono ?_
    rintro r w' ⟨rfl, h⟩
    exact ⟨rfl, hW.out.trans (h.mono hW.out.size)⟩
  have HF2 : Hid (∀ W, Hid (Below W0.heap.size W0 W) → Calls Tryd.prog 46 #[IV c d] W fun r w' => r = .returned (.bool (fullB c d)) ∧ Hid (Below W0.heap.size W0 w')) := fun W hW => by
    refine (rFull_any c d W h2.1 h2.2).mono ?_
    rintro r w' ⟨rfl, h⟩
    exact ⟨rfl, hW.out.trans (h.mono hW.out.size)⟩
  have HW0 : Hid (Below W0.heap.size W0 W0) := Below.refl _ _
  have HBE : Hid (∀ W, Hid (Below W0.heap.size W0 W) → Below w.heap.size w W) := fun W h => HB0.out.trans (h.out.mono HB0.out.size)
  unfold IBox at hW0
  have hW0' := hW0.out
  clear g1 g2
  unfold rbeB
  rcases hF : fullB a b with _ | _
  · rw [hF] at HF1
    clear hF h1 h2 HF2
    unfold IV at HF1 ⊢
    go_enter Tryd.func29, Tryd.ntmps29
    go_wp2_with fail
    refine (HF1.out _ HW0).mono ?_
    rintro r w1 ⟨rfl, HG1⟩
    obtain ⟨⟨x0, x1⟩, ⟨x2, x3⟩⟩ := HC.out _ HG1
    go_wp2
    go_ret
    exact ⟨rfl, HBE.out _ HG1⟩
  · rcases hG : fullB c d with _ | _
    · rw [hF] at HF1
      rw [hG] at HF2
      clear hF hG h1 h2
      unfold IV at HF1 HF2 ⊢
      go_enter Tryd.func29, Tryd.ntmps29
      go_wp2_with fail
      refine (HF1.out _ HW0).mono ?_
      rintro r w1 ⟨rfl, HG1⟩
      obtain ⟨⟨x0, x1⟩, ⟨x2, x3⟩⟩ := HC.out _ HG1
      go_wp2_with fail
      refine (HF2.out _ HG1).mono ?_
      rintro r w2 ⟨rfl, HG2⟩
      obtain ⟨⟨x0, x1⟩, ⟨x2, x3⟩⟩ := HC.out _ HG2
      go_wp2
      go_ret
      exact ⟨rfl, HBE.out _ HG2⟩
    · rw [hF] at HF1
      rw [hG] at HF2
      clear hF hG h1 h2
      unfold IV at HF1 HF2 ⊢
      go_enter Tryd.func29, Tryd.ntmps29
      go_wp2_with fail
      refine (HF1.out _ HW0).mono ?_
      rintro r w1 ⟨rfl, HG1⟩
      obtain ⟨⟨x0, x1⟩, ⟨x2, x3⟩⟩ := HC.out _ HG1
      go_wp2_with fail
      refine (HF2.out _ HG1).mono ?_
      rintro r w2 ⟨rfl, HG2⟩
      obtain ⟨⟨x0, x1⟩, ⟨x2, x3⟩⟩ := HC.out _ HG2
      go_wp2
      go_ret
      exact ⟨ret_boolV (by simp), HBE.out _ HG2⟩
end Go.Proofs.YtdahhpimhmloiaaDoor
