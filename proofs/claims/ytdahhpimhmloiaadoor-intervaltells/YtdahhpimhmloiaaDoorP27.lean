
/- Has: interval's and the document's; interval's Below. -/
import Derived.Test.YtdahhpimhmloiaaDoorP26
namespace Go.Proofs.YtdahhpimhmloiaaDoor
open Go.RowKit Go.IntWalk

set_option maxHeartbeats 2000000 in
theorem Has_any (a b x : Nat) (w : World) (h1 : E2 a b) (hx : x < 18446744073709551616) : Calls Tryd.prog 24 #[IV a b, .float .f64 x] w fun r w' => r = .returned (.bool (hasB a b x)) ∧ Below w.heap.size w w' := by
  have g1 := inew w (IBox a b)
  have HB0 : Hid (Below w.heap.size w (w.alloc (IBox a b))) := (Below.refl _ _).alloc (Nat.le_refl _) _
  obtain ⟨W0, hW0⟩ : ∃ V, Hid (w.alloc (IBox a b) = V) := ⟨_, rfl⟩
  rw [hW0.out] at g1 HB0
  have HE := hid (has_is h1 hx)
  obtain ⟨S, hS⟩ : ∃ z, Hid (hasB a b x = z) := ⟨_, rfl⟩
  rw [hS.out] at HE ⊢
  have HT : Hid (∀ W, Hid (Below W0.heap.size W0 W) → Calls Tryd.prog 40 #[IV a b] W fun r w' => r = .returned (IV (btLo a b) (btHi a b)) ∧ w'.cell? ⟨w.heap.size, 0, none⟩ = some (.float .f64 a) ∧ w'.cell? ⟨w.heap.size, 1, none⟩ = some (.float .f64 b) ∧ (∀ o, w'.frozen? ⟨w.heap.size, o, none⟩ = false) ∧ Hid (Below W0.heap.size W0 w')) := fun W hW => by
    refine (taken_any a b W).mono ?_
    rintro r w' ⟨rfl, h⟩
    have h' : Below W0.heap.size W0 w' := hW.out.trans (h.mono hW.out.size)
    have t1 := icells_of ((h'.block _ (Array.getElem?_eq_some_iff.1 g1).1).trans g1)
    exact ⟨rfl, t1.1, t1.2.1, t1.2.2, h'⟩
  have HI := hid (fun (W : World) => isinf6_fl x W hx)
  have HQ0 : Hid (Below W0.heap.size W0 W0) := Below.refl _ _
  obtain ⟨y0, y1, y2⟩ := icells_of (show W0.heap[w.heap.size]? = some (.cells #[.float .f64 a, .float .f64 b] 28) from g1)
  obtain ⟨I, hI⟩ : ∃ z, Hid (decide (x % 9223372036854775808 = 9218868437227405312) = z) := ⟨_, rfl⟩
  rw [hI.out] at HI HE
  obtain ⟨A, hA⟩ : ∃ z, Hid (btLo a b = z) := ⟨_, rfl⟩
  obtain ⟨B, hB⟩ : ∃ z, Hid (btHi a b = z) := ⟨_, rfl⟩
  rw [hA.out, hB.out] at HE HT
  unfold IBox at hW0
  have hW0' := hW0.out
  have hst := fstore
  unfold IV at HT ⊢
  clear g1 h1 hx
  rcases c1 : leB A x with _ | _
  · rw [c1] at HE
    unfold leB at c1
    go_enter Tryd.func24, Tryd.ntmps24
    go_wp2_with fail
    refine (HT.out _ HQ0).mono ?_
    rintro r w1 ⟨rfl, x0, x1, x2, HF⟩
    go_wp2
    go_ret
    exact ⟨ret_boolV HE.out, Below.setCell (Below.setCell (HB0.out.trans (HF.out.mono HB0.out.size)) (Nat.le_refl _) _) (Nat.le_refl _) _⟩
  · rw [c1] at HE
    unfold leB at c1
    rcases c2 : leB x B with _ | _
    · rw [c2] at HE
      unfold leB at c2
      go_enter Tryd.func24, Tryd.ntmps24
      go_wp2_with fail
      refine (HT.out _ HQ0).mono ?_
      rintro r w1 ⟨rfl, x0, x1, x2, HF⟩
      go_wp2
      go_ret
      exact ⟨ret_boolV HE.out, Below.setCell (Below.setCell (HB0.out.trans (HF.out.mono HB0.out.size)) (Nat.le_refl _) _) (Nat.le_refl _) _⟩
    · rw [c2] at HE
      unfold leB at c2
      go_enter Tryd.func24, Tryd.ntmps24
      go_wp2_with fail
      refine (HT.out _ HQ0).mono ?_
      rintro r w1 ⟨rfl, x0, x1, x2, HF⟩
      go_wp2_with fail
      refine (HI.out _).mono ?_
      rintro r w2 ⟨rfl, rfl⟩
      go_wp2
      go_ret
      exact ⟨ret_boolV (by rw [← HE.out]; rfl), Below.setCell (Below.setCell (HB0.out.trans (HF.out.mono HB0.out.size)) (Nat.le_refl _) _) (Nat.le_refl _) _⟩
set_option maxHeartbeats 2000000 in
theorem rHas_any (a b x : Nat) (w : World) (h1 : E2 a b) (hx : x < 18446744073709551616) : Calls Tryd.prog 25 #[IV a b, .float .f64 x] w fun r w' => r = .returned (.bool (hasB a b x)) ∧ Below w.heap.size w w' := by
  have g1 := inew w (IBox a b)
  have HB0 : Hid (Below w.heap.size w (w.alloc (IBox a b))) := (Below.refl _ _).alloc (Nat.le_refl _) _
  obtain ⟨W0, hW0⟩ : ∃ V, Hid (w.alloc (IBox a b) = V) := ⟨_, rfl⟩
  rw [hW0.out] at g1 HB0
  have HF : Hid (∀ W, Hid (Below W0.heap.size W0 W) → Calls Tryd.prog 46 #[IV a b] W fun r w' => r = .returned (.bool (fullB a b)) ∧ w'.cell? ⟨w.heap.size, 0, none⟩ = some (.float .f64 a) ∧ w'.cell? ⟨w.heap.size, 1, none⟩ = some (.float .f64 b) ∧ Hid (Below W0.heap.size W0 w')) := fun W hW => by
    refine (rFull_any a b W h1.1 h1.2).mono ?_
    rintro r w' ⟨rfl, h⟩
    have h' : Below W0.heap.size W0 w' := hW.out.trans (h.mono hW.out.size)
    have t1 := icells_of ((h'.block _ (Array.getElem?_eq_some_iff.1 g1).1).trans g1)
    exact ⟨rfl, t1.1, t1.2.1, h'⟩
  have HQ0 : Hid (Below W0.heap.size W0 W0) := Below.refl _ _
  have HBE : Hid (∀ W, Hid (Below W0.heap.size W0 W) → Below w.heap.size w W) := fun W h => HB0.out.trans (h.out.mono HB0.out.size)
  obtain ⟨y0, y1, y2⟩ := icells_of (show W0.heap[w.heap.size]? = some (.cells #[.float .f64 a, .float .f64 b] 28) from g1)
  unfold IBox at hW0
  have hW0' := hW0.out
  clear g1 h1
  unfold hasB
  rcases hF : fullB a b with _ | _
  · rw [hF] at HF
    clear hF hx
    unfold IV at HF ⊢
    go_enter Tryd.func25, Tryd.ntmps25
    go_wp2_with fail
    refine (HF.out _ HQ0).mono ?_
    rintro r w1 ⟨rfl, x0, x1, HG⟩
    go_wp2
    go_ret
    exact ⟨rfl, HBE.out _ HG⟩
  · rw [hF] at HF
    clear hF
    by_cases c : x % 9223372036854775808 < 9218868437227405312
    · have e0 : finB x = true := decide_eq_true c
      have hsb := f6_sub (sub_self_fin hx c)
      have h00 : FloatKind.f64.format.order 0 0 = some .eq := by decide +kernel
      rw [e0]
      clear c e0 hx
      rcases c1 : leB a x with _ | _
      · unfold leB at c1
        unfold IV at HF ⊢
        go_enter Tryd.func25, Tryd.ntmps25
        go_wp2_with fail
        refine (HF.out _ HQ0).mono ?_
        rintro r w1 ⟨rfl, x0, x1, HG⟩
        go_wp2
        go_ret
        exact ⟨rfl, HBE.out _ HG⟩
      · rcases c2 : leB x b with _ | _
        · unfold leB at c1 c2
          unfold IV at HF ⊢
          go_enter Tryd.func25, Tryd.ntmps25
          go_wp2_with fail
          refine (HF.out _ HQ0).mono ?_
          rintro r w1 ⟨rfl, x0, x1, HG⟩
          go_wp2
          go_ret
          exact ⟨rfl, HBE.out _ HG⟩
        · unfold leB at c1 c2
          unfold IV at HF ⊢
          go_enter Tryd.func25, Tryd.ntmps25
          go_wp2_with fail
          refine (HF.out _ HQ0).mono ?_
          rintro r w1 ⟨rfl, x0, x1, HG⟩
          go_wp2
          go_ret
          exact ⟨rfl, HBE.out _ HG⟩
    · have e0 : finB x = false := decide_eq_false c
      obtain ⟨f, hf, ha⟩ := nan6_arith .sub x x (by simp) (sub_self_bad hx c)
      have ho : ∀ v, FloatKind.f64.format.order (f v) 0 = none := fun v => order_nan_l _ _ (hf v).2
      rw [e0]
      clear c e0 hx hf
      unfold IV at HF ⊢
      go_enter Tryd.func25, Tryd.ntmps25
      go_wp2_with fail
      refine (HF.out _ HQ0).mono ?_
      rintro r w1 ⟨rfl, x0, x1, HG⟩
      go_wp2
      go_ret
      exact ⟨rfl, (HBE.out _ HG).drew⟩
end Go.Proofs.YtdahhpimhmloiaaDoor
