
/- The document's Empty, All, made, New, Point, Is (binnacleref06); interval's Point. -/
import Derived.Test.YtdahhpimhmloiaaDoorP20
namespace Go.Proofs.YtdahhpimhmloiaaDoor
open Go.RowKit Go.IntWalk

set_option maxHeartbeats 1000000 in
theorem rEmpty_any (w : World) : Calls Tryd.prog 20 #[] w fun r w' => r = .returned (IV 9218868437227405312 18442240474082181120) ∧ Below w.heap.size w w' := by
  have HB0 : Hid (Below w.heap.size w (w.alloc (IBox 0 0))) := (Below.refl _ _).alloc (Nat.le_refl _) _
  have HR := inew w (IBox 0 0)
  obtain ⟨W0, hW0⟩ : ∃ V, Hid (w.alloc (IBox 0 0) = V) := ⟨_, rfl⟩
  rw [hW0.out] at HB0 HR
  obtain ⟨z0, z1, z2⟩ := icells_of (show W0.heap[w.heap.size]? = some (.cells #[.float .f64 0, .float .f64 0] 28) from HR)
  unfold IBox at hW0
  have hW0' := hW0.out
  have hst := fstore
  clear HR
  go_enter Tryd.func20, Tryd.ntmps20
  go_wp2_with fail
  refine (Inf_pos _).mono ?_
  rintro r w1 ⟨rfl, rfl⟩
  go_wp2_with fail
  refine (Inf_neg _).mono ?_
  rintro r w1 ⟨rfl, rfl⟩
  go_wp2
  exact bodyPost_ret (v := IV 9218868437227405312 18442240474082181120) (by simp [results, Tryd.results20, go_sem, z0, z1, IV]) rfl ⟨rfl, Below.setCell (Below.setCell HB0.out (Nat.le_refl _) _) (Nat.le_refl _) _⟩
set_option maxHeartbeats 1000000 in
theorem rAll_any (w : World) : Calls Tryd.prog 22 #[] w fun r w' => r = .returned (IV 18442240474082181120 9218868437227405312) ∧ Below w.heap.size w w' := by
  have HB0 : Hid (Below w.heap.size w (w.alloc (IBox 0 0))) := (Below.refl _ _).alloc (Nat.le_refl _) _
  have HR := inew w (IBox 0 0)
  obtain ⟨W0, hW0⟩ : ∃ V, Hid (w.alloc (IBox 0 0) = V) := ⟨_, rfl⟩
  rw [hW0.out] at HB0 HR
  obtain ⟨z0, z1, z2⟩ := icells_of (show W0.heap[w.heap.size]? = some (.cells #[.float .f64 0, .float .f64 0] 28) from HR)
  unfold IBox at hW0
  have hW0' := hW0.out
  have hst := fstore
  clear HR
  go_enter Tryd.func22, Tryd.ntmps22
  go_wp2_with fail
  refine (Inf_neg _).mono ?_
  rintro r w1 ⟨rfl, rfl⟩
  go_wp2_with fail
  refine (Inf_pos _).mono ?_
  rintro r w1 ⟨rfl, rfl⟩
  go_wp2
  exact bodyPost_ret (v := IV 18442240474082181120 9218868437227405312) (by simp [results, Tryd.results22, go_sem, z0, z1, IV]) rfl ⟨rfl, Below.setCell (Below.setCell HB0.out (Nat.le_refl _) _) (Nat.le_refl _) _⟩
theorem f6_add {x y z : Nat} (h : FloatKind.f64.format.add x y = some z) (w : World) : (binOp .add 26 (.float .f64 x) (.float .f64 y)).run Tryd.prog w = .ok (.float .f64 z) w := run_float_arith w .add _ .f64 x y z h
theorem f6_sub {x y z : Nat} (h : FloatKind.f64.format.sub x y = some z) (w : World) : (binOp .sub 26 (.float .f64 x) (.float .f64 y)).run Tryd.prog w = .ok (.float .f64 z) w := run_float_arith w .sub _ .f64 x y z h
/-- Ends that are no NaN. -/
def Nn (x : Nat) : Prop := x < 18446744073709551616 ∧ x % 9223372036854775808 ≤ 9218868437227405312
set_option maxHeartbeats 1000000 in
theorem rmade_any (lo hi : Nat) (w : World) (h1 : Nn lo) (h2 : Nn hi) : Calls Tryd.prog 47 #[.float .f64 lo, .float .f64 hi] w fun r w' => r = .returned (IV (plusOf lo) (plusOf hi)) ∧ Below w.heap.size w w' := by
  have HB0 : Hid (Below w.heap.size w (w.alloc (IBox 0 0))) := (Below.refl _ _).alloc (Nat.le_refl _) _
  have HR := inew w (IBox 0 0)
  obtain ⟨W0, hW0⟩ : ∃ V, Hid (w.alloc (IBox 0 0) = V) := ⟨_, rfl⟩
  rw [hW0.out] at HB0 HR
  obtain ⟨z0, z1, z2⟩ := icells_of (show W0.heap[w.heap.size]? = some (.cells #[.float .f64 0, .float .f64 0] 28) from HR)
  have a1 := f6_add (add_zero h1.1 h1.2)
  have a2 := f6_add (add_zero h2.1 h2.2)
  obtain ⟨p, hp⟩ : ∃ p, Hid (plusOf lo = p) := ⟨_, rfl⟩
  obtain ⟨q, hq⟩ : ∃ p, Hid (plusOf hi = p) := ⟨_, rfl⟩
  rw [hp.out] at a1 ⊢
  rw [hq.out] at a2 ⊢
  unfold IBox at hW0
  have hW0' := hW0.out
  have hst := fstore
  clear HR h1 h2
  go_enter Tryd.func47, Tryd.ntmps47
  go_wp2
  exact bodyPost_ret (v := IV p q) (by simp [results, Tryd.results47, go_sem, z0, z1, IV]) rfl ⟨rfl, Below.setCell (Below.setCell HB0.out (Nat.le_refl _) _) (Nat.le_refl _) _⟩
theorem full_nn {lo hi : Nat} (h1 : lo < 18446744073709551616) (h2 : hi < 18446744073709551616) (h : fullB lo hi = true) : Nn lo ∧ Nn hi := ⟨⟨h1, (full_nums h).1⟩, ⟨h2, (full_nums h).2⟩⟩
set_option maxHeartbeats 1000000 in
theorem rNew_any (lo hi : Nat) (w : World) (h1 : lo < 18446744073709551616) (h2 : hi < 18446744073709551616) : Calls Tryd.prog 16 #[.float .f64 lo, .float .f64 hi] w fun r w' => r = .returned (newV lo hi) ∧ Below w.heap.size w w' := by
  have HB0 : Hid (Below w.heap.size w (w.alloc (IBox 0 0))) := (Below.refl _ _).alloc (Nat.le_refl _) _
  have HR := inew w (IBox 0 0)
  have HRB := hid (fun (W : World) (h : Below (w.alloc (IBox 0 0)).heap.size (w.alloc (IBox 0 0)) W) => ikeep h)
  obtain ⟨W0, hW0⟩ : ∃ V, Hid (w.alloc (IBox 0 0) = V) := ⟨_, rfl⟩
  rw [hW0.out] at HB0 HR HRB
  have HE := hid (fun (W : World) => rFull_any lo hi W h1 h2)
  unfold IBox at hW0
  have hW0' := hW0.out
  have hst := fstore
  by_cases c : fullB lo hi = true
  · have e0 : newV lo hi = .tuple #[IV (plusOf lo) (plusOf hi), .int .i64 0] := if_pos c
    obtain ⟨n1, n2⟩ := full_nn h1 h2 c
    have HBT := hid (fun (W : World) => rmade_any lo hi W n1 n2)
    rw [e0]
    rw [c] at HE
    obtain ⟨p, hp⟩ : ∃ p, Hid (plusOf lo = p) := ⟨_, rfl⟩
    obtain ⟨q, hq⟩ : ∃ p, Hid (plusOf hi = p) := ⟨_, rfl⟩
    rw [hp.out, hq.out] at HBT ⊢
    clear HR c e0 n1 n2 h1 h2
    unfold IV at HBT HE
    go_enter Tryd.func16, Tryd.ntmps16
    go_wp2_with fail
    refine (HE.out _).mono ?_
    rintro r w1 ⟨rfl, hb1⟩
    have HB1 := hid hb1
    clear hb1
    go_wp2_with fail
    refine (HBT.out _).mono ?_
    rintro r w2 ⟨rfl, hb2⟩
    have hb3 := HB1.out.trans (hb2.mono HB1.out.size)
    have HR := HRB.out _ hb3
    have HB2 := hid (HB0.out.trans (hb3.mono HB0.out.size))
    obtain ⟨z0, z1, z2⟩ := icells_of (show w2.heap[w.heap.size]? = some (.cells #[.float .f64 0, .float .f64 0] 28) from HR)
    clear HR hb2 hb3
    go_wp2
    exact bodyPost_ret (v := .tuple #[IV p q, .int .i64 0]) (by simp [results, Tryd.results16, go_sem, z0, z1, IV]) rfl ⟨rfl, Below.setCell (Below.setCell HB2.out (Nat.le_refl _) _) (Nat.le_refl _) _⟩
  · have e0 : newV lo hi = .tuple #[IV 0 0, .int .i64 60] := if_neg c
    rw [e0]
    rw [Bool.eq_false_iff.2 c] at HE
    clear HR c e0 h1 h2
    unfold IV at HE
    go_enter Tryd.func16, Tryd.ntmps16
    go_wp2_with fail
    refine (HE.out _).mono ?_
    rintro r w1 ⟨rfl, hb1⟩
    have HR := HRB.out _ hb1
    have HB2 := hid (HB0.out.trans (hb1.mono HB0.out.size))
    obtain ⟨z0, z1, z2⟩ := icells_of (show w1.heap[w.heap.size]? = some (.cells #[.float .f64 0, .float .f64 0] 28) from HR)
    clear HR hb1
    go_wp2
    exact bodyPost_ret (v := .tuple #[IV 0 0, .int .i64 60]) (by simp [results, Tryd.results16, go_sem, z0, z1, IV]) rfl ⟨rfl, Below.setCell (Below.setCell HB2.out (Nat.le_refl _) _) (Nat.le_refl _) _⟩
end Go.Proofs.YtdahhpimhmloiaaDoor
