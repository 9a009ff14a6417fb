
/- interval's Empty, All, between, taken. -/
import Derived.Test.YtdahhpimhmloiaaDoorP4
namespace Go.Proofs.YtdahhpimhmloiaaDoor
open Go.RowKit Go.IntWalk

/-- A block of two ends. -/
def IBox (lo hi : Nat) : Obj := .cells #[.float .f64 lo, .float .f64 hi] 28
theorem icells_of {W : World} {b : Nat} {v0 v1 : Value} {T : TypeId} (h : W.heap[b]? = some (.cells #[v0, v1] T)) : W.cell? ⟨b, 0, none⟩ = some v0 ∧ W.cell? ⟨b, 1, none⟩ = some v1 ∧ (∀ o, W.frozen? ⟨b, o, none⟩ = false) :=
  ⟨by simp [World.cell?, h], by simp [World.cell?, h], fun o => by simp [World.frozen?, h]⟩
/-- (The walk has no law for a float's store.) -/
theorem fstore (W : World) (a : Addr) (x : Nat) : (store a (.float .f64 x)).run Tryd.prog W = stored Tryd.prog W a (.float .f64 x) .plain := run_store _ _ _ _ _ rfl
theorem inew (w : World) (o : Obj) : (w.alloc o).heap[w.heap.size]? = some o := Array.getElem?_push_size
theorem ikeep {w W : World} {o : Obj} (h : Below (w.alloc o).heap.size (w.alloc o) W) : W.heap[w.heap.size]? = some o := by
  rw [h.block _ (by simp)]
  exact inew _ _
set_option maxHeartbeats 1000000 in
theorem Empty_any (w : World) : Calls Tryd.prog 12 #[] w fun r w' => r = .returned (IV 9218868437227405312 18442240474082181120) ∧ Below w.heap.size w w' := by
  have HB0 : Hid (Below w.heap.size w (w.alloc (IBox 0 0))) := (Below.refl _ _).alloc (Nat.le_refl _) _
  have HR := inew w (IBox 0 0)
  obtain ⟨W0, hW0⟩ : ∃ V, Hid (w.alloc (IBox 0 0) = V) := ⟨_, rfl⟩
  rw [hW0.out] at HB0 HR
  obtain ⟨z0, z1, z2⟩ := icells_of (show W0.heap[w.heap.size]? = some (.cells #[.float .f64 0, .float .f64 0] 28) from HR)
  unfold IBox at hW0
  have hW0' := hW0.out
  have hst := fstore
  clear HR
  go_enter Tryd.func12, Tryd.ntmps12
  go_wp2_with fail
  refine (Inf_pos _).mono ?_
  rintro r w1 ⟨rfl, rfl⟩
  go_wp2_with fail
  refine (Inf_neg _).mono ?_
  rintro r w1 ⟨rfl, rfl⟩
  go_wp2
  exact bodyPost_ret (v := IV 9218868437227405312 18442240474082181120) (by simp [results, Tryd.results12, go_sem, z0, z1, IV]) rfl ⟨rfl, Below.setCell (Below.setCell HB0.out (Nat.le_refl _) _) (Nat.le_refl _) _⟩
/-- The ends of what is between two ends. -/
def btLo (lo hi : Nat) : Nat := if fullB lo hi = true then plusOf lo else 9218868437227405312
def btHi (lo hi : Nat) : Nat := if fullB lo hi = true then plusOf hi else 18442240474082181120
set_option maxHeartbeats 1000000 in
theorem between_any (lo hi : Nat) (w : World) : Calls Tryd.prog 41 #[.float .f64 lo, .float .f64 hi] w fun r w' => r = .returned (IV (btLo lo hi) (btHi lo hi)) ∧ Below w.heap.size w w' := by
  have HB0 : Hid (Below w.heap.size w (w.alloc (IBox 0 0))) := (Below.refl _ _).alloc (Nat.le_refl _) _
  have HR := inew w (IBox 0 0)
  have HRB := hid (fun (W : World) (h : Below (w.alloc (IBox 0 0)).heap.size (w.alloc (IBox 0 0)) W) => ikeep h)
  obtain ⟨W0, hW0⟩ : ∃ V, Hid (w.alloc (IBox 0 0) = V) := ⟨_, rfl⟩
  rw [hW0.out] at HB0 HR HRB
  have HE := hid (areEnds_any lo hi W0)
  unfold IBox at hW0
  have hW0' := hW0.out
  have hst := fstore
  by_cases c : fullB lo hi = true
  · have e1 : btLo lo hi = plusOf lo := if_pos c
    have e2 : btHi lo hi = plusOf hi := if_pos c
    rw [e1, e2]
    rw [c] at HE
    have HP1 := hid (plus_any lo)
    have HP2 := hid (plus_any hi)
    obtain ⟨p, hp⟩ : ∃ p, Hid (plusOf lo = p) := ⟨_, rfl⟩
    obtain ⟨q, hq⟩ : ∃ p, Hid (plusOf hi = p) := ⟨_, rfl⟩
    rw [hp.out] at HP1 ⊢
    rw [hq.out] at HP2 ⊢
    obtain ⟨z0, z1, z2⟩ := icells_of (show W0.heap[w.heap.size]? = some (.cells #[.float .f64 0, .float .f64 0] 28) from HR)
    clear HR c e1 e2
    go_enter Tryd.func41, Tryd.ntmps41
    go_wp2_with fail
    refine HE.out.mono ?_
    rintro r w1 ⟨rfl, rfl⟩
    go_wp2_with fail
    refine (HP1.out _).mono ?_
    rintro r w1 ⟨rfl, rfl⟩
    go_wp2_with fail
    refine (HP2.out _).mono ?_
    rintro r w1 ⟨rfl, rfl⟩
    go_wp2
    exact bodyPost_ret (v := IV p q) (by simp [results, Tryd.results41, go_sem, z0, z1, IV]) rfl ⟨rfl, Below.setCell (Below.setCell HB0.out (Nat.le_refl _) _) (Nat.le_refl _) _⟩
  · have e1 : btLo lo hi = 9218868437227405312 := if_neg c
    have e2 : btHi lo hi = 18442240474082181120 := if_neg c
    rw [e1, e2]
    rw [Bool.eq_false_iff.2 c] at HE
    clear HR c e1 e2
    go_enter Tryd.func41, Tryd.ntmps41
    go_wp2_with fail
    refine HE.out.mono ?_
    rintro r w1 ⟨rfl, rfl⟩
    go_wp2_with fail
    refine (Empty_any _).mono ?_
    rintro r w2 ⟨rfl, hb2⟩
    have HR := HRB.out _ hb2
    have HB2 := hid (HB0.out.trans (hb2.mono HB0.out.size))
    obtain ⟨z0, z1, z2⟩ := icells_of (show w2.heap[w.heap.size]? = some (.cells #[.float .f64 0, .float .f64 0] 28) from HR)
    clear HR hb2
    unfold IV
    go_wp2
    exact bodyPost_ret (v := IV 9218868437227405312 18442240474082181120) (by simp [results, Tryd.results41, go_sem, z0, z1, IV]) rfl ⟨rfl, Below.setCell (Below.setCell HB2.out (Nat.le_refl _) _) (Nat.le_refl _) _⟩
end Go.Proofs.YtdahhpimhmloiaaDoor
