
/- interval's Meets, Is, All, New, Point. -/
import Derived.Test.YtdahhpimhmloiaaDoorP11
namespace Go.Proofs.YtdahhpimhmloiaaDoor
open Go.RowKit Go.IntWalk

/-- The ends of what both hold. -/
def meLo (a b c d : Nat) : Nat := btLo (mx (btLo a b) (btLo c d)) (mn (btHi a b) (btHi c d))
def meHi (a b c d : Nat) : Nat := btHi (mx (btLo a b) (btLo c d)) (mn (btHi a b) (btHi c d))
set_option maxHeartbeats 1000000 in
theorem Meets_any (a b c d : Nat) (w : World) (ha : a < 18446744073709551616) (hb : b < 18446744073709551616) (hc : c < 18446744073709551616) (hd : d < 18446744073709551616) : Calls Tryd.prog 14 #[IV a b, IV c d] w fun r w' => r = .returned (.bool (!noneB (meLo a b c d) (meHi a b c d))) ∧ Below w.heap.size w w' := by
  have HM : Hid (∀ W, Calls Tryd.prog 8 #[IV a b, IV c d] W fun r w' => r = .returned (IV (meLo a b c d) (meHi a b c d)) ∧ Below W.heap.size W w') := fun W => Meet_any a b c d W ha hb hc hd
  have HN := hid (none_any (meLo a b c d) (meHi a b c d))
  have HB0 : Hid (Below w.heap.size w ((w.alloc (IBox a b)).alloc (IBox c d))) := ((Below.refl _ _).alloc (Nat.le_refl _) _).alloc (by simp) _
  obtain ⟨L, hL⟩ : ∃ z, Hid (meLo a b c d = z) := ⟨_, rfl⟩
  obtain ⟨H, hH⟩ : ∃ z, Hid (meHi a b c d = z) := ⟨_, rfl⟩
  rw [hL.out, hH.out] at HM HN ⊢
  obtain ⟨B, hB⟩ : ∃ z, Hid (noneB L H = z) := ⟨_, rfl⟩
  rw [hB.out] at HN ⊢
  unfold IV at HM HN ⊢
  clear ha hb hc hd
  go_enter Tryd.func14, Tryd.ntmps14
  go_wp2_with fail
  refine (HM.out _).mono ?_
  rintro r w1 ⟨rfl, hb1⟩
  have HB1 := hid hb1
  clear hb1
  go_wp2_with fail
  refine (HN.out _).mono ?_
  rintro r w2 ⟨rfl, hb2⟩
  have HB2 := hid (HB1.out.trans (hb2.mono HB1.out.size))
  clear hb2
  go_wp2
  go_ret
  exact ⟨rfl, HB0.out.trans (HB2.out.mono HB0.out.size)⟩
set_option maxHeartbeats 1000000 in
theorem All_any (w : World) : Calls Tryd.prog 21 #[] w fun r w' => r = .returned (IV 18442240474082181120 9218868437227405312) ∧ Below w.heap.size w w' := by
  have HB0 : Hid (Below w.heap.size w (w.alloc (IBox 0 0))) := (Below.refl _ _).alloc (Nat.le_refl _) _
  have HR := inew w (IBox 0 0)
  obtain ⟨W0, hW0⟩ : ∃ V, Hid (w.alloc (IBox 0 0) = V) := ⟨_, rfl⟩
  rw [hW0.out] at HB0 HR
  obtain ⟨z0, z1, z2⟩ := icells_of (show W0.heap[w.heap.size]? = some (.cells #[.float .f64 0, .float .f64 0] 28) from HR)
  unfold IBox at hW0
  have hW0' := hW0.out
  have hst := fstore
  clear HR
  go_enter Tryd.func21, Tryd.ntmps21
  go_wp2_with fail
  refine (Inf_neg _).mono ?_
  rintro r w1 ⟨rfl, rfl⟩
  go_wp2_with fail
  refine (Inf_pos _).mono ?_
  rintro r w1 ⟨rfl, rfl⟩
  go_wp2
  exact bodyPost_ret (v := IV 18442240474082181120 9218868437227405312) (by simp [results, Tryd.results21, go_sem, z0, z1, IV]) rfl ⟨rfl, Below.setCell (Below.setCell HB0.out (Nat.le_refl _) _) (Nat.le_refl _) _⟩
set_option maxHeartbeats 1000000 in
theorem Is_any (lo hi : Nat) (w : World) : Calls Tryd.prog 10 #[IV lo hi] w fun r w' => r = .returned (.bool (fullB lo hi || noneB lo hi)) ∧ Below w.heap.size w w' := by
  have HB0 : Hid (Below w.heap.size w (w.alloc (IBox lo hi))) := (Below.refl _ _).alloc (Nat.le_refl _) _
  have g1 := inew w (IBox lo hi)
  obtain ⟨W0, hW0⟩ : ∃ V, Hid (w.alloc (IBox lo hi) = V) := ⟨_, rfl⟩
  rw [hW0.out] at HB0 g1
  obtain ⟨d0, d1, d2⟩ := icells_of (show W0.heap[w.heap.size]? = some (.cells #[.float .f64 lo, .float .f64 hi] 28) from g1)
  have HE := hid (areEnds_any lo hi)
  have HN := hid (none_any lo hi)
  obtain ⟨A, hA⟩ : ∃ z, Hid (fullB lo hi = z) := ⟨_, rfl⟩
  obtain ⟨B, hB⟩ : ∃ z, Hid (noneB lo hi = z) := ⟨_, rfl⟩
  rw [hA.out] at HE ⊢
  rw [hB.out] at HN ⊢
  unfold IBox at hW0
  have hW0' := hW0.out
  unfold IV at HN ⊢
  clear g1
  cases A
  · go_enter Tryd.func10, Tryd.ntmps10
    go_wp2_with fail
    refine (HE.out _).mono ?_
    rintro r w1 ⟨rfl, rfl⟩
    go_wp2_with fail
    refine (HN.out _).mono ?_
    rintro r w2 ⟨rfl, hb2⟩
    have HB2 := hid (HB0.out.trans (hb2.mono HB0.out.size))
    clear hb2
    go_wp2
    go_ret
    exact ⟨rfl, HB2.out⟩
  · go_enter Tryd.func10, Tryd.ntmps10
    go_wp2_with fail
    refine (HE.out _).mono ?_
    rintro r w1 ⟨rfl, rfl⟩
    go_wp2
    go_ret
    exact ⟨rfl, HB0.out⟩
/-- New's answer. -/
def newV (lo hi : Nat) : Value := if fullB lo hi = true then .tuple #[IV (plusOf lo) (plusOf hi), .int .i64 0] else .tuple #[IV 0 0, .int .i64 60]
set_option maxHeartbeats 1000000 in
theorem New_any (lo hi : Nat) (w : World) : Calls Tryd.prog 15 #[.float .f64 lo, .float .f64 hi] w fun r w' => r = .returned (newV lo hi) ∧ Below w.heap.size w w' := by
  have HB0 : Hid (Below w.heap.size w (w.alloc (IBox 0 0))) := (Below.refl _ _).alloc (Nat.le_refl _) _
  have HR := inew w (IBox 0 0)
  have HRB := hid (fun (W : World) (h : Below (w.alloc (IBox 0 0)).heap.size (w.alloc (IBox 0 0)) W) => ikeep h)
  obtain ⟨W0, hW0⟩ : ∃ V, Hid (w.alloc (IBox 0 0) = V) := ⟨_, rfl⟩
  rw [hW0.out] at HB0 HR HRB
  have HE := hid (areEnds_any lo hi W0)
  unfold IBox at hW0
  have hW0' := hW0.out
  have hst := fstore
  by_cases c : fullB lo hi = true
  · have e0 : newV lo hi = .tuple #[IV (plusOf lo) (plusOf hi), .int .i64 0] := if_pos c
    have HBT := hid (between_any lo hi)
    have e1 : btLo lo hi = plusOf lo := if_pos c
    have e2 : btHi lo hi = plusOf hi := if_pos c
    rw [e1, e2] at HBT
    rw [e0]
    rw [c] at HE
    obtain ⟨p, hp⟩ : ∃ p, Hid (plusOf lo = p) := ⟨_, rfl⟩
    obtain ⟨q, hq⟩ : ∃ p, Hid (plusOf hi = p) := ⟨_, rfl⟩
    rw [hp.out, hq.out] at HBT ⊢
    clear HR c e1 e2 e0
    unfold IV at HBT
    go_enter Tryd.func15, Tryd.ntmps15
    go_wp2_with fail
    refine HE.out.mono ?_
    rintro r w1 ⟨rfl, rfl⟩
    go_wp2_with fail
    refine (HBT.out _).mono ?_
    rintro r w2 ⟨rfl, hb2⟩
    have HR := HRB.out _ hb2
    have HB2 := hid (HB0.out.trans (hb2.mono HB0.out.size))
    obtain ⟨z0, z1, z2⟩ := icells_of (show w2.heap[w.heap.size]? = some (.cells #[.float .f64 0, .float .f64 0] 28) from HR)
    clear HR hb2
    go_wp2
    exact bodyPost_ret (v := .tuple #[IV p q, .int .i64 0]) (by simp [results, Tryd.results15, go_sem, z0, z1, IV]) rfl ⟨rfl, Below.setCell (Below.setCell HB2.out (Nat.le_refl _) _) (Nat.le_refl _) _⟩
  · have e0 : newV lo hi = .tuple #[IV 0 0, .int .i64 60] := if_neg c
    rw [e0]
    rw [Bool.eq_false_iff.2 c] at HE
    obtain ⟨z0, z1, z2⟩ := icells_of (show W0.heap[w.heap.size]? = some (.cells #[.float .f64 0, .float .f64 0] 28) from HR)
    clear HR c e0
    go_enter Tryd.func15, Tryd.ntmps15
    go_wp2_with fail
    refine HE.out.mono ?_
    rintro r w1 ⟨rfl, rfl⟩
    go_wp2
    exact bodyPost_ret (v := .tuple #[IV 0 0, .int .i64 60]) (by simp [results, Tryd.results15, go_sem, z0, z1, IV]) rfl ⟨rfl, Below.setCell (Below.setCell HB0.out (Nat.le_refl _) _) (Nat.le_refl _) _⟩
end Go.Proofs.YtdahhpimhmloiaaDoor
