
/- interval's Empty, All, between, taken. -/
import Derived.Test.YtilffgmekeeohaaDoorP1
namespace Go.Proofs.YtilffgmekeeohaaDoor
open Go.RowKit Go.IntWalk

/-- A block of two ends. -/
def IBox (lo hi : Nat) : Obj := .cells #[.float .f64 lo, .float .f64 hi] 28
theorem icells_of {W : World} {b : Nat} {v0 v1 : Value} {T : TypeId} (h : W.heap[b]? = some (.cells #[v0, v1] T)) : W.cell? ⟨b, 0, none⟩ = some v0 ∧ W.cell? ⟨b, 1, none⟩ = some v1 ∧ (∀ o, W.frozen? ⟨b, o, none⟩ = false) :=
  ⟨by simp [World.cell?, h], by simp [World.cell?, h], fun o => by simp [World.frozen?, h]⟩
/-- (The walk has no law for a float's store.) -/
theorem fstore (W : World) (a : Addr) (x : Nat) : (store a (.float .f64 x)).run Tryd.prog W = stored Tryd.prog W a (.float .f64 x) .plain := run_store _ _ _ _ _ rfl
theorem inew (w : World) (o : Obj) : (w.alloc o).heap[w.heap.size]? = some o := Array.getElem?_push_size
theorem ikeep {w W : World} {o : Obj} (h : Below (w.alloc o).heap.size (w.alloc o) W) : W.heap[w.heap.size]? = some o := by
  rw [h.block _ (by simp)]
  exact inew _ _
set_option maxHeartbeats 1000000 in
theorem Empty_any (w : World) : Calls Tryd.prog 36 #[] w fun r w' => r = .returned (IV 9218868437227405312 18442240474082181120) ∧ Below w.heap.size w w' := by
  have HB0 : Hid (Below w.heap.size w (w.alloc (IBox 0 0))) := (Below.refl _ _).alloc (Nat.le_refl _) _
  have HR := inew w (IBox 0 0)
  obtain ⟨W0, hW0⟩ : ∃ V, Hid (w.alloc (IBox 0 0) = V) := ⟨_, rfl⟩
  rw [hW0.out] at HB0 HR
  obtain ⟨z0, z1, z2⟩ := icells_of (show W0.heap[w.heap.size]? = some (.cells #[.float .f64 0, .float .f64 0] 28) from HR)
  unfold IBox at hW0
  have hW0' := hW0.out
  have hst := fstore
  clear HR
  go_enter Tryd.func36, Tryd.ntmps36
  go_wp2_with fail
  refine (Inf_pos _).mono ?_
  rintro r w1 ⟨rfl, rfl⟩
  go_wp2_with fail
  refine (Inf_neg _).mono ?_
  rintro r w1 ⟨rfl, rfl⟩
  go_wp2
  exact bodyPost_ret (v := IV 9218868437227405312 18442240474082181120) (by simp [results, Tryd.results36, go_sem, z0, z1, IV]) rfl ⟨rfl, Below.setCell (Below.setCell HB0.out (Nat.le_refl _) _) (Nat.le_refl _) _⟩
/-- The ends of what is between two ends. -/
def btLo (lo hi : Nat) : Nat := if fullB lo hi = true then plusOf lo else 9218868437227405312
def btHi (lo hi : Nat) : Nat := if fullB lo hi = true then plusOf hi else 18442240474082181120
set_option maxHeartbeats 1000000 in
theorem between_any (lo hi : Nat) (w : World) : Calls Tryd.prog 38 #[.float .f64 lo, .float .f64 hi] w fun r w' => r = .returned (IV (btLo lo hi) (btHi lo hi)) ∧ Below w.heap.size w w' := by
  have HB0 : Hid (Below w.heap.size w (w.alloc (IBox 0 0))) := (Below.refl _ _).alloc (Nat.le_refl _) _
  have HR := inew w (IBox 0 0)
  have HRB := hid (fun (W : World) (h : Below (w.alloc (IBox 0 0)).heap.size (w.alloc (IBox 0 0)) W) => ikeep h)
  obtain ⟨W0, hW0⟩ : ∃ V, Hid (w.alloc (IBox 0 0) = V) := ⟨_, rfl⟩
  rw [hW0.out] at HB0 HR HRB
  have HE := hid (areEnds_any lo hi W0)
  unfold IBox at hW0
  have hW0' := hW0.out
  have hst := fstore
  by_cases c : fullB lo hi = true
  · have e1 : btLo lo hi = plusOf lo := if_pos c
    have e2 : btHi lo hi = plusOf hi := if_pos c
    rw [e1, e2]
    rw [c] at HE
    have HP1 := hid (iplus_any lo)
    have HP2 := hid (iplus_any hi)
    obtain ⟨p, hp⟩ : ∃ p, Hid (plusOf lo = p) := ⟨_, rfl⟩
    obtain ⟨q, hq⟩ : ∃ p, Hid (plusOf hi = p) := ⟨_, rfl⟩
    rw [hp.out] at HP1 ⊢
    rw [hq.out] at HP2 ⊢
    obtain ⟨z0, z1, z2⟩ := icells_of (show W0.heap[w.heap.size]? = some (.cells #[.float .f64 0, .float .f64 0] 28) from HR)
    clear HR c e1 e2
    go_enter Tryd.func38, Tryd.ntmps38
    go_wp2_with fail
    refine HE.out.mono ?_
    rintro r w1 ⟨rfl, rfl⟩
    go_wp2_with fail
    refine (HP1.out _).mono ?_
    rintro r w1 ⟨rfl, rfl⟩
    go_wp2_with fail
    refine (HP2.out _).mono ?_
    rintro r w1 ⟨rfl, rfl⟩
    go_wp2
    exact bodyPost_ret (v := IV p q) (by simp [results, Tryd.results38, go_sem, z0, z1, IV]) rfl ⟨rfl, Below.setCell (Below.setCell HB0.out (Nat.le_refl _) _) (Nat.le_refl _) _⟩
  · have e1 : btLo lo hi = 9218868437227405312 := if_neg c
    have e2 : btHi lo hi = 18442240474082181120 := if_neg c
    rw [e1, e2]
    rw [Bool.eq_false_iff.2 c] at HE
    clear HR c e1 e2
    go_enter Tryd.func38, Tryd.ntmps38
    go_wp2_with fail
    refine HE.out.mono ?_
    rintro r w1 ⟨rfl, rfl⟩
    go_wp2_with fail
    refine (Empty_any _).mono ?_
    rintro r w2 ⟨rfl, hb2⟩
    have HR := HRB.out _ hb2
    have HB2 := hid (HB0.out.trans (hb2.mono HB0.out.size))
    obtain ⟨z0, z1, z2⟩ := icells_of (show w2.heap[w.heap.size]? = some (.cells #[.float .f64 0, .float .f64 0] 28) from HR)
    clear HR hb2
    unfold IV
    go_wp2
    exact bodyPost_ret (v := IV 9218868437227405312 18442240474082181120) (by simp [results, Tryd.results38, go_sem, z0, z1, IV]) rfl ⟨rfl, Below.setCell (Below.setCell HB2.out (Nat.le_refl _) _) (Nat.le_refl _) _⟩
end Go.Proofs.YtilffgmekeeohaaDoor

namespace Go.Proofs.YtilffgmekeeohaaDoor
open Go.RowKit Go.IntWalk

theorem iblk2 (w : World) (A B : Obj) : ((w.alloc A).alloc B).heap[w.heap.size]? = some A ∧ ((w.alloc A).alloc B).heap[w.heap.size + 1]? = some B := by
  constructor
  · rw [((Below.refl (w.alloc A).heap.size (w.alloc A)).alloc (Nat.le_refl _) B).block _ (by simp)]
    exact inew _ _
  · have := inew (w.alloc A) B
    simpa using this
set_option maxHeartbeats 1000000 in
theorem taken_any (lo hi : Nat) (w : World) : Calls Tryd.prog 22 #[IV lo hi] w fun r w' => r = .returned (IV (btLo lo hi) (btHi lo hi)) ∧ Below w.heap.size w w' := by
  obtain ⟨g1, g2⟩ := iblk2 w (IBox lo hi) (IBox 0 0)
  have HB0 : Hid (Below w.heap.size w ((w.alloc (IBox lo hi)).alloc (IBox 0 0))) := ((Below.refl _ _).alloc (Nat.le_refl _) _).alloc (by simp) _
  have HS0 : Hid (((w.alloc (IBox lo hi)).alloc (IBox 0 0)).heap.size = w.heap.size + 2) := by
    show _ = _
    simp
  obtain ⟨W0, hW0⟩ : ∃ V, Hid ((w.alloc (IBox lo hi)).alloc (IBox 0 0) = V) := ⟨_, rfl⟩
  rw [hW0.out] at HB0 g1 g2 HS0
  have HG2 := hid g2
  have HE := hid (between_any lo hi W0)
  obtain ⟨p, hp⟩ : ∃ p, Hid (btLo lo hi = p) := ⟨_, rfl⟩
  obtain ⟨q, hq⟩ : ∃ p, Hid (btHi lo hi = p) := ⟨_, rfl⟩
  rw [hp.out, hq.out] at HE ⊢
  obtain ⟨d0, d1, d2⟩ := icells_of (show W0.heap[w.heap.size]? = some (.cells #[.float .f64 lo, .float .f64 hi] 28) from g1)
  unfold IBox at hW0
  have hW0' := hW0.out
  have hst := fstore
  clear g1 g2
  unfold IV
  go_enter Tryd.func22, Tryd.ntmps22
  go_wp2_with fail
  refine HE.out.mono ?_
  rintro r w2 ⟨rfl, hb2⟩
  have hr : w2.heap[w.heap.size + 1]? = some (IBox 0 0) := by
    rw [hb2.block _ (by have := HS0.out; omega)]; exact HG2.out
  have HB2 := hid (HB0.out.trans (hb2.mono HB0.out.size))
  obtain ⟨z0, z1, z2⟩ := icells_of (show w2.heap[w.heap.size + 1]? = some (.cells #[.float .f64 0, .float .f64 0] 28) from hr)
  clear hr hb2
  unfold IV
  go_wp2
  exact bodyPost_ret (v := IV p q) (by simp [results, Tryd.results22, go_sem, z0, z1, IV]) rfl ⟨rfl, Below.setCell (Below.setCell HB2.out (Nat.le_succ _) _) (Nat.le_succ _) _⟩
/-- Whether ends are those of the empty one. -/
def noneB (lo hi : Nat) : Bool := FloatKind.f64.format.order lo 9218868437227405312 == some .eq && FloatKind.f64.format.order hi 18442240474082181120 == some .eq
theorem fequalIn (d : Nat) (a b : Nat) (w : World) : (Op.equalIn (d + 1) 26 (.float .f64 a) (.float .f64 b)).run Tryd.prog w = .ok (FloatKind.f64.format.order a b == some .eq) w := by
  have h : Tryd.prog.underlying 26 = some (.float .f64) := by kernel_rfl
  simp [Op.equalIn, run_underlying h]
  rfl
theorem ieql (a b c d : Nat) (w : World) : (binOp .eql 28 (.agg #[.float .f64 a, .float .f64 b]) (.agg #[.float .f64 c, .float .f64 d])).run Tryd.prog w = .ok (.bool (FloatKind.f64.format.order a c == some .eq && FloatKind.f64.format.order b d == some .eq)) w := by
  have hf := fequalIn
  rw [run_eql_struct, run_equalIn_struct w 9999 _ _ _ (by kernel_rfl) (by kernel_rfl)]
  simp [Op.eqFields, go_sem, hf]
  by_cases h1 : FloatKind.f64.format.order a c = some .eq <;> by_cases h2 : FloatKind.f64.format.order b d = some .eq <;> simp [h1, h2]
set_option maxHeartbeats 1000000 in
theorem none_any (lo hi : Nat) (w : World) : Calls Tryd.prog 23 #[IV lo hi] w fun r w' => r = .returned (.bool (noneB lo hi)) ∧ Below w.heap.size w w' := by
  have HB0 : Hid (Below w.heap.size w (w.alloc (IBox lo hi))) := (Below.refl _ _).alloc (Nat.le_refl _) _
  have g1 := inew w (IBox lo hi)
  obtain ⟨W0, hW0⟩ : ∃ V, Hid (w.alloc (IBox lo hi) = V) := ⟨_, rfl⟩
  rw [hW0.out] at HB0 g1
  have HK : Hid (∀ W, Hid (Below W0.heap.size W0 W) → (W.cell? ⟨w.heap.size, 0, none⟩ = some (.float .f64 lo) ∧ W.cell? ⟨w.heap.size, 1, none⟩ = some (.float .f64 hi)) ∧ Hid (Below W0.heap.size W0 W)) := fun W hW => by
    have t1 := icells_of ((hW.out.block _ (Array.getElem?_eq_some_iff.1 g1).1).trans g1)
    exact ⟨⟨t1.1, t1.2.1⟩, hW⟩
  have HE : Hid (∀ W, Hid (Below W0.heap.size W0 W) → Calls Tryd.prog 36 #[] W fun r w' => r = .returned (.agg #[.float .f64 9218868437227405312, .float .f64 18442240474082181120]) ∧ Hid (Below W0.heap.size W0 w')) := fun W hW => by
    refine (Empty_any W).mono ?_
    rintro r w' ⟨rfl, hb⟩
    exact ⟨rfl, hW.out.trans (hb.mono hW.out.size)⟩
  obtain ⟨⟨y00, y01⟩, _⟩ := HK.out _ (Below.refl _ _)
  unfold IBox at hW0
  have hW0' := hW0.out
  have hfe := ieql
  unfold IV
  clear g1
  go_enter Tryd.func23, Tryd.ntmps23
  go_wp2_with fail
  have HQ0 : Hid (Below W0.heap.size W0 W0.drew) := (Below.refl _ _).drew
  go_region_held3 (fun W => (W.cell? ⟨w.heap.size, 0, none⟩ = some (.float .f64 lo) ∧ W.cell? ⟨w.heap.size, 1, none⟩ = some (.float .f64 hi)) ∧ Hid (Below W0.heap.size W0 W))
    ((refine HK.out _ ?_; first | with_reducible assumption | with_reducible exact HQ0))
    (first
      | (go_at_call 36; refine (HE.out _ (And.right (by assumption))).mono ?_; rintro r w3 ⟨rfl, HB3⟩)
      | fail)
  go_wp2
  go_ret
  exact ⟨rfl, HB0.out.trans (HB3.out.mono HB0.out.size)⟩
end Go.Proofs.YtilffgmekeeohaaDoor
