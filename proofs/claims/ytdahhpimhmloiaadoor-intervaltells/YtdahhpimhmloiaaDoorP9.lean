
/- interval's Hull. (Written by mkiv.py.) -/
import Derived.Test.YtdahhpimhmloiaaDoorP8
namespace Go.Proofs.YtdahhpimhmloiaaDoor
open Go.RowKit Go.IntWalk

theorem iblk3 (w : World) (A B C : Obj) : (((w.alloc A).alloc B).alloc C).heap[w.heap.size]? = some A ∧ (((w.alloc A).alloc B).alloc C).heap[w.heap.size + 1]? = some B ∧ (((w.alloc A).alloc B).alloc C).heap[w.heap.size + 1 + 1]? = some C := by
  obtain ⟨h1, h2⟩ := iblk2 w A B
  have hb := (Below.refl ((w.alloc A).alloc B).heap.size ((w.alloc A).alloc B)).alloc (Nat.le_refl _) C
  refine ⟨(hb.block _ (by simp; omega)).trans h1, (hb.block _ (by simp)).trans h2, ?_⟩
  have := inew ((w.alloc A).alloc B) C
  simpa using this
/-- The cells of three blocks of ends. -/
def Cells3 (W : World) (n a b c d : Nat) : Prop := (W.cell? ⟨n, 0, none⟩ = some (.float .f64 a) ∧ W.cell? ⟨n, 1, none⟩ = some (.float .f64 b)) ∧ (W.cell? ⟨n + 1, 0, none⟩ = some (.float .f64 c) ∧ W.cell? ⟨n + 1, 1, none⟩ = some (.float .f64 d)) ∧ (W.cell? ⟨n + 1 + 1, 0, none⟩ = some (.float .f64 0) ∧ W.cell? ⟨n + 1 + 1, 1, none⟩ = some (.float .f64 0)) ∧ (∀ o, W.frozen? ⟨n, o, none⟩ = false) ∧ (∀ o, W.frozen? ⟨n + 1, o, none⟩ = false) ∧ (∀ o, W.frozen? ⟨n + 1 + 1, o, none⟩ = false)
/-- A world behind four stores into the first two blocks. -/
def Set4 (W : World) (n : Nat) (p q r s : Value) : World := (((W.setCell ⟨n, 0, none⟩ p).setCell ⟨n, 1, none⟩ q).setCell ⟨n + 1, 0, none⟩ r).setCell ⟨n + 1, 1, none⟩ s
theorem set4 {w W0 W : World} (h0 : Below w.heap.size w W0) (hr : W0.heap[w.heap.size + 1 + 1]? = some (IBox 0 0)) (h : Below W0.heap.size W0 W) (p q r s : Value) : Below w.heap.size w (Set4 W w.heap.size p q r s) ∧ (Set4 W w.heap.size p q r s).heap[w.heap.size + 1 + 1]? = some (IBox 0 0) := by
  have hb : Below w.heap.size w W := h0.trans (h.mono h0.size)
  refine ⟨Below.setCell (Below.setCell (Below.setCell (Below.setCell hb (Nat.le_refl _) _) (Nat.le_refl _) _) (Nat.le_succ _) _) (Nat.le_succ _) _, ?_⟩
  unfold Set4
  rw [Below.heap_setCell _ _ _ _ (by show _ ≠ w.heap.size + 1; omega), Below.heap_setCell _ _ _ _ (by show _ ≠ w.heap.size + 1; omega), Below.heap_setCell _ _ _ _ (by show _ ≠ w.heap.size; omega), Below.heap_setCell _ _ _ _ (by show _ ≠ w.heap.size; omega)]
  exact (h.block _ (Array.getElem?_eq_some_iff.1 hr).1).trans hr
set_option maxHeartbeats 2000000 in
theorem Hull_any (a b c d : Nat) (w : World) (ha : a < 18446744073709551616) (hb : b < 18446744073709551616) (hc : c < 18446744073709551616) (hd : d < 18446744073709551616) : Calls Tryd.prog 9 #[IV a b, IV c d] w fun r w' => r = .returned (IV (btLo (mn (btLo a b) (btLo c d)) (mx (btHi a b) (btHi c d))) (btHi (mn (btLo a b) (btLo c d)) (mx (btHi a b) (btHi c d)))) ∧ Below w.heap.size w w' := by
  obtain ⟨g1, g2, g3⟩ := iblk3 w (IBox a b) (IBox c d) (IBox 0 0)
  have HB0 : Hid (Below w.heap.size w (((w.alloc (IBox a b)).alloc (IBox c d)).alloc (IBox 0 0))) := (((Below.refl _ _).alloc (Nat.le_refl _) _).alloc (by simp) _).alloc (by simp; omega) _
  obtain ⟨W0, hW0⟩ : ∃ V, Hid (((w.alloc (IBox a b)).alloc (IBox c d)).alloc (IBox 0 0) = V) := ⟨_, rfl⟩
  rw [hW0.out] at HB0 g1 g2 g3
  have HC : Hid (∀ W, Hid (Below W0.heap.size W0 W) → Cells3 W w.heap.size a b c d) := fun W hW => by
    have t1 := icells_of ((hW.out.block _ (Array.getElem?_eq_some_iff.1 g1).1).trans g1)
    have t2 := icells_of ((hW.out.block _ (Array.getElem?_eq_some_iff.1 g2).1).trans g2)
    have t3 := icells_of ((hW.out.block _ (Array.getElem?_eq_some_iff.1 g3).1).trans g3)
    exact ⟨⟨t1.1, t1.2.1⟩, ⟨t2.1, t2.2.1⟩, ⟨t3.1, t3.2.1⟩, t1.2.2, t2.2.2, t3.2.2⟩
  obtain ⟨n1, n2⟩ := cn_bt ha hb
  obtain ⟨n3, n4⟩ := cn_bt hc hd
  have HMN := hid (run_mn n1 n3)
  have HMX := hid (run_mx n2 n4)
  have HT : Hid (∀ x y W, Hid (Below W0.heap.size W0 W) → Calls Tryd.prog 40 #[IV x y] W fun r w' => r = .returned (IV (btLo x y) (btHi x y)) ∧ Cells3 w' w.heap.size a b c d ∧ Hid (Below W0.heap.size W0 w')) := fun x y W hW => by
    refine (taken_any x y W).mono ?_
    rintro r w' ⟨rfl, h⟩
    have h' : Below W0.heap.size W0 w' := hW.out.trans (h.mono hW.out.size)
    exact ⟨rfl, HC.out _ h', h'⟩
  have HQ0 : Hid (Below W0.heap.size W0 W0.drew) := (Below.refl _ _).drew
  obtain ⟨⟨y0, y1⟩, ⟨y2, y3⟩, _⟩ := HC.out W0 (Below.refl _ _)
  have HBT := hid (between_any (mn (btLo a b) (btLo c d)) (mx (btHi a b) (btHi c d)))
  obtain ⟨L, hL⟩ : ∃ z, Hid (mn (btLo a b) (btLo c d) = z) := ⟨_, rfl⟩
  obtain ⟨H, hH⟩ : ∃ z, Hid (mx (btHi a b) (btHi c d) = z) := ⟨_, rfl⟩
  rw [hL.out] at HMN HBT ⊢
  rw [hH.out] at HMX HBT ⊢
  obtain ⟨P, hP⟩ : ∃ z, Hid (btLo L H = z) := ⟨_, rfl⟩
  obtain ⟨Q, hQ⟩ : ∃ z, Hid (btHi L H = z) := ⟨_, rfl⟩
  rw [hP.out, hQ.out] at HBT ⊢
  have HBW : Hid (∀ W p q r s, Hid (Below W0.heap.size W0 W) → Calls Tryd.prog 41 #[.float .f64 L, .float .f64 H] (Set4 W w.heap.size p q r s) fun z w' => z = .returned (IV P Q) ∧ w'.cell? ⟨w.heap.size + 1 + 1, 0, none⟩ = some (.float .f64 0) ∧ w'.cell? ⟨w.heap.size + 1 + 1, 1, none⟩ = some (.float .f64 0) ∧ (∀ o, w'.frozen? ⟨w.heap.size + 1 + 1, o, none⟩ = false) ∧ Hid (Below w.heap.size w w')) := fun W p q r s hW => by
    obtain ⟨k1, k2⟩ := set4 HB0.out g3 hW.out p q r s
    refine (HBT.out _).mono ?_
    rintro z w' ⟨rfl, hb⟩
    have k3 := (hb.block _ (Array.getElem?_eq_some_iff.1 k2).1).trans k2
    obtain ⟨t1, t2, t3⟩ := icells_of k3
    exact ⟨rfl, t1, t2, t3, k1.trans (hb.mono k1.size)⟩
  have hmn := HMN.out
  have hmx := HMX.out
  have hst := fstore
  unfold IBox at hW0
  have hW0' := hW0.out
  unfold IV Set4 at HBW
  unfold IV at HT ⊢
  clear ha hb hc hd n1 n2 n3 n4 g1 g2 g3
  go_enter Tryd.func9, Tryd.ntmps9
  go_wp2_with fail
  go_region_with (first
    | (go_at_call 40; refine (HT.out _ _ _ (by assumption)).mono ?_; rintro r w1 ⟨rfl, ⟨⟨x0, x1⟩, ⟨x2, x3⟩, ⟨x4, x5⟩, f0, f1, f2⟩, HF⟩))
  all_goals go_wp2_with fail
  all_goals refine (HBW.out _ _ _ _ _ (by assumption)).mono ?_
  all_goals rintro z w4 ⟨rfl, z0, z1, z2, HB4⟩
  all_goals go_wp2
  all_goals exact bodyPost_ret (v := IV P Q) (by simp [results, Tryd.results9, go_sem, z0, z1, IV]) rfl ⟨rfl, Below.setCell (Below.setCell HB4.out (Nat.le_trans (Nat.le_succ _) (Nat.le_succ _)) _) (Nat.le_trans (Nat.le_succ _) (Nat.le_succ _)) _⟩
end Go.Proofs.YtdahhpimhmloiaaDoor
