
/- The law's own small calls: of, number, same. -/
import Derived.Test.YtdahhpimhmloiaaDoorP13
import Derived.Test.YtdahhpimhmloiaaDoorP16
namespace Go.Proofs.YtdahhpimhmloiaaDoor
open Go.RowKit Go.IntWalk

set_option maxHeartbeats 400000 in
theorem number6_any (x y : Nat) (w : World) (hy : y < 18446744073709551616) : Calls Tryd.prog 44 #[.float .f64 x, .float .f64 y] w fun e w' => e = .returned (.bool (x == canonOf y)) ∧ w' = w := by
  have h1 := f64bits
  go_enter Tryd.func44, Tryd.ntmps44
  go_wp2_with fail
  refine (bits_any y _ hy).mono ?_
  rintro e w' ⟨rfl, rfl⟩
  go_wp2_with fail
  go_ret
  exact ⟨ret_bool (nat_beq _ _), rfl⟩
theorem cn_canon {x : Nat} (h : Cn x) : canonOf x = x := by
  unfold canonOf
  rw [if_neg (by have := h.2.1; omega)]
theorem number6_cn (x y : Nat) (w : World) (hy : Cn y) : Calls Tryd.prog 44 #[.float .f64 x, .float .f64 y] w fun e w' => e = .returned (.bool (decide (x = y))) ∧ w' = w := by
  refine (number6_any x y w hy.1).mono ?_
  rintro e w' ⟨rfl, rfl⟩
  rw [cn_canon hy]
  exact ⟨ret_boolV (by rw [Bool.eq_iff_iff]; simp), rfl⟩
/-- What 'same' tells. -/
def sameB (a b c d : Nat) : Bool := decide (a = c) && decide (b = d)
set_option maxHeartbeats 1000000 in
theorem same6_cn (a b c d : Nat) (w : World) (hc : Cn c) (hd : Cn d) : Calls Tryd.prog 11 #[IV a b, IV c d] w fun r w' => r = .returned (.bool (sameB a b c d)) ∧ Below w.heap.size w w' := by
  obtain ⟨g1, g2⟩ := iblk2 w (IBox a b) (IBox c d)
  have HB0 : Hid (Below w.heap.size w ((w.alloc (IBox a b)).alloc (IBox c d))) := ((Below.refl _ _).alloc (Nat.le_refl _) _).alloc (by simp) _
  obtain ⟨W0, hW0⟩ : ∃ V, Hid ((w.alloc (IBox a b)).alloc (IBox c d) = V) := ⟨_, rfl⟩
  rw [hW0.out] at HB0 g1 g2
  obtain ⟨y0, y1, _⟩ := icells_of (show W0.heap[w.heap.size]? = some (.cells #[.float .f64 a, .float .f64 b] 28) from g1)
  obtain ⟨y2, y3, _⟩ := icells_of (show W0.heap[w.heap.size + 1]? = some (.cells #[.float .f64 c, .float .f64 d] 28) from g2)
  have HN1 := hid (number6_cn a c W0 hc)
  have HN2 := hid (number6_cn b d W0 hd)
  have HE : Hid (sameB a b c d = (decide (a = c) && decide (b = d))) := rfl
  obtain ⟨S, hS⟩ : ∃ z, Hid (sameB a b c d = z) := ⟨_, rfl⟩
  rw [hS.out] at HE ⊢
  obtain ⟨B1, hB1⟩ : ∃ z, Hid (decide (a = c) = z) := ⟨_, rfl⟩
  obtain ⟨B2, hB2⟩ : ∃ z, Hid (decide (b = d) = z) := ⟨_, rfl⟩
  rw [hB1.out, hB2.out] at HE
  rw [hB1.out] at HN1
  rw [hB2.out] at HN2
  unfold IBox at hW0
  have hW0' := hW0.out
  unfold IV
  clear hc hd g1 g2
  cases B1
  · go_enter Tryd.func11, Tryd.ntmps11
    go_wp2_with fail
    refine HN1.out.mono ?_
    rintro r w1 ⟨rfl, rfl⟩
    go_wp2
    go_ret
    exact ⟨ret_boolV HE.out.symm, HB0.out⟩
  · go_enter Tryd.func11, Tryd.ntmps11
    go_wp2_with fail
    refine HN1.out.mono ?_
    rintro r w1 ⟨rfl, rfl⟩
    go_wp2_with fail
    refine HN2.out.mono ?_
    rintro r w1 ⟨rfl, rfl⟩
    go_wp2
    go_ret
    exact ⟨ret_boolV (by rw [HE.out]; rfl), HB0.out⟩
set_option maxHeartbeats 1000000 in
theorem of6_any (a b : Nat) (w : World) : Calls Tryd.prog 7 #[.agg #[.int .u64 a, .int .u64 b]] w fun r w' => r = .returned (IV a b) ∧ Below w.heap.size w w' ∧ w'.heap.size = w.heap.size + 2 := by
  obtain ⟨g1, g2⟩ := iblk2 w (.cells #[.int .u64 a, .int .u64 b] 24) (IBox 0 0)
  have HB0 : Hid (Below w.heap.size w ((w.alloc (.cells #[.int .u64 a, .int .u64 b] 24)).alloc (IBox 0 0))) := ((Below.refl _ _).alloc (Nat.le_refl _) _).alloc (by simp) _
  have HS0 : Hid (((w.alloc (.cells #[.int .u64 a, .int .u64 b] 24)).alloc (IBox 0 0)).heap.size = w.heap.size + 2) := by
    show _ = _
    simp
  obtain ⟨W0, hW0⟩ : ∃ V, Hid ((w.alloc (.cells #[.int .u64 a, .int .u64 b] 24)).alloc (IBox 0 0) = V) := ⟨_, rfl⟩
  rw [hW0.out] at HB0 g1 g2 HS0
  obtain ⟨d0, d1, d2⟩ := icells_of g1
  obtain ⟨z0, z1, z2⟩ := icells_of (show W0.heap[w.heap.size + 1]? = some (.cells #[.float .f64 0, .float .f64 0] 28) from g2)
  unfold IBox at hW0
  have hW0' := hW0.out
  have hst := fstore
  clear g1 g2
  go_enter Tryd.func7, Tryd.ntmps7
  go_wp2_with fail
  go_region_with (first
    | (go_at_call 18; refine (f_any _ _).mono ?_; rintro r w1 ⟨rfl, rfl⟩))
  all_goals go_wp2
  all_goals exact bodyPost_ret (v := IV a b) (by simp [results, Tryd.results7, go_sem, z0, z1, IV]) rfl ⟨rfl, Below.setCell (Below.setCell HB0.out.drew (Nat.le_succ _) _) (Nat.le_succ _) _, by simpa [World.setCell] using HS0.out⟩
end Go.Proofs.YtdahhpimhmloiaaDoor
