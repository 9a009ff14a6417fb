
/- DyadRing: sums and products of any three numbers' dyads. (Written by mkring.py.) -/
import Derived.Test.YtnhggfmpajnapaaDoorDyQS
import Derived.Test.YtnhggfmpajnapaaDoorRnd
namespace Go.Proofs.YtnhggfmpajnapaaDoor
open Go.RowKit Go.IntWalk

/-- A variable that holds a dyad. -/
def DyVar (W : World) (b : Nat) (neg : Bool) (a : Option Addr) (n cap : Nat) (e' z e : Int) : Prop := W.heap[b]? = some (DyBox neg a n cap e') ∧ DyAt W neg a n cap e' z e
theorem DyVar.below {W W' : World} {b : Nat} {neg : Bool} {a : Option Addr} {n cap : Nat} {e' z e : Int} (h : DyVar W b neg a n cap e' z e) (hb : Below W.heap.size W W') : DyVar W' b neg a n cap e' z e :=
  ⟨by rw [hb.block b (Array.getElem?_eq_some_iff.1 h.1).1]; exact h.1, h.2.below hb⟩
theorem DyVar.new {Z e e' : Int} {B : Nat} {neg : Bool} {a : Option Addr} {n cap : Nat} {w : World} (h : DyRet Z e B neg a n cap e' w) : DyVar (w.alloc (DyBox neg a n cap e')) w.heap.size neg a n cap e' Z e :=
  ⟨new_blk _ _ _ rfl, h.at.below ((Below.refl _ _).alloc (Nat.le_refl _) _)⟩
theorem DyVar.cells {W : World} {b : Nat} {neg : Bool} {a : Option Addr} {n cap : Nat} {e' z e : Int} (h : DyVar W b neg a n cap e' z e) : W.cell? ⟨b, 0, none⟩ = some (.bool neg) ∧ W.cell? ⟨b, 1, none⟩ = some (.slice a n cap) ∧ W.cell? ⟨b, 2, none⟩ = some (.int .i64 e') := dcells_of h.1
theorem abs_add {a b : Int} {n : Nat} (ha : a.natAbs < 2 ^ n) (hb : b.natAbs < 2 ^ n) : (a + b).natAbs < 2 ^ (n + 1) := by
  have := Int.natAbs_add_le a b
  rw [Nat.pow_succ]
  omega
theorem abs_mul {a b : Int} {n m : Nat} (ha : a.natAbs < 2 ^ n) (hb : b.natAbs < 2 ^ m) : (a * b).natAbs < 2 ^ (n + m) := by
  rw [Int.natAbs_mul, Nat.pow_add]
  have h1 : a.natAbs * b.natAbs ≤ a.natAbs * 2 ^ m := Nat.mul_le_mul_left _ (Nat.le_of_lt hb)
  have h2 : a.natAbs * 2 ^ m < 2 ^ n * 2 ^ m := Nat.mul_lt_mul_of_pos_right ha (Nat.two_pow_pos m)
  omega
theorem abs_more {a : Int} {n m : Nat} (ha : a.natAbs < 2 ^ n) (h : n ≤ m) : a.natAbs < 2 ^ m := Nat.lt_of_lt_of_le ha (Nat.pow_le_pow_right (by decide) h)
def kN : Nat := 2098
theorem kN_is : kN = 2098 := rfl
/-- A finite number in steps of 2^-1074. -/
theorem sv_parts (x : Nat) (hf : x % 9223372036854775808 < 9218868437227405312) : ∃ k : Nat, sgnN (pNeg x) (pMant x) * 2 ^ k = sv x ∧ pExp x - k = -1074 ∧ (sv x).natAbs < 2 ^ kN ∧ pErr x = 0 ∧ -1074 ≤ pExp x ∧ pExp x ≤ 2000 ∧ pMant x < 18446744073709551616 := by
  obtain ⟨v1, v2, v3, v4, v5⟩ := parts_val x hf
  have hN : pNeg x = decide (9223372036854775808 ≤ x) := by unfold pNeg; rw [if_neg v1, v2]
  have hE : pErr x = 0 := by unfold pErr; rw [if_neg v1]
  have hsv : sv x = sgnN (pNeg x) (nv (x % 9223372036854775808)) := by
    unfold sv sgnN
    rw [hN]
    by_cases c : 9223372036854775808 ≤ x
    · rw [if_pos c, decide_eq_true c, if_pos rfl]
    · rw [if_neg c, decide_eq_false c, if_neg (by decide)]
  have habs : (sv x).natAbs = nv (x % 9223372036854775808) := by
    rw [hsv]
    unfold sgnN
    split <;> simp
  by_cases h0 : mantOf x = 0
  · have hx0 := v4.1 h0
    have hm : pMant x = 0 := by
      unfold pMant
      rw [if_neg v1, h0]
      exact Nat.zero_div _
    have hp : pExp x = 0 := by unfold pExp; rw [if_pos (Or.inr h0)]
    have hz : sv x = 0 := by
      rw [hsv, hx0, nv_zero]
      unfold sgnN
      split <;> rfl
    refine ⟨1074, ?_, by rw [hp]; rfl, ?_, hE, by rw [hp]; decide, by rw [hp]; decide, by rw [hm]; decide⟩
    · rw [hm, hz]
      have : sgnN (pNeg x) 0 = 0 := by unfold sgnN; split <;> rfl
      rw [this, Int.zero_mul]
    · rw [hz, Int.natAbs_zero]; exact Nat.two_pow_pos kN
  · obtain ⟨p1, p2, p3, p4, p5, p6⟩ := v5 h0
    have hbp := bitLen_pos p1
    refine ⟨(pExp x + 1074).toNat, ?_, by omega, ?_, hE, p2, by omega, p6⟩
    · rw [hsv, p3]
      obtain ⟨k, hk⟩ : ∃ k, (pExp x + 1074).toNat = k := ⟨_, rfl⟩
      rw [hk]
      unfold sgnN
      split
      · rw [Int.natCast_mul, Int.natCast_pow, Int.neg_mul]; rfl
      · rw [Int.natCast_mul, Int.natCast_pow]; rfl
    · rw [habs, p3]
      have h1 : pMant x < 2 ^ bitLen (pMant x) := bitLen_hi _
      have h2 : pMant x * 2 ^ (pExp x + 1074).toNat < 2 ^ bitLen (pMant x) * 2 ^ (pExp x + 1074).toNat := Nat.mul_lt_mul_of_pos_right h1 (Nat.two_pow_pos _)
      rw [← Nat.pow_add] at h2
      have hk := kN_is
      exact Nat.lt_of_lt_of_le h2 (Nat.pow_le_pow_right (by decide) (by omega))
/-- dyad's Of of a finite number. -/
theorem Of_fin (x : Nat) (w : World) (hx : x < 18446744073709551616) (hf : x % 9223372036854775808 < 9218868437227405312) (hT : Tab w) (hg : 2 < w.heap.size) (hT3 : Tab32 w) (hs : 1 < w.heap.size) :
    Calls Tryd.prog 9 #[.float .f64 x] w fun r w' => DyOut (sv x) (-1074) w.heap.size r w' ∧ Below w.heap.size w w' := by
  obtain ⟨k, k1, k2, k3, k4, k5, k6, k7⟩ := sv_parts x hf
  refine (Of_parts x (pMant x) (pNeg x) (pExp x) w k7 (by omega) (by omega) hT3 hs (fun W hW => ?_)).mono ?_
  · have := Parts_any x W hx (hT.below hg hW) (Nat.lt_of_lt_of_le hg hW.size)
    rw [k4] at this
    exact this
  · rintro r w' ⟨ho, hb⟩
    have := ho.low k
    rw [k1, k2] at this
    exact ⟨this, hb⟩
set_option maxHeartbeats 400000 in
/-- Of what is not finite. -/
theorem Of_not (x : Nat) (w : World) (hx : x < 18446744073709551616) (he : pErr x = 4) (hT : Tab w) (hg : 2 < w.heap.size) :
    Calls Tryd.prog 9 #[.float .f64 x] w fun r w' => r = .returned (.tuple #[.agg #[.bool false, .slice none 0 0, .int .i64 0], .int .i64 4]) ∧ Below w.heap.size w w' := by
  have HP : Hid (∀ W, Below w.heap.size w W → Calls Tryd.prog 39 #[.float .f64 x] W fun r w' => r = .returned (.tuple #[.agg #[.bool (pNeg x), .int .u64 (pMant x), .int .i64 (pExp x)], .int .i64 4]) ∧ Below W.heap.size W w') := fun W hW => by
    have := Parts_any x W hx (hT.below hg hW) (Nat.lt_of_lt_of_le hg hW.size)
    rw [he] at this
    exact this
  obtain ⟨n, hn⟩ : ∃ n, Hid (pNeg x = n) := ⟨_, rfl⟩
  obtain ⟨m, hm⟩ : ∃ m, Hid (pMant x = m) := ⟨_, rfl⟩
  obtain ⟨E, hE⟩ : ∃ E, Hid (pExp x = E) := ⟨_, rfl⟩
  rw [hn.out, hm.out, hE.out] at HP
  clear hx he hT hg
  go_enter Tryd.func9, Tryd.ntmps9
  go_wp2_with fail
  refine (HP.out _ ((Below.refl _ _).alloc (Nat.le_refl _) _)).mono ?_
  rintro r w1 ⟨rfl, hb1⟩
  have hsz : w.heap.size < w1.heap.size := by have := hb1.size; simp at this; omega
  obtain ⟨hc, hf⟩ := bcell hb1
  have HB1 : Hid (Below w.heap.size w w1) := ((Below.refl _ _).alloc (Nat.le_refl _) _).trans (hb1.mono (by simp))
  clear hb1
  go_wp2
  exact bodyPost_ret (v := .tuple #[.agg #[.bool false, .slice none 0 0, .int .i64 0], .int .i64 4]) (by simp [results, Tryd.results9, go_sem, hc, hsz]) rfl ⟨rfl, Below.alloc (Below.setCell (Below.setCell (Below.setCell HB1.out (Nat.le_refl _) _) (Nat.le_refl _) _) (Nat.le_refl _) _) (by simp [World.setCell]; omega) _⟩

set_option maxRecDepth 8000 in
set_option maxHeartbeats 16000000 in
theorem ring_good (x y z : Nat) (w : World) (hx : x < 18446744073709551616) (hy : y < 18446744073709551616) (hz : z < 18446744073709551616) (fx : x % 9223372036854775808 < 9218868437227405312) (fy : y % 9223372036854775808 < 9218868437227405312) (fz : z % 9223372036854775808 < 9218868437227405312) (hT : Tab w) (hg : 2 < w.heap.size) (hT3 : Tab32 w) (hs : 1 < w.heap.size) :
    Calls Tryd.prog 3 #[.int .u64 x, .int .u64 y, .int .u64 z] w fun r w' => r = .returned (.bool true) ∧ Below w.heap.size w w' := by
  have h64 := f64from
  have HT : Hid (∀ W, Below w.heap.size w W → Tab W ∧ 2 < W.heap.size ∧ Tab32 W ∧ 1 < W.heap.size) := fun W hW => ⟨hT.below hg hW, Nat.lt_of_lt_of_le hg hW.size, hT3.below hs hW, Nat.lt_of_lt_of_le hs hW.size⟩
  have HO1 : Hid (∀ W, Below w.heap.size w W → Calls Tryd.prog 9 #[.float .f64 x] W fun r w' => DyOut (sv x) (-1074) W.heap.size r w' ∧ Below W.heap.size W w') := fun W hW => Of_fin x W hx fx (HT.out W hW).1 (HT.out W hW).2.1 (HT.out W hW).2.2.1 (HT.out W hW).2.2.2
  have HO2 : Hid (∀ W, Below w.heap.size w W → Calls Tryd.prog 9 #[.float .f64 y] W fun r w' => DyOut (sv y) (-1074) W.heap.size r w' ∧ Below W.heap.size W w') := fun W hW => Of_fin y W hy fy (HT.out W hW).1 (HT.out W hW).2.1 (HT.out W hW).2.2.1 (HT.out W hW).2.2.2
  have HO3 : Hid (∀ W, Below w.heap.size w W → Calls Tryd.prog 9 #[.float .f64 z] W fun r w' => DyOut (sv z) (-1074) W.heap.size r w' ∧ Below W.heap.size W w') := fun W hW => Of_fin z W hz fz (HT.out W hW).1 (HT.out W hW).2.1 (HT.out W hW).2.2.1 (HT.out W hW).2.2.2
  have bA0 : (sv x).natAbs < 2 ^ kN := by obtain ⟨_, _, _, h, _⟩ := sv_parts x fx; exact h
  have bB0 : (sv y).natAbs < 2 ^ kN := by obtain ⟨_, _, _, h, _⟩ := sv_parts y fy; exact h
  have bC0 : (sv z).natAbs < 2 ^ kN := by obtain ⟨_, _, _, h, _⟩ := sv_parts z fz; exact h
  obtain ⟨A, hA⟩ : ∃ A, Hid (sv x = A) := ⟨_, rfl⟩
  obtain ⟨B, hB⟩ : ∃ B, Hid (sv y = B) := ⟨_, rfl⟩
  obtain ⟨C, hC⟩ : ∃ C, Hid (sv z = C) := ⟨_, rfl⟩
  rw [hA.out] at HO1 bA0
  rw [hB.out] at HO2 bB0
  rw [hC.out] at HO3 bC0
  have bA := hid (abs_more bA0 (show kN ≤ 2101 by decide))
  have bB := hid (abs_more bB0 (show kN ≤ 2101 by decide))
  have bC := hid (abs_more bC0 (show kN ≤ 2101 by decide))
  have bAB := hid (abs_more (abs_add bA0 bB0) (show kN + 1 ≤ 2101 by decide))
  have bBC := hid (abs_more (abs_add bB0 bC0) (show kN + 1 ≤ 2101 by decide))
  have bP := hid (abs_more (abs_mul bA0 bB0) (show kN + kN ≤ 4200 by decide))
  have bR := hid (abs_more (abs_mul bA0 bC0) (show kN + kN ≤ 4200 by decide))
  have HV0w : Hid (Below w.heap.size w w) := Below.refl _ _
  clear hx hy hz fx fy fz hT hg hT3 hs bA0 bB0 bC0
  go_enter Tryd.func3, Tryd.ntmps3

  go_wp2_with fail
  refine (HO1.out _ HV0w.out).mono ?_
  rintro r w_a ⟨ho, hb⟩
  obtain ⟨n_a, a_a, l_a, c_a, e_a, rfl, hr⟩ := ho.ret
  obtain ⟨V_a, hV_a⟩ : ∃ V, Hid (w_a.alloc (DyBox n_a a_a l_a c_a e_a) = V) := ⟨_, rfl⟩
  have hW_a : w_a.alloc (DyBox n_a a_a l_a c_a e_a) = V_a := hV_a.out
  have HB_a : Hid (Below w.heap.size w V_a) := by rw [← hV_a.out]; exact hb.alloc hb.size _
  have HV_a : Hid (Below w.heap.size w V_a) := HV0w.out.trans (HB_a.out.mono HV0w.out.size)
  have Hv_a : Hid (DyVar V_a w_a.heap.size n_a a_a l_a c_a e_a A (-1074)) := by rw [← hV_a.out]; exact DyVar.new hr
  unfold DyBox at hW_a
  clear ho hb hr
  go_wp2_with fail
  refine (HO2.out _ HV_a.out).mono ?_
  rintro r w_b ⟨ho, hb⟩
  obtain ⟨n_b, a_b, l_b, c_b, e_b, rfl, hr⟩ := ho.ret
  obtain ⟨V_b, hV_b⟩ : ∃ V, Hid (w_b.alloc (DyBox n_b a_b l_b c_b e_b) = V) := ⟨_, rfl⟩
  have hW_b : w_b.alloc (DyBox n_b a_b l_b c_b e_b) = V_b := hV_b.out
  have HB_b : Hid (Below V_a.heap.size V_a V_b) := by rw [← hV_b.out]; exact hb.alloc hb.size _
  have HV_b : Hid (Below w.heap.size w V_b) := HV_a.out.trans (HB_b.out.mono HV_a.out.size)
  have Hv_b : Hid (DyVar V_b w_b.heap.size n_b a_b l_b c_b e_b B (-1074)) := by rw [← hV_b.out]; exact DyVar.new hr
  have Hv_a := hid (Hv_a.out.below HB_b.out)
  unfold DyBox at hW_b
  clear ho hb hr
  go_wp2_with fail
  refine (HO3.out _ HV_b.out).mono ?_
  rintro r w_c ⟨ho, hb⟩
  obtain ⟨n_c, a_c, l_c, c_c, e_c, rfl, hr⟩ := ho.ret
  obtain ⟨V_c, hV_c⟩ : ∃ V, Hid (w_c.alloc (DyBox n_c a_c l_c c_c e_c) = V) := ⟨_, rfl⟩
  have hW_c : w_c.alloc (DyBox n_c a_c l_c c_c e_c) = V_c := hV_c.out
  have HB_c : Hid (Below V_b.heap.size V_b V_c) := by rw [← hV_c.out]; exact hb.alloc hb.size _
  have HV_c : Hid (Below w.heap.size w V_c) := HV_b.out.trans (HB_c.out.mono HV_b.out.size)
  have Hv_c : Hid (DyVar V_c w_c.heap.size n_c a_c l_c c_c e_c C (-1074)) := by rw [← hV_c.out]; exact DyVar.new hr
  have Hv_a := hid (Hv_a.out.below HB_c.out)
  have Hv_b := hid (Hv_b.out.below HB_c.out)
  unfold DyBox at hW_c
  obtain ⟨p0, p1, p2⟩ := Hv_a.out.cells
  obtain ⟨q0, q1, q2⟩ := Hv_b.out.cells
  clear ho hb hr
  go_wp2_with fail
  refine (Add_dy n_a n_b a_a a_b l_a l_b c_a c_b 2101 e_a e_b A B (-1074) _ Hv_a.out.2 Hv_b.out.2 bA.out bB.out (by decide) (by decide) (by decide) (HT.out _ HV_c.out).2.2.1 (HT.out _ HV_c.out).2.2.2).mono ?_
  rintro r w_ab ⟨ho, hb⟩
  obtain ⟨n_ab, a_ab, l_ab, c_ab, e_ab, rfl, hr⟩ := ho.ret
  obtain ⟨V_ab, hV_ab⟩ : ∃ V, Hid (w_ab.alloc (DyBox n_ab a_ab l_ab c_ab e_ab) = V) := ⟨_, rfl⟩
  have hW_ab : w_ab.alloc (DyBox n_ab a_ab l_ab c_ab e_ab) = V_ab := hV_ab.out
  have HB_ab : Hid (Below V_c.heap.size V_c V_ab) := by rw [← hV_ab.out]; exact hb.alloc hb.size _
  have HV_ab : Hid (Below w.heap.size w V_ab) := HV_c.out.trans (HB_ab.out.mono HV_c.out.size)
  have Hv_ab : Hid (DyVar V_ab w_ab.heap.size n_ab a_ab l_ab c_ab e_ab (A + B) (-1074)) := by rw [← hV_ab.out]; exact DyVar.new hr
  have Hv_a := hid (Hv_a.out.below HB_ab.out)
  have Hv_b := hid (Hv_b.out.below HB_ab.out)
  have Hv_c := hid (Hv_c.out.below HB_ab.out)
  unfold DyBox at hW_ab
  obtain ⟨p0, p1, p2⟩ := Hv_b.out.cells
  obtain ⟨q0, q1, q2⟩ := Hv_a.out.cells
  clear ho hb hr
  go_wp2_with fail
  refine (Add_dy n_b n_a a_b a_a l_b l_a c_b c_a 2101 e_b e_a B A (-1074) _ Hv_b.out.2 Hv_a.out.2 bB.out bA.out (by decide) (by decide) (by decide) (HT.out _ HV_ab.out).2.2.1 (HT.out _ HV_ab.out).2.2.2).mono ?_
  rintro r w_ba ⟨ho, hb⟩
  obtain ⟨n_ba, a_ba, l_ba, c_ba, e_ba, rfl, hr⟩ := ho.ret
  obtain ⟨V_ba, hV_ba⟩ : ∃ V, Hid (w_ba.alloc (DyBox n_ba a_ba l_ba c_ba e_ba) = V) := ⟨_, rfl⟩
  have hW_ba : w_ba.alloc (DyBox n_ba a_ba l_ba c_ba e_ba) = V_ba := hV_ba.out
  have HB_ba : Hid (Below V_ab.heap.size V_ab V_ba) := by rw [← hV_ba.out]; exact hb.alloc hb.size _
  have HV_ba : Hid (Below w.heap.size w V_ba) := HV_ab.out.trans (HB_ba.out.mono HV_ab.out.size)
  have Hv_ba : Hid (DyVar V_ba w_ba.heap.size n_ba a_ba l_ba c_ba e_ba (B + A) (-1074)) := by rw [← hV_ba.out]; exact DyVar.new hr
  have Hv_a := hid (Hv_a.out.below HB_ba.out)
  have Hv_b := hid (Hv_b.out.below HB_ba.out)
  have Hv_c := hid (Hv_c.out.below HB_ba.out)
  have Hv_ab := hid (Hv_ab.out.below HB_ba.out)
  unfold DyBox at hW_ba
  obtain ⟨p0, p1, p2⟩ := Hv_b.out.cells
  obtain ⟨q0, q1, q2⟩ := Hv_c.out.cells
  clear ho hb hr
  go_wp2_with fail
  refine (Add_dy n_b n_c a_b a_c l_b l_c c_b c_c 2101 e_b e_c B C (-1074) _ Hv_b.out.2 Hv_c.out.2 bB.out bC.out (by decide) (by decide) (by decide) (HT.out _ HV_ba.out).2.2.1 (HT.out _ HV_ba.out).2.2.2).mono ?_
  rintro r w_bc ⟨ho, hb⟩
  obtain ⟨n_bc, a_bc, l_bc, c_bc, e_bc, rfl, hr⟩ := ho.ret
  obtain ⟨V_bc, hV_bc⟩ : ∃ V, Hid (w_bc.alloc (DyBox n_bc a_bc l_bc c_bc e_bc) = V) := ⟨_, rfl⟩
  have hW_bc : w_bc.alloc (DyBox n_bc a_bc l_bc c_bc e_bc) = V_bc := hV_bc.out
  have HB_bc : Hid (Below V_ba.heap.size V_ba V_bc) := by rw [← hV_bc.out]; exact hb.alloc hb.size _
  have HV_bc : Hid (Below w.heap.size w V_bc) := HV_ba.out.trans (HB_bc.out.mono HV_ba.out.size)
  have Hv_bc : Hid (DyVar V_bc w_bc.heap.size n_bc a_bc l_bc c_bc e_bc (B + C) (-1074)) := by rw [← hV_bc.out]; exact DyVar.new hr
  have Hv_a := hid (Hv_a.out.below HB_bc.out)
  have Hv_b := hid (Hv_b.out.below HB_bc.out)
  have Hv_c := hid (Hv_c.out.below HB_bc.out)
  have Hv_ab := hid (Hv_ab.out.below HB_bc.out)
  have Hv_ba := hid (Hv_ba.out.below HB_bc.out)
  unfold DyBox at hW_bc
  obtain ⟨p0, p1, p2⟩ := Hv_ab.out.cells
  obtain ⟨q0, q1, q2⟩ := Hv_c.out.cells
  clear ho hb hr
  go_wp2_with fail
  refine (Add_dy n_ab n_c a_ab a_c l_ab l_c c_ab c_c 2101 e_ab e_c (A + B) C (-1074) _ Hv_ab.out.2 Hv_c.out.2 bAB.out bC.out (by decide) (by decide) (by decide) (HT.out _ HV_bc.out).2.2.1 (HT.out _ HV_bc.out).2.2.2).mono ?_
  rintro r w_lf ⟨ho, hb⟩
  obtain ⟨n_lf, a_lf, l_lf, c_lf, e_lf, rfl, hr⟩ := ho.ret
  obtain ⟨V_lf, hV_lf⟩ : ∃ V, Hid (w_lf.alloc (DyBox n_lf a_lf l_lf c_lf e_lf) = V) := ⟨_, rfl⟩
  have hW_lf : w_lf.alloc (DyBox n_lf a_lf l_lf c_lf e_lf) = V_lf := hV_lf.out
  have HB_lf : Hid (Below V_bc.heap.size V_bc V_lf) := by rw [← hV_lf.out]; exact hb.alloc hb.size _
  have HV_lf : Hid (Below w.heap.size w V_lf) := HV_bc.out.trans (HB_lf.out.mono HV_bc.out.size)
  have Hv_lf : Hid (DyVar V_lf w_lf.heap.size n_lf a_lf l_lf c_lf e_lf (A + B + C) (-1074)) := by rw [← hV_lf.out]; exact DyVar.new hr
  have Hv_a := hid (Hv_a.out.below HB_lf.out)
  have Hv_b := hid (Hv_b.out.below HB_lf.out)
  have Hv_c := hid (Hv_c.out.below HB_lf.out)
  have Hv_ab := hid (Hv_ab.out.below HB_lf.out)
  have Hv_ba := hid (Hv_ba.out.below HB_lf.out)
  have Hv_bc := hid (Hv_bc.out.below HB_lf.out)
  unfold DyBox at hW_lf
  obtain ⟨p0, p1, p2⟩ := Hv_a.out.cells
  obtain ⟨q0, q1, q2⟩ := Hv_bc.out.cells
  clear ho hb hr
  go_wp2_with fail
  refine (Add_dy n_a n_bc a_a a_bc l_a l_bc c_a c_bc 2101 e_a e_bc A (B + C) (-1074) _ Hv_a.out.2 Hv_bc.out.2 bA.out bBC.out (by decide) (by decide) (by decide) (HT.out _ HV_lf.out).2.2.1 (HT.out _ HV_lf.out).2.2.2).mono ?_
  rintro r w_rt ⟨ho, hb⟩
  obtain ⟨n_rt, a_rt, l_rt, c_rt, e_rt, rfl, hr⟩ := ho.ret
  obtain ⟨V_rt, hV_rt⟩ : ∃ V, Hid (w_rt.alloc (DyBox n_rt a_rt l_rt c_rt e_rt) = V) := ⟨_, rfl⟩
  have hW_rt : w_rt.alloc (DyBox n_rt a_rt l_rt c_rt e_rt) = V_rt := hV_rt.out
  have HB_rt : Hid (Below V_lf.heap.size V_lf V_rt) := by rw [← hV_rt.out]; exact hb.alloc hb.size _
  have HV_rt : Hid (Below w.heap.size w V_rt) := HV_lf.out.trans (HB_rt.out.mono HV_lf.out.size)
  have Hv_rt : Hid (DyVar V_rt w_rt.heap.size n_rt a_rt l_rt c_rt e_rt (A + (B + C)) (-1074)) := by rw [← hV_rt.out]; exact DyVar.new hr
  have Hv_a := hid (Hv_a.out.below HB_rt.out)
  have Hv_b := hid (Hv_b.out.below HB_rt.out)
  have Hv_c := hid (Hv_c.out.below HB_rt.out)
  have Hv_ab := hid (Hv_ab.out.below HB_rt.out)
  have Hv_ba := hid (Hv_ba.out.below HB_rt.out)
  have Hv_bc := hid (Hv_bc.out.below HB_rt.out)
  have Hv_lf := hid (Hv_lf.out.below HB_rt.out)
  unfold DyBox at hW_rt
  obtain ⟨p0, p1, p2⟩ := Hv_a.out.cells
  obtain ⟨q0, q1, q2⟩ := Hv_b.out.cells
  clear ho hb hr
  go_wp2_with fail
  refine (Mul_dy n_a n_b a_a a_b l_a l_b c_a c_b 2101 e_a e_b A B (-1074) (-1074) _ Hv_a.out.2 Hv_b.out.2 bA.out bB.out (by decide) (by decide) (by decide) (by decide) (by decide) (HT.out _ HV_rt.out).2.2.1 (HT.out _ HV_rt.out).2.2.2).mono ?_
  rintro r w_p ⟨ho, hb⟩
  obtain ⟨n_p, a_p, l_p, c_p, e_p, rfl, hr⟩ := ho.ret
  obtain ⟨V_p, hV_p⟩ : ∃ V, Hid (w_p.alloc (DyBox n_p a_p l_p c_p e_p) = V) := ⟨_, rfl⟩
  have hW_p : w_p.alloc (DyBox n_p a_p l_p c_p e_p) = V_p := hV_p.out
  have HB_p : Hid (Below V_rt.heap.size V_rt V_p) := by rw [← hV_p.out]; exact hb.alloc hb.size _
  have HV_p : Hid (Below w.heap.size w V_p) := HV_rt.out.trans (HB_p.out.mono HV_rt.out.size)
  have Hv_p : Hid (DyVar V_p w_p.heap.size n_p a_p l_p c_p e_p (A * B) (-1074 + -1074)) := by rw [← hV_p.out]; exact DyVar.new hr
  have Hv_a := hid (Hv_a.out.below HB_p.out)
  have Hv_b := hid (Hv_b.out.below HB_p.out)
  have Hv_c := hid (Hv_c.out.below HB_p.out)
  have Hv_ab := hid (Hv_ab.out.below HB_p.out)
  have Hv_ba := hid (Hv_ba.out.below HB_p.out)
  have Hv_bc := hid (Hv_bc.out.below HB_p.out)
  have Hv_lf := hid (Hv_lf.out.below HB_p.out)
  have Hv_rt := hid (Hv_rt.out.below HB_p.out)
  unfold DyBox at hW_p
  obtain ⟨p0, p1, p2⟩ := Hv_b.out.cells
  obtain ⟨q0, q1, q2⟩ := Hv_a.out.cells
  clear ho hb hr
  go_wp2_with fail
  refine (Mul_dy n_b n_a a_b a_a l_b l_a c_b c_a 2101 e_b e_a B A (-1074) (-1074) _ Hv_b.out.2 Hv_a.out.2 bB.out bA.out (by decide) (by decide) (by decide) (by decide) (by decide) (HT.out _ HV_p.out).2.2.1 (HT.out _ HV_p.out).2.2.2).mono ?_
  rintro r w_q ⟨ho, hb⟩
  obtain ⟨n_q, a_q, l_q, c_q, e_q, rfl, hr⟩ := ho.ret
  obtain ⟨V_q, hV_q⟩ : ∃ V, Hid (w_q.alloc (DyBox n_q a_q l_q c_q e_q) = V) := ⟨_, rfl⟩
  have hW_q : w_q.alloc (DyBox n_q a_q l_q c_q e_q) = V_q := hV_q.out
  have HB_q : Hid (Below V_p.heap.size V_p V_q) := by rw [← hV_q.out]; exact hb.alloc hb.size _
  have HV_q : Hid (Below w.heap.size w V_q) := HV_p.out.trans (HB_q.out.mono HV_p.out.size)
  have Hv_q : Hid (DyVar V_q w_q.heap.size n_q a_q l_q c_q e_q (B * A) (-1074 + -1074)) := by rw [← hV_q.out]; exact DyVar.new hr
  have Hv_a := hid (Hv_a.out.below HB_q.out)
  have Hv_b := hid (Hv_b.out.below HB_q.out)
  have Hv_c := hid (Hv_c.out.below HB_q.out)
  have Hv_ab := hid (Hv_ab.out.below HB_q.out)
  have Hv_ba := hid (Hv_ba.out.below HB_q.out)
  have Hv_bc := hid (Hv_bc.out.below HB_q.out)
  have Hv_lf := hid (Hv_lf.out.below HB_q.out)
  have Hv_rt := hid (Hv_rt.out.below HB_q.out)
  have Hv_p := hid (Hv_p.out.below HB_q.out)
  unfold DyBox at hW_q
  obtain ⟨p0, p1, p2⟩ := Hv_a.out.cells
  obtain ⟨q0, q1, q2⟩ := Hv_bc.out.cells
  clear ho hb hr
  go_wp2_with fail
  refine (Mul_dy n_a n_bc a_a a_bc l_a l_bc c_a c_bc 2101 e_a e_bc A (B + C) (-1074) (-1074) _ Hv_a.out.2 Hv_bc.out.2 bA.out bBC.out (by decide) (by decide) (by decide) (by decide) (by decide) (HT.out _ HV_q.out).2.2.1 (HT.out _ HV_q.out).2.2.2).mono ?_
  rintro r w_ov ⟨ho, hb⟩
  obtain ⟨n_ov, a_ov, l_ov, c_ov, e_ov, rfl, hr⟩ := ho.ret
  obtain ⟨V_ov, hV_ov⟩ : ∃ V, Hid (w_ov.alloc (DyBox n_ov a_ov l_ov c_ov e_ov) = V) := ⟨_, rfl⟩
  have hW_ov : w_ov.alloc (DyBox n_ov a_ov l_ov c_ov e_ov) = V_ov := hV_ov.out
  have HB_ov : Hid (Below V_q.heap.size V_q V_ov) := by rw [← hV_ov.out]; exact hb.alloc hb.size _
  have HV_ov : Hid (Below w.heap.size w V_ov) := HV_q.out.trans (HB_ov.out.mono HV_q.out.size)
  have Hv_ov : Hid (DyVar V_ov w_ov.heap.size n_ov a_ov l_ov c_ov e_ov (A * (B + C)) (-1074 + -1074)) := by rw [← hV_ov.out]; exact DyVar.new hr
  have Hv_a := hid (Hv_a.out.below HB_ov.out)
  have Hv_b := hid (Hv_b.out.below HB_ov.out)
  have Hv_c := hid (Hv_c.out.below HB_ov.out)
  have Hv_ab := hid (Hv_ab.out.below HB_ov.out)
  have Hv_ba := hid (Hv_ba.out.below HB_ov.out)
  have Hv_bc := hid (Hv_bc.out.below HB_ov.out)
  have Hv_lf := hid (Hv_lf.out.below HB_ov.out)
  have Hv_rt := hid (Hv_rt.out.below HB_ov.out)
  have Hv_p := hid (Hv_p.out.below HB_ov.out)
  have Hv_q := hid (Hv_q.out.below HB_ov.out)
  unfold DyBox at hW_ov
  obtain ⟨p0, p1, p2⟩ := Hv_a.out.cells
  obtain ⟨q0, q1, q2⟩ := Hv_c.out.cells
  clear ho hb hr
  go_wp2_with fail
  refine (Mul_dy n_a n_c a_a a_c l_a l_c c_a c_c 2101 e_a e_c A C (-1074) (-1074) _ Hv_a.out.2 Hv_c.out.2 bA.out bC.out (by decide) (by decide) (by decide) (by decide) (by decide) (HT.out _ HV_ov.out).2.2.1 (HT.out _ HV_ov.out).2.2.2).mono ?_
  rintro r w_r ⟨ho, hb⟩
  obtain ⟨n_r, a_r, l_r, c_r, e_r, rfl, hr⟩ := ho.ret
  obtain ⟨V_r, hV_r⟩ : ∃ V, Hid (w_r.alloc (DyBox n_r a_r l_r c_r e_r) = V) := ⟨_, rfl⟩
  have hW_r : w_r.alloc (DyBox n_r a_r l_r c_r e_r) = V_r := hV_r.out
  have HB_r : Hid (Below V_ov.heap.size V_ov V_r) := by rw [← hV_r.out]; exact hb.alloc hb.size _
  have HV_r : Hid (Below w.heap.size w V_r) := HV_ov.out.trans (HB_r.out.mono HV_ov.out.size)
  have Hv_r : Hid (DyVar V_r w_r.heap.size n_r a_r l_r c_r e_r (A * C) (-1074 + -1074)) := by rw [← hV_r.out]; exact DyVar.new hr
  have Hv_a := hid (Hv_a.out.below HB_r.out)
  have Hv_b := hid (Hv_b.out.below HB_r.out)
  have Hv_c := hid (Hv_c.out.below HB_r.out)
  have Hv_ab := hid (Hv_ab.out.below HB_r.out)
  have Hv_ba := hid (Hv_ba.out.below HB_r.out)
  have Hv_bc := hid (Hv_bc.out.below HB_r.out)
  have Hv_lf := hid (Hv_lf.out.below HB_r.out)
  have Hv_rt := hid (Hv_rt.out.below HB_r.out)
  have Hv_p := hid (Hv_p.out.below HB_r.out)
  have Hv_q := hid (Hv_q.out.below HB_r.out)
  have Hv_ov := hid (Hv_ov.out.below HB_r.out)
  unfold DyBox at hW_r
  obtain ⟨p0, p1, p2⟩ := Hv_p.out.cells
  obtain ⟨q0, q1, q2⟩ := Hv_r.out.cells
  clear ho hb hr
  go_wp2_with fail
  refine (Add_dy n_p n_r a_p a_r l_p l_r c_p c_r 4200 e_p e_r (A * B) (A * C) (-1074 + -1074) _ Hv_p.out.2 Hv_r.out.2 bP.out bR.out (by decide) (by decide) (by decide) (HT.out _ HV_r.out).2.2.1 (HT.out _ HV_r.out).2.2.2).mono ?_
  rintro r w_sm ⟨ho, hb⟩
  obtain ⟨n_sm, a_sm, l_sm, c_sm, e_sm, rfl, hr⟩ := ho.ret
  obtain ⟨V_sm, hV_sm⟩ : ∃ V, Hid (w_sm.alloc (DyBox n_sm a_sm l_sm c_sm e_sm) = V) := ⟨_, rfl⟩
  have hW_sm : w_sm.alloc (DyBox n_sm a_sm l_sm c_sm e_sm) = V_sm := hV_sm.out
  have HB_sm : Hid (Below V_r.heap.size V_r V_sm) := by rw [← hV_sm.out]; exact hb.alloc hb.size _
  have HV_sm : Hid (Below w.heap.size w V_sm) := HV_r.out.trans (HB_sm.out.mono HV_r.out.size)
  have Hv_sm : Hid (DyVar V_sm w_sm.heap.size n_sm a_sm l_sm c_sm e_sm (A * B + A * C) (-1074 + -1074)) := by rw [← hV_sm.out]; exact DyVar.new hr
  have Hv_a := hid (Hv_a.out.below HB_sm.out)
  have Hv_b := hid (Hv_b.out.below HB_sm.out)
  have Hv_c := hid (Hv_c.out.below HB_sm.out)
  have Hv_ab := hid (Hv_ab.out.below HB_sm.out)
  have Hv_ba := hid (Hv_ba.out.below HB_sm.out)
  have Hv_bc := hid (Hv_bc.out.below HB_sm.out)
  have Hv_lf := hid (Hv_lf.out.below HB_sm.out)
  have Hv_rt := hid (Hv_rt.out.below HB_sm.out)
  have Hv_p := hid (Hv_p.out.below HB_sm.out)
  have Hv_q := hid (Hv_q.out.below HB_sm.out)
  have Hv_ov := hid (Hv_ov.out.below HB_sm.out)
  have Hv_r := hid (Hv_r.out.below HB_sm.out)
  unfold DyBox at hW_sm
  obtain ⟨p0, p1, p2⟩ := Hv_ab.out.cells
  obtain ⟨q0, q1, q2⟩ := Hv_b.out.cells
  clear ho hb hr
  go_wp2_with fail
  refine (Sub_dy n_ab n_b a_ab a_b l_ab l_b c_ab c_b 2101 e_ab e_b (A + B) B (-1074) _ Hv_ab.out.2 Hv_b.out.2 bAB.out bB.out (by decide) (by decide) (by decide) (HT.out _ HV_sm.out).2.2.1 (HT.out _ HV_sm.out).2.2.2).mono ?_
  rintro r w_bk ⟨ho, hb⟩
  obtain ⟨n_bk, a_bk, l_bk, c_bk, e_bk, rfl, hr⟩ := ho.ret
  obtain ⟨V_bk, hV_bk⟩ : ∃ V, Hid (w_bk.alloc (DyBox n_bk a_bk l_bk c_bk e_bk) = V) := ⟨_, rfl⟩
  have hW_bk : w_bk.alloc (DyBox n_bk a_bk l_bk c_bk e_bk) = V_bk := hV_bk.out
  have HB_bk : Hid (Below V_sm.heap.size V_sm V_bk) := by rw [← hV_bk.out]; exact hb.alloc hb.size _
  have HV_bk : Hid (Below w.heap.size w V_bk) := HV_sm.out.trans (HB_bk.out.mono HV_sm.out.size)
  have Hv_bk : Hid (DyVar V_bk w_bk.heap.size n_bk a_bk l_bk c_bk e_bk (A + B - B) (-1074)) := by rw [← hV_bk.out]; exact DyVar.new hr
  have Hv_a := hid (Hv_a.out.below HB_bk.out)
  have Hv_b := hid (Hv_b.out.below HB_bk.out)
  have Hv_c := hid (Hv_c.out.below HB_bk.out)
  have Hv_ab := hid (Hv_ab.out.below HB_bk.out)
  have Hv_ba := hid (Hv_ba.out.below HB_bk.out)
  have Hv_bc := hid (Hv_bc.out.below HB_bk.out)
  have Hv_lf := hid (Hv_lf.out.below HB_bk.out)
  have Hv_rt := hid (Hv_rt.out.below HB_bk.out)
  have Hv_p := hid (Hv_p.out.below HB_bk.out)
  have Hv_q := hid (Hv_q.out.below HB_bk.out)
  have Hv_ov := hid (Hv_ov.out.below HB_bk.out)
  have Hv_r := hid (Hv_r.out.below HB_bk.out)
  have Hv_sm := hid (Hv_sm.out.below HB_bk.out)
  unfold DyBox at hW_bk
  clear ho hb hr
  obtain ⟨V_L, hV_L⟩ : ∃ V, Hid (V_bk.alloc (.cells #[.int .i64 0, .int .i64 0, .int .i64 0, .int .i64 0, .int .i64 0, .int .i64 0, .int .i64 0, .int .i64 0, .int .i64 0, .int .i64 0, .int .i64 0] 26) = V) := ⟨_, rfl⟩
  have hW_L : V_bk.alloc (.cells #[.int .i64 0, .int .i64 0, .int .i64 0, .int .i64 0, .int .i64 0, .int .i64 0, .int .i64 0, .int .i64 0, .int .i64 0, .int .i64 0, .int .i64 0] 26) = V_L := hV_L.out
  have HB_L : Hid (Below V_bk.heap.size V_bk V_L) := by rw [← hV_L.out]; exact (Below.refl _ _).alloc (Nat.le_refl _) _
  have HV_L : Hid (Below w.heap.size w V_L) := HV_bk.out.trans (HB_L.out.mono HV_bk.out.size)
  have HCE : Hid (∀ k : Nat, k < 11 → V_L.cell? ⟨V_bk.heap.size, k, none⟩ = some (.int .i64 0)) := fun k hk => by
    have hb : V_L.heap[V_bk.heap.size]? = some (.cells #[.int .i64 0, .int .i64 0, .int .i64 0, .int .i64 0, .int .i64 0, .int .i64 0, .int .i64 0, .int .i64 0, .int .i64 0, .int .i64 0, .int .i64 0] 26) := by rw [← hV_L.out]; exact new_blk _ _ _ rfl
    simp only [World.cell?, hb]
    rcases (show k = 0 ∨ k = 1 ∨ k = 2 ∨ k = 3 ∨ k = 4 ∨ k = 5 ∨ k = 6 ∨ k = 7 ∨ k = 8 ∨ k = 9 ∨ k = 10 by omega) with rfl | rfl | rfl | rfl | rfl | rfl | rfl | rfl | rfl | rfl | rfl <;> rfl
  have Hv_a := hid (Hv_a.out.below HB_L.out)
  have Hv_b := hid (Hv_b.out.below HB_L.out)
  have Hv_c := hid (Hv_c.out.below HB_L.out)
  have Hv_ab := hid (Hv_ab.out.below HB_L.out)
  have Hv_ba := hid (Hv_ba.out.below HB_L.out)
  have Hv_bc := hid (Hv_bc.out.below HB_L.out)
  have Hv_lf := hid (Hv_lf.out.below HB_L.out)
  have Hv_rt := hid (Hv_rt.out.below HB_L.out)
  have Hv_p := hid (Hv_p.out.below HB_L.out)
  have Hv_q := hid (Hv_q.out.below HB_L.out)
  have Hv_ov := hid (Hv_ov.out.below HB_L.out)
  have Hv_r := hid (Hv_r.out.below HB_L.out)
  have Hv_sm := hid (Hv_sm.out.below HB_L.out)
  have Hv_bk := hid (Hv_bk.out.below HB_L.out)
  rw [Int.add_comm B A] at Hv_ba
  rw [Int.add_assoc A B C] at Hv_lf
  rw [Int.mul_comm B A] at Hv_q
  rw [Int.mul_add A B C] at Hv_ov
  rw [Int.add_sub_cancel A B] at Hv_bk
  clear p0 p1 p2 q0 q1 q2 HO1 HO2 HO3 bA bB bC bAB bBC bP bR
  go_wp2
  go_loop [145] (fun i => ∃ k : Nat, k ≤ 11 ∧ i = .int .i64 k) (fun i => 11 - (intOf i).toNat)
  case atStart => exact ⟨0, by decide, rfl⟩
  case round =>
    obtain ⟨k, hk, rfl⟩ := hrel
    by_cases hlt : k < 11
    · have hce := HCE.out k hlt
      have hkI : (k : Int) < 11 := by omega
      have hk0 : (0 : Int) ≤ (k : Int) := by omega
      go_wp2
      exact ⟨⟨k + 1, by omega, by go_num⟩, by simp [intOf]; omega⟩
    · obtain rfl : k = 11 := by omega
      obtain ⟨p0, p1, p2⟩ := Hv_ab.out.cells
      obtain ⟨q0, q1, q2⟩ := Hv_ba.out.cells
      clear hlt hk
      go_wp2_with fail
      refine (Same_dy n_ab n_ba a_ab a_ba l_ab l_ba c_ab c_ba e_ab e_ba (A + B) (-1074) _ Hv_ab.out.2 Hv_ba.out.2).mono ?_
      rintro r y0 ⟨rfl, hb⟩
      have HY0 : Hid (Below w.heap.size w y0) := HV_L.out.trans (hb.mono HV_L.out.size)
      have Hv_lf := hid (Hv_lf.out.below hb)
      have Hv_rt := hid (Hv_rt.out.below hb)
      have Hv_p := hid (Hv_p.out.below hb)
      have Hv_q := hid (Hv_q.out.below hb)
      have Hv_ov := hid (Hv_ov.out.below hb)
      have Hv_sm := hid (Hv_sm.out.below hb)
      have Hv_bk := hid (Hv_bk.out.below hb)
      have Hv_a := hid (Hv_a.out.below hb)
      clear hb p0 p1 p2 q0 q1 q2
      obtain ⟨p0, p1, p2⟩ := Hv_lf.out.cells
      obtain ⟨q0, q1, q2⟩ := Hv_rt.out.cells
      go_wp2_with fail
      refine (Same_dy n_lf n_rt a_lf a_rt l_lf l_rt c_lf c_rt e_lf e_rt (A + (B + C)) (-1074) _ Hv_lf.out.2 Hv_rt.out.2).mono ?_
      rintro r y1 ⟨rfl, hb⟩
      have HY1 : Hid (Below w.heap.size w y1) := HY0.out.trans (hb.mono HY0.out.size)
      have Hv_p := hid (Hv_p.out.below hb)
      have Hv_q := hid (Hv_q.out.below hb)
      have Hv_ov := hid (Hv_ov.out.below hb)
      have Hv_sm := hid (Hv_sm.out.below hb)
      have Hv_bk := hid (Hv_bk.out.below hb)
      have Hv_a := hid (Hv_a.out.below hb)
      clear hb p0 p1 p2 q0 q1 q2
      obtain ⟨p0, p1, p2⟩ := Hv_p.out.cells
      obtain ⟨q0, q1, q2⟩ := Hv_q.out.cells
      go_wp2_with fail
      refine (Same_dy n_p n_q a_p a_q l_p l_q c_p c_q e_p e_q (A * B) (-1074 + -1074) _ Hv_p.out.2 Hv_q.out.2).mono ?_
      rintro r y2 ⟨rfl, hb⟩
      have HY2 : Hid (Below w.heap.size w y2) := HY1.out.trans (hb.mono HY1.out.size)
      have Hv_ov := hid (Hv_ov.out.below hb)
      have Hv_sm := hid (Hv_sm.out.below hb)
      have Hv_bk := hid (Hv_bk.out.below hb)
      have Hv_a := hid (Hv_a.out.below hb)
      clear hb p0 p1 p2 q0 q1 q2
      obtain ⟨p0, p1, p2⟩ := Hv_ov.out.cells
      obtain ⟨q0, q1, q2⟩ := Hv_sm.out.cells
      go_wp2_with fail
      refine (Same_dy n_ov n_sm a_ov a_sm l_ov l_sm c_ov c_sm e_ov e_sm (A * B + A * C) (-1074 + -1074) _ Hv_ov.out.2 Hv_sm.out.2).mono ?_
      rintro r y3 ⟨rfl, hb⟩
      have HY3 : Hid (Below w.heap.size w y3) := HY2.out.trans (hb.mono HY2.out.size)
      have Hv_bk := hid (Hv_bk.out.below hb)
      have Hv_a := hid (Hv_a.out.below hb)
      clear hb p0 p1 p2 q0 q1 q2
      obtain ⟨p0, p1, p2⟩ := Hv_bk.out.cells
      obtain ⟨q0, q1, q2⟩ := Hv_a.out.cells
      go_wp2_with fail
      refine (Same_dy n_bk n_a a_bk a_a l_bk l_a c_bk c_a e_bk e_a A (-1074) _ Hv_bk.out.2 Hv_a.out.2).mono ?_
      rintro r y4 ⟨rfl, hb⟩
      have HY4 : Hid (Below w.heap.size w y4) := HY3.out.trans (hb.mono HY3.out.size)
      clear hb p0 p1 p2 q0 q1 q2
      go_wp2_with fail
      refine (awake3_any _ (HT.out _ HY4.out).1 (HT.out _ HY4.out).2.1 (HT.out _ HY4.out).2.2.1 (HT.out _ HY4.out).2.2.2).mono ?_
      rintro r y5 ⟨rfl, hb⟩
      have HY5 : Hid (Below w.heap.size w y5) := HY4.out.trans (hb.mono HY4.out.size)
      clear hb
      go_wp2
      go_ret
      exact ⟨rfl, HY5.out⟩
end Go.Proofs.YtnhggfmpajnapaaDoor
