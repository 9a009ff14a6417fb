
/- What dyad's Add does, by the numbers that its dyads stand for. -/
import Derived.Test.YtphdinjmkhefmaaGreatDoorP25
import Derived.Test.YtphdinjmkhefmaaGreatDoorP8
import Derived.Test.YtphdinjmkhefmaaGreatDoorP9
import Derived.Test.YtphdinjmkhefmaaGreatDoorP18
namespace Go.Proofs.YtphdinjmkhefmaaGreatDoor
open Go.RowKit Go.IntWalk

/-- A dyad in memory, and the number z * 2^e that it stands for. -/
def DyAt (w : World) (neg : Bool) (a : Option Addr) (n cap : Nat) (e' z e : Int) : Prop := ∃ L, L.length = n ∧ n ≤ cap ∧ MagAt w a L ∧ DyV neg L e' z e ∧ DyMay neg L e'
theorem DyRet.at {Z e e' : Int} {B : Nat} {neg : Bool} {a : Option Addr} {n cap : Nat} {w : World} (h : DyRet Z e B neg a n cap e' w) : DyAt w neg a n cap e' Z e := by
  obtain ⟨neg1, L, a1, cap1, e1, h0, h1, h2, h3, h4, h5⟩ := h
  cases h0
  exact ⟨L, rfl, h1, h2, h3, h4⟩
theorem DyAt.below {w w' : World} {neg : Bool} {a : Option Addr} {n cap : Nat} {e' z e : Int} (h : DyAt w neg a n cap e' z e) (hb : Below w.heap.size w w') : DyAt w' neg a n cap e' z e := by
  obtain ⟨L, h1, h2, h3, h4, h5⟩ := h
  exact ⟨L, h1, h2, h3.below hb, h4, h5⟩
theorem DyAt.may {w : World} {neg : Bool} {a : Option Addr} {n cap : Nat} {e' z e : Int} (h : DyAt w neg a n cap e' z e) : Calls Tryz.prog 47 #[.agg #[.bool neg, .slice a n cap, .int .i64 e']] w fun r w' => r = .returned (.bool true) ∧ Below w.heap.size w w' := by
  obtain ⟨L, rfl, h2, h3, h4, h5⟩ := h
  exact May_yes neg L a cap e' w h3 h5
theorem DyV.conv {n : Bool} {L : List Nat} {e' S m T e : Int} {i j : Nat} (h : DyV n L e' S m) (h1 : S * 2 ^ i = T * 2 ^ j) (h2 : m - i = e - j) : DyV n L e' T e := by
  have := h.low i
  rw [h1, h2] at this
  have := this.high
  rwa [show e - (j : Int) + (j : Int) = e by omega] at this
theorem DyOut.conv {S m T e : Int} {B : Nat} {r : Ending} {w : World} {i j : Nat} (h : DyOut S m B r w) (h1 : S * 2 ^ i = T * 2 ^ j) (h2 : m - i = e - j) : DyOut T e B r w := by
  obtain ⟨neg, L, a, cap, e', rfl, g1, g2, g3, g4, g5⟩ := h
  exact ⟨neg, L, a, cap, e', rfl, g1, g2, g3.conv h1 h2, g4, g5⟩
theorem intL_abs (n : Bool) (L : List Nat) : (intL n L).natAbs = natL L := by unfold intL; cases n <;> simp
/-- How long a dyad's words are, and where its exponent lies. -/
theorem DyV.size {n : Bool} {L : List Nat} {e' z e : Int} {N : Nat} (h : DyV n L e' z e) (hz : z.natAbs < 2 ^ N) (hN : N ≤ 6400) (he1 : -3000 ≤ e) (he2 : e ≤ 3000) : L.length ≤ 201 ∧ -3000 ≤ e' ∧ e' ≤ 9400 := by
  have hc := h.2.1
  rcases h.val with ⟨z0, l0, m0, x0⟩ | ⟨l0, o0, z0, k, hk, hx⟩
  · rw [l0, x0]; exact ⟨by simp, by decide, by decide⟩
  · have ha : natL L * 2 ^ k = z.natAbs := by rw [← hk, Int.natAbs_mul, intL_abs, Int.natAbs_pow]; rfl
    have hn1 : 1 ≤ natL L := by omega
    have hp := Nat.two_pow_pos k
    have h1 : 2 ^ k ≤ z.natAbs := by rw [← ha]; exact Nat.le_mul_of_pos_left _ hn1
    have h2 : natL L ≤ z.natAbs := by rw [← ha]; exact Nat.le_mul_of_pos_right _ hp
    have hkN : k < N := (Nat.pow_lt_pow_iff_right (by decide)).1 (Nat.lt_of_le_of_lt h1 hz)
    have h3 := natL_ge L l0 hc
    rw [pow32] at h3
    have h4 : 32 * (L.length - 1) < N := (Nat.pow_lt_pow_iff_right (by decide)).1 (Nat.lt_of_le_of_lt h3 (Nat.lt_of_le_of_lt h2 hz))
    omega
/-- A sum at the lesser exponent is the sum. -/
theorem sum_conv (i1 i2 z1 z2 e e1 e2 m : Int) (i j : Nat) (hi : e1 - m = (i : Int)) (hj : e2 - m = (j : Int)) (h1 : (z1 = 0 ∧ i1 = 0) ∨ ∃ k : Nat, i1 * 2 ^ k = z1 ∧ e1 = e + k) (h2 : (z2 = 0 ∧ i2 = 0) ∨ ∃ k : Nat, i2 * 2 ^ k = z2 ∧ e2 = e + k) : ∃ p q : Nat, (i1 * 2 ^ i + i2 * 2 ^ j) * 2 ^ p = (z1 + z2) * 2 ^ q ∧ m - p = e - q := by
  refine ⟨(m - min m e).toNat, (e - min m e).toNat, ?_, by omega⟩
  have key : ∀ (a z x : Int) (t : Nat), x - m = (t : Int) → ((z = 0 ∧ a = 0) ∨ ∃ k : Nat, a * 2 ^ k = z ∧ x = e + k) → a * 2 ^ t * 2 ^ (m - min m e).toNat = z * 2 ^ (e - min m e).toNat := by
    intro a z x t ht h
    rcases h with ⟨h, h'⟩ | ⟨k, h, hx⟩
    · rw [h, h', Int.zero_mul, Int.zero_mul, Int.zero_mul]
    · rw [← h, Int.mul_assoc, Int.mul_assoc, ← Int.pow_add, ← Int.pow_add]
      congr 2
      omega
  rw [Int.add_mul, Int.add_mul, key i1 z1 e1 i hi h1, key i2 z2 e2 j hj h2]
/-- added, by what the dyads stand for. -/
theorem added_dy (n1 n2 : Bool) (a1 a2 : Option Addr) (l1 l2 c1 c2 N : Nat) (e1 e2 z1 z2 e : Int) (w : World) (h1 : DyAt w n1 a1 l1 c1 e1 z1 e) (h2 : DyAt w n2 a2 l2 c2 e2 z2 e) (hz1 : z1.natAbs < 2 ^ N) (hz2 : z2.natAbs < 2 ^ N) (hN : N ≤ 6400) (he1 : -3000 ≤ e) (he2 : e ≤ 3000) (hT : Tab32 w) (hs : 1 < w.heap.size) :
    Calls Tryz.prog 48 #[.agg #[.bool n1, .slice a1 l1 c1, .int .i64 e1], .agg #[.bool n2, .slice a2 l2 c2, .int .i64 e2]] w fun r w' => DyOut (z1 + z2) e w.heap.size r w' ∧ Below w.heap.size w w' := by
  obtain ⟨L1, rfl, _, m1, v1, _⟩ := h1
  obtain ⟨L2, rfl, _, m2, v2, _⟩ := h2
  obtain ⟨s1, s2, s3⟩ := v1.size hz1 hN he1 he2
  obtain ⟨t1, t2, t3⟩ := v2.size hz2 hN he1 he2
  obtain ⟨m, hm⟩ : ∃ m, min e1 e2 = m := ⟨_, rfl⟩
  obtain ⟨i, hi⟩ := Int.eq_ofNat_of_zero_le (show 0 ≤ e1 - m by omega)
  obtain ⟨j, hj⟩ := Int.eq_ofNat_of_zero_le (show 0 ≤ e2 - m by omega)
  refine (added_any n1 n2 L1 L2 a1 a2 c1 c2 i j 600 e1 e2 m w m1 m2 v1.1 v2.1 (by omega) (by omega) (by decide) hm hi hj (by omega) (by omega) hT hs).mono ?_
  rintro r w' ⟨ho, hb⟩
  have g1 : (z1 = 0 ∧ intL n1 L1 = 0) ∨ ∃ k : Nat, intL n1 L1 * 2 ^ k = z1 ∧ e1 = e + k := by
    rcases v1.val with ⟨z0, l0, m0, x0⟩ | ⟨_, _, _, k, hk⟩
    · exact Or.inl ⟨z0, by rw [l0, m0]; rfl⟩
    · exact Or.inr ⟨k, hk⟩
  have g2 : (z2 = 0 ∧ intL n2 L2 = 0) ∨ ∃ k : Nat, intL n2 L2 * 2 ^ k = z2 ∧ e2 = e + k := by
    rcases v2.val with ⟨z0, l0, m0, x0⟩ | ⟨_, _, _, k, hk⟩
    · exact Or.inl ⟨z0, by rw [l0, m0]; rfl⟩
    · exact Or.inr ⟨k, hk⟩
  obtain ⟨p, q, q1, q2⟩ := sum_conv _ _ z1 z2 e e1 e2 m i j hi hj g1 g2
  exact ⟨ho.conv q1 q2, hb⟩
set_option maxRecDepth 4000 in
set_option maxHeartbeats 2000000 in
theorem Add_dy (n1 n2 : Bool) (a1 a2 : Option Addr) (l1 l2 c1 c2 N : Nat) (e1 e2 z1 z2 e : Int) (w : World) (h1 : DyAt w n1 a1 l1 c1 e1 z1 e) (h2 : DyAt w n2 a2 l2 c2 e2 z2 e) (hz1 : z1.natAbs < 2 ^ N) (hz2 : z2.natAbs < 2 ^ N) (hN : N ≤ 6400) (he1 : -3000 ≤ e) (he2 : e ≤ 3000) (hT : Tab32 w) (hs : 1 < w.heap.size) :
    Calls Tryz.prog 26 #[.agg #[.bool n1, .slice a1 l1 c1, .int .i64 e1], .agg #[.bool n2, .slice a2 l2 c2, .int .i64 e2]] w fun r w' => DyOut (z1 + z2) e w.heap.size r w' ∧ Below w.heap.size w w' := by
  obtain ⟨f1, f2, f3, f4, f5⟩ := AdW.facts w n1 n2 a1 a2 l1 l2 c1 c2 e1 e2
  have HM1 : Hid (∀ W, Below w.heap.size w W → Calls Tryz.prog 47 #[.agg #[.bool n1, .slice a1 l1 c1, .int .i64 e1]] W fun r w' => r = .returned (.bool true) ∧ Below W.heap.size W w') := fun W hW => (h1.below hW).may
  have HM2 : Hid (∀ W, Below w.heap.size w W → Calls Tryz.prog 47 #[.agg #[.bool n2, .slice a2 l2 c2, .int .i64 e2]] W fun r w' => r = .returned (.bool true) ∧ Below W.heap.size W w') := fun W hW => (h2.below hW).may
  have HAD : Hid (∀ W, Below w.heap.size w W → Calls Tryz.prog 48 #[.agg #[.bool n1, .slice a1 l1 c1, .int .i64 e1], .agg #[.bool n2, .slice a2 l2 c2, .int .i64 e2]] W fun r w' => DyOut (z1 + z2) e W.heap.size r w' ∧ Below W.heap.size W w') := fun W hW => added_dy n1 n2 a1 a2 l1 l2 c1 c2 N e1 e2 z1 z2 e W (h1.below hW) (h2.below hW) hz1 hz2 hN he1 he2 (hT.below hs hW) (Nat.lt_of_lt_of_le hs hW.size)
  obtain ⟨W0, hW0⟩ : ∃ W0, Hid (AdW w n1 n2 a1 a2 l1 l2 c1 c2 e1 e2 = W0) := ⟨_, rfl⟩
  have hW0' : AdW w n1 n2 a1 a2 l1 l2 c1 c2 e1 e2 = W0 := hW0.out
  rw [hW0'] at f1 f2 f3 f4 f5
  unfold AdW AlW DyBox at hW0'
  have HF := hid (And.intro f1 (And.intro f2 (And.intro f3 (And.intro f4 f5))))
  have hc1 := dcells_of f3
  have hc2 := dcells_of f4
  unfold DCells at hc1 hc2
  obtain ⟨p10, p11, p12⟩ := hc1
  obtain ⟨p20, p21, p22⟩ := hc2
  clear h1 h2 hz1 hz2 hN he1 he2 hT hs f1 f2 f3 f4 f5
  go_enter Tryz.func26, Tryz.ntmps26
  go_wp2_with fail
  refine (HM1.out _ HF.out.2.1).mono ?_
  rintro r w1 ⟨rfl, hb1⟩
  have HB1 := hid hb1
  have HR1 : Hid (Res (w.heap.size + 1 + 1) W0 w1) := Res.call ⟨But.refl _ _, _, _, _, HF.out.2.2.2.2⟩ hb1
  have HBW1 : Hid (Below w.heap.size w w1) := HF.out.2.1.trans (hb1.mono HF.out.2.1.size)
  have q10 : w1.cell? ⟨w.heap.size, 0, none⟩ = some (.bool n1) := HR1.out.but.cell p10 (by omega)
  have q11 : w1.cell? ⟨w.heap.size, 1, none⟩ = some (.slice a1 l1 c1) := HR1.out.but.cell p11 (by omega)
  have q12 : w1.cell? ⟨w.heap.size, 2, none⟩ = some (.int .i64 e1) := HR1.out.but.cell p12 (by omega)
  have q20 : w1.cell? ⟨w.heap.size + 1, 0, none⟩ = some (.bool n2) := HR1.out.but.cell p20 (by omega)
  have q21 : w1.cell? ⟨w.heap.size + 1, 1, none⟩ = some (.slice a2 l2 c2) := HR1.out.but.cell p21 (by omega)
  have q22 : w1.cell? ⟨w.heap.size + 1, 2, none⟩ = some (.int .i64 e2) := HR1.out.but.cell p22 (by omega)
  clear hb1
  go_wp2_with fail
  refine (HM2.out _ HBW1.out).mono ?_
  rintro r w2 ⟨rfl, hb2⟩
  have HR2 : Hid (Res (w.heap.size + 1 + 1) W0 w2) := HR1.out.call hb2
  have HBW2 : Hid (Below w.heap.size w w2) := HBW1.out.trans (hb2.mono HBW1.out.size)
  have r10 : w2.cell? ⟨w.heap.size, 0, none⟩ = some (.bool n1) := HR2.out.but.cell p10 (by omega)
  have r11 : w2.cell? ⟨w.heap.size, 1, none⟩ = some (.slice a1 l1 c1) := HR2.out.but.cell p11 (by omega)
  have r12 : w2.cell? ⟨w.heap.size, 2, none⟩ = some (.int .i64 e1) := HR2.out.but.cell p12 (by omega)
  have r20 : w2.cell? ⟨w.heap.size + 1, 0, none⟩ = some (.bool n2) := HR2.out.but.cell p20 (by omega)
  have r21 : w2.cell? ⟨w.heap.size + 1, 1, none⟩ = some (.slice a2 l2 c2) := HR2.out.but.cell p21 (by omega)
  have r22 : w2.cell? ⟨w.heap.size + 1, 2, none⟩ = some (.int .i64 e2) := HR2.out.but.cell p22 (by omega)
  have hz2 : w.heap.size + 1 + 1 < w2.heap.size := HR2.out.facts.2.1
  clear hb2 q10 q11 q12 q20 q21 q22
  go_wp2_with fail
  refine (HAD.out _ HBW2.out).mono ?_
  rintro r w3 ⟨ho, hb3⟩
  obtain ⟨neg', b', k', d', x', rfl, hr⟩ := ho.ret
  have HR3 : Hid (Res (w.heap.size + 1 + 1) W0 w3) := HR2.out.call hb3
  have HRT : Hid (DyRet (z1 + z2) e (w.heap.size + 1 + 1 + 1) neg' b' k' d' x' w3) := DyOut.but hr (But.refl (w.heap.size + 1 + 1) _) hz2 hz2
  obtain ⟨fz, _, v0, v1, v2, c0, c1', c2'⟩ := HR3.out.facts
  have HBF := hid HF.out.2.1
  clear hr ho hb3 HF
  go_wp2
  exact bodyPost_ret (v := .tuple #[.agg #[.bool neg', .slice b' k' d', .int .i64 x'], .int .i64 0]) (by simp [results, Tryz.results26, go_sem, c0, c1', c2']) rfl (res_end HBF.out (by omega) HRT HR3)
end Go.Proofs.YtphdinjmkhefmaaGreatDoor

namespace Go.Proofs.YtphdinjmkhefmaaGreatDoor
open Go.RowKit Go.IntWalk

/-- A variable that holds a dyad. -/
def DyVar (W : World) (b : Nat) (neg : Bool) (a : Option Addr) (n cap : Nat) (e' z e : Int) : Prop := W.heap[b]? = some (DyBox neg a n cap e') ∧ DyAt W neg a n cap e' z e
theorem DyVar.below {W W' : World} {b : Nat} {neg : Bool} {a : Option Addr} {n cap : Nat} {e' z e : Int} (h : DyVar W b neg a n cap e' z e) (hb : Below W.heap.size W W') : DyVar W' b neg a n cap e' z e :=
  ⟨by rw [hb.block b (Array.getElem?_eq_some_iff.1 h.1).1]; exact h.1, h.2.below hb⟩
theorem DyVar.new {Z e e' : Int} {B : Nat} {neg : Bool} {a : Option Addr} {n cap : Nat} {w : World} (h : DyRet Z e B neg a n cap e' w) : DyVar (w.alloc (DyBox neg a n cap e')) w.heap.size neg a n cap e' Z e :=
  ⟨new_blk _ _ _ rfl, h.at.below ((Below.refl _ _).alloc (Nat.le_refl _) _)⟩
theorem DyVar.cells {W : World} {b : Nat} {neg : Bool} {a : Option Addr} {n cap : Nat} {e' z e : Int} (h : DyVar W b neg a n cap e' z e) : W.cell? ⟨b, 0, none⟩ = some (.bool neg) ∧ W.cell? ⟨b, 1, none⟩ = some (.slice a n cap) ∧ W.cell? ⟨b, 2, none⟩ = some (.int .i64 e') := dcells_of h.1
theorem abs_add {a b : Int} {n : Nat} (ha : a.natAbs < 2 ^ n) (hb : b.natAbs < 2 ^ n) : (a + b).natAbs < 2 ^ (n + 1) := by
  have := Int.natAbs_add_le a b
  rw [Nat.pow_succ]
  omega
theorem abs_mul {a b : Int} {n m : Nat} (ha : a.natAbs < 2 ^ n) (hb : b.natAbs < 2 ^ m) : (a * b).natAbs < 2 ^ (n + m) := by
  rw [Int.natAbs_mul, Nat.pow_add]
  have h1 : a.natAbs * b.natAbs ≤ a.natAbs * 2 ^ m := Nat.mul_le_mul_left _ (Nat.le_of_lt hb)
  have h2 : a.natAbs * 2 ^ m < 2 ^ n * 2 ^ m := Nat.mul_lt_mul_of_pos_right ha (Nat.two_pow_pos m)
  omega
theorem abs_more {a : Int} {n m : Nat} (ha : a.natAbs < 2 ^ n) (h : n ≤ m) : a.natAbs < 2 ^ m := Nat.lt_of_lt_of_le ha (Nat.pow_le_pow_right (by decide) h)
def kN : Nat := 2098
theorem kN_is : kN = 2098 := rfl
/-- A finite number in steps of 2^-1074. -/
theorem sv_parts (x : Nat) (hf : x % 9223372036854775808 < 9218868437227405312) : ∃ k : Nat, sgnN (pNeg x) (pMant x) * 2 ^ k = sv x ∧ pExp x - k = -1074 ∧ (sv x).natAbs < 2 ^ kN ∧ pErr x = 0 ∧ -1074 ≤ pExp x ∧ pExp x ≤ 2000 ∧ pMant x < 18446744073709551616 := by
  obtain ⟨v1, v2, v3, v4, v5⟩ := parts_val x hf
  have hN : pNeg x = decide (9223372036854775808 ≤ x) := by unfold pNeg; rw [if_neg v1, v2]
  have hE : pErr x = 0 := by unfold pErr; rw [if_neg v1]
  have hsv : sv x = sgnN (pNeg x) (nv (x % 9223372036854775808)) := by
    unfold sv sgnN
    rw [hN]
    by_cases c : 9223372036854775808 ≤ x
    · rw [if_pos c, decide_eq_true c, if_pos rfl]
    · rw [if_neg c, decide_eq_false c, if_neg (by decide)]
  have habs : (sv x).natAbs = nv (x % 9223372036854775808) := by
    rw [hsv]
    unfold sgnN
    split <;> simp
  by_cases h0 : mantOf x = 0
  · have hx0 := v4.1 h0
    have hm : pMant x = 0 := by
      unfold pMant
      rw [if_neg v1, h0]
      exact Nat.zero_div _
    have hp : pExp x = 0 := by unfold pExp; rw [if_pos (Or.inr h0)]
    have hz : sv x = 0 := by
      rw [hsv, hx0, nv_zero]
      unfold sgnN
      split <;> rfl
    refine ⟨1074, ?_, by rw [hp]; rfl, ?_, hE, by rw [hp]; decide, by rw [hp]; decide, by rw [hm]; decide⟩
    · rw [hm, hz]
      have : sgnN (pNeg x) 0 = 0 := by unfold sgnN; split <;> rfl
      rw [this, Int.zero_mul]
    · rw [hz, Int.natAbs_zero]; exact Nat.two_pow_pos kN
  · obtain ⟨p1, p2, p3, p4, p5, p6⟩ := v5 h0
    have hbp := bitLen_pos p1
    refine ⟨(pExp x + 1074).toNat, ?_, by omega, ?_, hE, p2, by omega, p6⟩
    · rw [hsv, p3]
      obtain ⟨k, hk⟩ : ∃ k, (pExp x + 1074).toNat = k := ⟨_, rfl⟩
      rw [hk]
      unfold sgnN
      split
      · rw [Int.natCast_mul, Int.natCast_pow, Int.neg_mul]; rfl
      · rw [Int.natCast_mul, Int.natCast_pow]; rfl
    · rw [habs, p3]
      have h1 : pMant x < 2 ^ bitLen (pMant x) := bitLen_hi _
      have h2 : pMant x * 2 ^ (pExp x + 1074).toNat < 2 ^ bitLen (pMant x) * 2 ^ (pExp x + 1074).toNat := Nat.mul_lt_mul_of_pos_right h1 (Nat.two_pow_pos _)
      rw [← Nat.pow_add] at h2
      have hk := kN_is
      exact Nat.lt_of_lt_of_le h2 (Nat.pow_le_pow_right (by decide) (by omega))
/-- dyad's Of of a finite number. -/
theorem Of_fin (x : Nat) (w : World) (hx : x < 18446744073709551616) (hf : x % 9223372036854775808 < 9218868437227405312) (hT : Tab w) (hg : 2 < w.heap.size) (hT3 : Tab32 w) (hs : 1 < w.heap.size) :
    Calls Tryz.prog 25 #[.float .f64 x] w fun r w' => DyOut (sv x) (-1074) w.heap.size r w' ∧ Below w.heap.size w w' := by
  obtain ⟨k, k1, k2, k3, k4, k5, k6, k7⟩ := sv_parts x hf
  refine (Of_parts x (pMant x) (pNeg x) (pExp x) w k7 (by omega) (by omega) hT3 hs (fun W hW => ?_)).mono ?_
  · have := Parts_any x W hx (hT.below hg hW) (Nat.lt_of_lt_of_le hg hW.size)
    rw [k4] at this
    exact this
  · rintro r w' ⟨ho, hb⟩
    have := ho.low k
    rw [k1, k2] at this
    exact ⟨this, hb⟩
set_option maxHeartbeats 400000 in
/-- Of what is not finite. -/
theorem Of_not (x : Nat) (w : World) (hx : x < 18446744073709551616) (he : pErr x = 4) (hT : Tab w) (hg : 2 < w.heap.size) :
    Calls Tryz.prog 25 #[.float .f64 x] w fun r w' => r = .returned (.tuple #[.agg #[.bool false, .slice none 0 0, .int .i64 0], .int .i64 4]) ∧ Below w.heap.size w w' := by
  have HP : Hid (∀ W, Below w.heap.size w W → Calls Tryz.prog 29 #[.float .f64 x] W fun r w' => r = .returned (.tuple #[.agg #[.bool (pNeg x), .int .u64 (pMant x), .int .i64 (pExp x)], .int .i64 4]) ∧ Below W.heap.size W w') := fun W hW => by
    have := Parts_any x W hx (hT.below hg hW) (Nat.lt_of_lt_of_le hg hW.size)
    rw [he] at this
    exact this
  obtain ⟨n, hn⟩ : ∃ n, Hid (pNeg x = n) := ⟨_, rfl⟩
  obtain ⟨m, hm⟩ : ∃ m, Hid (pMant x = m) := ⟨_, rfl⟩
  obtain ⟨E, hE⟩ : ∃ E, Hid (pExp x = E) := ⟨_, rfl⟩
  rw [hn.out, hm.out, hE.out] at HP
  clear hx he hT hg
  go_enter Tryz.func25, Tryz.ntmps25
  go_wp2_with fail
  refine (HP.out _ ((Below.refl _ _).alloc (Nat.le_refl _) _)).mono ?_
  rintro r w1 ⟨rfl, hb1⟩
  have hsz : w.heap.size < w1.heap.size := by have := hb1.size; simp at this; omega
  obtain ⟨hc, hf⟩ := bcell hb1
  have HB1 : Hid (Below w.heap.size w w1) := ((Below.refl _ _).alloc (Nat.le_refl _) _).trans (hb1.mono (by simp))
  clear hb1
  go_wp2
  exact bodyPost_ret (v := .tuple #[.agg #[.bool false, .slice none 0 0, .int .i64 0], .int .i64 4]) (by simp [results, Tryz.results25, go_sem, hc, hsz]) rfl ⟨rfl, Below.alloc (Below.setCell (Below.setCell (Below.setCell HB1.out (Nat.le_refl _) _) (Nat.le_refl _) _) (Nat.le_refl _) _) (by simp [World.setCell]; omega) _⟩
end Go.Proofs.YtphdinjmkhefmaaGreatDoor

namespace Go.Proofs.YtphdinjmkhefmaaGreatDoor
open Go.RowKit Go.IntWalk

/-- At a block lies the number v, and v * 2^e is z * 2^B. -/
def ExV (w : World) (p : Nat) (e B z : Int) (bd : Nat) : Prop := ∃ v : Int, ∃ k : Nat, NumAt w p v bd ∧ e = B + k ∧ z = v * 2 ^ k
theorem ExV.below {w w' : World} {p : Nat} {e B z : Int} {bd : Nat} (h : ExV w p e B z bd) (hb : Below w.heap.size w w') : ExV w' p e B z bd := by
  obtain ⟨v, k, h1, h2, h3⟩ := h
  exact ⟨v, k, h1.below hb, h2, h3⟩
theorem ExV.more {w : World} {p : Nat} {e B z : Int} {bd b2 : Nat} (h : ExV w p e B z bd) (hb : bd ≤ b2) : ExV w p e B z b2 := by
  obtain ⟨v, k, h1, h2, h3⟩ := h
  exact ⟨v, k, h1.more hb, h2, h3⟩
theorem xof_val (x : Nat) (fx : x % 9223372036854775808 < 9218868437227405312) : ∃ k : Nat, pExp x = -1074 + (k : Int) ∧ sv x = sgnN (pNeg x) (pMant x) * 2 ^ k ∧ pMant x < 18446744073709551616 := by
  obtain ⟨k, k1, k2, k3, k4, k5, k6, k7⟩ := sv_parts x fx
  exact ⟨k, by omega, k1.symm, k7⟩
theorem two_blk (w : World) (A B : Obj) : ((w.alloc A).alloc B).heap[w.heap.size]? = some A ∧ ((w.alloc A).alloc B).heap[w.heap.size + 1]? = some B := by
  have h1 : (w.alloc A).heap.size = w.heap.size + 1 := by simp
  constructor
  · rw [((Below.refl (w.alloc A).heap.size (w.alloc A)).alloc (Nat.le_refl _) B).block w.heap.size (by omega)]
    exact new_blk w A _ rfl
  · exact new_blk (w.alloc A) B _ h1.symm
/-- What a number's words can't lie in: a block that holds none. -/
def NoWord (w : World) (b : Nat) : Prop := ∀ o n, w.cell? ⟨b, o, none⟩ ≠ some (.int .u32 n)
theorem NumAt.away {w w' : World} {p b : Nat} {v : Int} {bd : Nat} (h : NumAt w p v bd) (hb : But b w w') (hp : p ≠ b) (hx : NoWord w b) : NumAt w' p v bd := by
  obtain ⟨neg, L, h1, h2, a, cap, ho, hcap, hm, hd, hc, hn⟩ := h
  refine ⟨neg, L, h1, h2, a, cap, (hb.block p (int_cells ho).2.2.2 hp).trans ho, hcap, fun i hi => ?_, hd, hc, hn⟩
  obtain ⟨b', off, e1, e2, e3⟩ := hm i hi
  refine ⟨b', off, e1, Nat.lt_of_lt_of_le e2 hb.size, hb.cell e3 ?_⟩
  intro c
  subst c
  exact hx _ _ e3
theorem noword_ex {w : World} {b : Nat} {q : Option Addr} {e : Int} {T : TypeId} (h : w.heap[b]? = some (.cells #[.pointer q, .int .i64 e] T)) : NoWord w b := by
  intro o n hc
  simp only [World.cell?, h] at hc
  match o, hc with
  | 0, hc => simp at hc
  | 1, hc => simp at hc
  | o + 2, hc => simp at hc
set_option maxRecDepth 4000 in
set_option maxHeartbeats 1000000 in
theorem xOf_core (x m : Nat) (neg : Bool) (E e4 : Int) (w : World) (hm : m < 18446744073709551616)
    (hP : ∀ W, Calls Tryz.prog 38 #[.float .f64 x] W fun r w' => r = .returned (.tuple #[.agg #[.bool neg, .int .u64 m, .int .i64 E], .int .i64 e4]) ∧ Below W.heap.size W w') :
    Calls Tryz.prog 21 #[.float .f64 x] w fun r w' => ∃ p, r = .returned (.agg #[.pointer (some ⟨p, 0, none⟩), .int .i64 E]) ∧ w.heap.size ≤ p ∧ NumAt w' p (sgnN neg m) 2 ∧ Below w.heap.size w w' := by
  have HP := hid hP
  clear hP
  go_enter Tryz.func21, Tryz.ntmps21
  go_wp2_with fail
  refine (HP.out _).mono ?_
  rintro r w1 ⟨rfl, hb1⟩
  have hsz1 : w.heap.size < w1.heap.size := by have := hb1.size; simp at this; omega
  have HB1 : Hid (Below w.heap.size w w1) := ((Below.refl _ _).alloc (Nat.le_refl _) _).trans (hb1.mono (by simp))
  have hbx1 : w1.heap[w.heap.size]? = some (.cells #[.pointer none, .int .i64 0] 34) := by rw [hb1.block _ (by simp)]; exact new_blk _ _ _ rfl
  clear hb1
  obtain ⟨V0, hV0⟩ : ∃ V, Hid ((w1.alloc (.cells #[.bool neg, .int .u64 m, .int .i64 E] 50)).alloc (.cells #[.bool false, .slice none 0 0] 57) = V) := ⟨_, rfl⟩
  have HZ : Hid (ZOk (w1.heap.size + 1) V0 V0) := by
    rw [← hV0.out]
    exact fresh_zok' _ _ (by simp)
  have HB0 : Hid (Below w.heap.size w V0) := by
    rw [← hV0.out]
    exact (HB1.out.alloc (Nat.le_of_lt hsz1) _).alloc (by simp; omega) _
  have HS0 : Hid (V0.heap.size = w1.heap.size + 2) := by
    show V0.heap.size = _
    rw [← hV0.out]
    simp
  have HK : Hid (∀ W, But (w1.heap.size + 1) V0 W → (W.cell? ⟨w1.heap.size, 0, none⟩ = some (.bool neg) ∧ W.cell? ⟨w1.heap.size, 1, none⟩ = some (.int .u64 m) ∧ W.cell? ⟨w1.heap.size, 2, none⟩ = some (.int .i64 E)) ∧ W.heap[w.heap.size]? = some (.cells #[.pointer none, .int .i64 0] 34)) := fun W hW => by
    obtain ⟨b1, b2⟩ := two_blk w1 (.cells #[.bool neg, .int .u64 m, .int .i64 E] 50) (.cells #[.bool false, .slice none 0 0] 57)
    rw [hV0.out] at b1 b2
    have e1 := (hW.block w1.heap.size (by rw [HS0.out]; omega) (by omega)).trans b1
    refine ⟨⟨by simp [World.cell?, e1], by simp [World.cell?, e1], by simp [World.cell?, e1]⟩, ?_⟩
    rw [hW.block w.heap.size (by rw [HS0.out]; omega) (by omega), ← hV0.out]
    show ((w1.alloc _).alloc _).heap[w.heap.size]? = _
    rw [((Below.refl w1.heap.size w1).alloc (Nat.le_refl _) _ |>.alloc (by simp) _).block _ hsz1]
    exact hbx1
  go_wp2_with fail
  rw [hV0.out]
  refine (NSetU _ m _ HZ.out hm).mono ?_
  rintro r w2 ⟨rfl, hn2, hbt2⟩
  have HN2 := hid hn2
  have HBT2 := hid hbt2
  obtain ⟨⟨p0, p1, p2⟩, hx2⟩ := HK.out _ hbt2
  have HX2 := hid hx2
  clear hn2 hbt2
  cases neg
  · have q0 : w2.cell? ⟨w.heap.size, 0, none⟩ = some (.pointer none) := by simp [World.cell?, hx2]
    have q1 : w2.cell? ⟨w.heap.size, 1, none⟩ = some (.int .i64 0) := by simp [World.cell?, hx2]
    have q2 : ∀ o, w2.frozen? ⟨w.heap.size, o, none⟩ = false := fun o => by simp [World.frozen?, hx2]
    clear hx2
    have HNW : Hid (NoWord w2 w.heap.size) := noword_ex HX2.out
    have HBE : Hid (Below w.heap.size w w2) := HB0.out.trans (HBT2.out.below HB0.out.size (by omega))
    go_wp2
    exact bodyPost_ret (v := .agg #[.pointer (some ⟨w1.heap.size + 1, 0, none⟩), .int .i64 E]) (by simp [results, Tryz.results21, go_sem, q0, q1]) rfl ⟨w1.heap.size + 1, rfl, by omega, HN2.out.away (But.setCell (But.setCell (But.refl _ _) 0 _) 1 _) (by omega) HNW.out, Below.setCell (Below.setCell HBE.out (Nat.le_refl _) _) (Nat.le_refl _) _⟩
  · have HZ2 : Hid (ZOk (w1.heap.size + 1) w2 w2) := HN2.out.zok
    go_wp2_with fail
    refine (NNeg _ _ _ _ _ HZ2.out HN2.out (by decide)).mono ?_
    rintro r w3 ⟨rfl, hn3, hbt3⟩
    have HN3 := hid hn3
    have HBT3 := hid (HBT2.out.trans hbt3)
    obtain ⟨⟨r0, r1, r2⟩, hx3⟩ := HK.out _ HBT3.out
    have HX3 := hid hx3
    have q0 : w3.cell? ⟨w.heap.size, 0, none⟩ = some (.pointer none) := by simp [World.cell?, hx3]
    have q1 : w3.cell? ⟨w.heap.size, 1, none⟩ = some (.int .i64 0) := by simp [World.cell?, hx3]
    have q2 : ∀ o, w3.frozen? ⟨w.heap.size, o, none⟩ = false := fun o => by simp [World.frozen?, hx3]
    have HNW : Hid (NoWord w3 w.heap.size) := noword_ex HX3.out
    have HBE : Hid (Below w.heap.size w w3) := HB0.out.trans (HBT3.out.below HB0.out.size (by omega))
    clear hn3 hbt3 hx3 p0 p1 p2
    go_wp2
    exact bodyPost_ret (v := .agg #[.pointer (some ⟨w1.heap.size + 1, 0, none⟩), .int .i64 E]) (by simp [results, Tryz.results21, go_sem, q0, q1]) rfl ⟨w1.heap.size + 1, rfl, by omega, HN3.out.away (But.setCell (But.setCell (But.refl _ _) 0 _) 1 _) (by omega) HNW.out, Below.setCell (Below.setCell HBE.out (Nat.le_refl _) _) (Nat.le_refl _) _⟩
/-- Of of a finite number, in steps of 2^-1074. -/
theorem xOf_fin (x : Nat) (w : World) (hx : x < 18446744073709551616) (fx : x % 9223372036854775808 < 9218868437227405312) :
    Calls Tryz.prog 21 #[.float .f64 x] w fun r w' => ∃ p e, r = .returned (.agg #[.pointer (some ⟨p, 0, none⟩), .int .i64 e]) ∧ (-1074 ≤ e ∧ e ≤ 2000) ∧ ExV w' p e (-1074) (sv x) 2 ∧ Below w.heap.size w w' := by
  obtain ⟨k, k1, k2, k3, k4, k5, k6, k7⟩ := sv_parts x fx
  refine (xOf_core x (pMant x) (pNeg x) (pExp x) (pErr x) w k7 (fun W => rParts_any x W hx)).mono ?_
  rintro r w' ⟨p, rfl, hp, hn, hb⟩
  exact ⟨p, pExp x, rfl, ⟨k5, k6⟩, ⟨_, k, hn, by omega, k1.symm⟩, hb⟩
end Go.Proofs.YtphdinjmkhefmaaGreatDoor
