
/- Chapter 3's first examples hold. -/
import Derived.Test.YtnhggfmpajnapaaDoorDyL
import Derived.Test.YtnhggfmpajnapaaDoorBigLen
import Derived.Test.YtnhggfmpajnapaaDoorWordAll
import Derived.Test.YtnhggfmpajnapaaDoorExact
namespace Go.Proofs.YtnhggfmpajnapaaDoor
open Go.RowKit Go.IntWalk

theorem intL_not (n : Bool) (L : List Nat) : intL (!n) L = -intL n L := by unfold intL; cases n <;> simp
/-- added of the other sign, by what the dyads stand for. -/
theorem added_neg (n1 n2 : Bool) (a1 a2 : Option Addr) (l1 l2 c1 c2 N : Nat) (e1 e2 z1 z2 e : Int) (w : World) (h1 : DyAt w n1 a1 l1 c1 e1 z1 e) (h2 : DyAt w n2 a2 l2 c2 e2 z2 e) (hz1 : z1.natAbs < 2 ^ N) (hz2 : z2.natAbs < 2 ^ N) (hN : N ≤ 6400) (he1 : -3000 ≤ e) (he2 : e ≤ 3000) (hT : Tab32 w) (hs : 1 < w.heap.size) :
    Calls Tryd.prog 42 #[.agg #[.bool n1, .slice a1 l1 c1, .int .i64 e1], .agg #[.bool (!n2), .slice a2 l2 c2, .int .i64 e2]] w fun r w' => DyOut (z1 - z2) e w.heap.size r w' ∧ Below w.heap.size w w' := by
  obtain ⟨L1, rfl, _, m1, v1, _⟩ := h1
  obtain ⟨L2, rfl, _, m2, v2, _⟩ := h2
  obtain ⟨s1, s2, s3⟩ := v1.size hz1 hN he1 he2
  obtain ⟨t1, t2, t3⟩ := v2.size hz2 hN he1 he2
  obtain ⟨m, hm⟩ : ∃ m, min e1 e2 = m := ⟨_, rfl⟩
  obtain ⟨i, hi⟩ := Int.eq_ofNat_of_zero_le (show 0 ≤ e1 - m by omega)
  obtain ⟨j, hj⟩ := Int.eq_ofNat_of_zero_le (show 0 ≤ e2 - m by omega)
  refine (added_any n1 (!n2) L1 L2 a1 a2 c1 c2 i j 600 e1 e2 m w m1 m2 v1.1 v2.1 (by omega) (by omega) (by decide) hm hi hj (by omega) (by omega) hT hs).mono ?_
  rintro r w' ⟨ho, hb⟩
  have g1 : (z1 = 0 ∧ intL n1 L1 = 0) ∨ ∃ k : Nat, intL n1 L1 * 2 ^ k = z1 ∧ e1 = e + k := by
    rcases v1.val with ⟨z0, l0, m0, x0⟩ | ⟨_, _, _, k, hk⟩
    · exact Or.inl ⟨z0, by rw [l0, m0]; rfl⟩
    · exact Or.inr ⟨k, hk⟩
  have g2 : (-z2 = 0 ∧ intL (!n2) L2 = 0) ∨ ∃ k : Nat, intL (!n2) L2 * 2 ^ k = -z2 ∧ e2 = e + k := by
    rw [intL_not]
    rcases v2.val with ⟨z0, l0, m0, x0⟩ | ⟨_, _, _, k, hk⟩
    · exact Or.inl ⟨by omega, by rw [l0, m0]; rfl⟩
    · exact Or.inr ⟨k, by rw [Int.neg_mul, hk.1], hk.2⟩
  obtain ⟨p, q, q1, q2⟩ := sum_conv _ _ z1 (-z2) e e1 e2 m i j hi hj g1 g2
  exact ⟨ho.conv q1 q2, hb⟩
set_option maxRecDepth 4000 in
set_option maxHeartbeats 2000000 in
theorem Sub_dy (n1 n2 : Bool) (a1 a2 : Option Addr) (l1 l2 c1 c2 N : Nat) (e1 e2 z1 z2 e : Int) (w : World) (h1 : DyAt w n1 a1 l1 c1 e1 z1 e) (h2 : DyAt w n2 a2 l2 c2 e2 z2 e) (hz1 : z1.natAbs < 2 ^ N) (hz2 : z2.natAbs < 2 ^ N) (hN : N ≤ 6400) (he1 : -3000 ≤ e) (he2 : e ≤ 3000) (hT : Tab32 w) (hs : 1 < w.heap.size) :
    Calls Tryd.prog 14 #[.agg #[.bool n1, .slice a1 l1 c1, .int .i64 e1], .agg #[.bool n2, .slice a2 l2 c2, .int .i64 e2]] w fun r w' => DyOut (z1 - z2) e w.heap.size r w' ∧ Below w.heap.size w w' := by
  obtain ⟨f1, f2, f3, f4, f5⟩ := AdW.facts w n1 n2 a1 a2 l1 l2 c1 c2 e1 e2
  have HM1 : Hid (∀ W, Below w.heap.size w W → Calls Tryd.prog 28 #[.agg #[.bool n1, .slice a1 l1 c1, .int .i64 e1]] W fun r w' => r = .returned (.bool true) ∧ Below W.heap.size W w') := fun W hW => (h1.below hW).may
  have HM2 : Hid (∀ W, Below w.heap.size w W → Calls Tryd.prog 28 #[.agg #[.bool n2, .slice a2 l2 c2, .int .i64 e2]] W fun r w' => r = .returned (.bool true) ∧ Below W.heap.size W w') := fun W hW => (h2.below hW).may
  have HAD : Hid (∀ W, Below w.heap.size w W → Calls Tryd.prog 42 #[.agg #[.bool n1, .slice a1 l1 c1, .int .i64 e1], .agg #[.bool (!n2), .slice a2 l2 c2, .int .i64 e2]] W fun r w' => DyOut (z1 - z2) e W.heap.size r w' ∧ Below W.heap.size W w') := fun W hW => added_neg n1 n2 a1 a2 l1 l2 c1 c2 N e1 e2 z1 z2 e W (h1.below hW) (h2.below hW) hz1 hz2 hN he1 he2 (hT.below hs hW) (Nat.lt_of_lt_of_le hs hW.size)
  obtain ⟨W0, hW0⟩ : ∃ W0, Hid (AdW w n1 n2 a1 a2 l1 l2 c1 c2 e1 e2 = W0) := ⟨_, rfl⟩
  have hW0' : AdW w n1 n2 a1 a2 l1 l2 c1 c2 e1 e2 = W0 := hW0.out
  rw [hW0'] at f1 f2 f3 f4 f5
  unfold AdW AlW DyBox at hW0'
  have HF := hid (And.intro f1 (And.intro f2 (And.intro f3 (And.intro f4 f5))))
  have hc1 := dcells_of f3
  have hc2 := dcells_of f4
  unfold DCells at hc1 hc2
  obtain ⟨p10, p11, p12⟩ := hc1
  obtain ⟨p20, p21, p22⟩ := hc2
  clear h1 h2 hz1 hz2 hN he1 he2 hT hs f1 f2 f3 f4 f5
  go_enter Tryd.func14, Tryd.ntmps14
  go_wp2_with fail
  refine (HM1.out _ HF.out.2.1).mono ?_
  rintro r w1 ⟨rfl, hb1⟩
  have HB1 := hid hb1
  have HR1 : Hid (Res (w.heap.size + 1 + 1) W0 w1) := Res.call ⟨But.refl _ _, _, _, _, HF.out.2.2.2.2⟩ hb1
  have HBW1 : Hid (Below w.heap.size w w1) := HF.out.2.1.trans (hb1.mono HF.out.2.1.size)
  have q10 : w1.cell? ⟨w.heap.size, 0, none⟩ = some (.bool n1) := HR1.out.but.cell p10 (by omega)
  have q11 : w1.cell? ⟨w.heap.size, 1, none⟩ = some (.slice a1 l1 c1) := HR1.out.but.cell p11 (by omega)
  have q12 : w1.cell? ⟨w.heap.size, 2, none⟩ = some (.int .i64 e1) := HR1.out.but.cell p12 (by omega)
  have q20 : w1.cell? ⟨w.heap.size + 1, 0, none⟩ = some (.bool n2) := HR1.out.but.cell p20 (by omega)
  have q21 : w1.cell? ⟨w.heap.size + 1, 1, none⟩ = some (.slice a2 l2 c2) := HR1.out.but.cell p21 (by omega)
  have q22 : w1.cell? ⟨w.heap.size + 1, 2, none⟩ = some (.int .i64 e2) := HR1.out.but.cell p22 (by omega)
  clear hb1
  go_wp2_with fail
  refine (HM2.out _ HBW1.out).mono ?_
  rintro r w2 ⟨rfl, hb2⟩
  have HR2 : Hid (Res (w.heap.size + 1 + 1) W0 w2) := HR1.out.call hb2
  have HBW2 : Hid (Below w.heap.size w w2) := HBW1.out.trans (hb2.mono HBW1.out.size)
  have r10 : w2.cell? ⟨w.heap.size, 0, none⟩ = some (.bool n1) := HR2.out.but.cell p10 (by omega)
  have r11 : w2.cell? ⟨w.heap.size, 1, none⟩ = some (.slice a1 l1 c1) := HR2.out.but.cell p11 (by omega)
  have r12 : w2.cell? ⟨w.heap.size, 2, none⟩ = some (.int .i64 e1) := HR2.out.but.cell p12 (by omega)
  have r20 : w2.cell? ⟨w.heap.size + 1, 0, none⟩ = some (.bool n2) := HR2.out.but.cell p20 (by omega)
  have r21 : w2.cell? ⟨w.heap.size + 1, 1, none⟩ = some (.slice a2 l2 c2) := HR2.out.but.cell p21 (by omega)
  have r22 : w2.cell? ⟨w.heap.size + 1, 2, none⟩ = some (.int .i64 e2) := HR2.out.but.cell p22 (by omega)
  have hz2 : w.heap.size + 1 + 1 < w2.heap.size := HR2.out.facts.2.1
  have rf : ∀ o, w2.frozen? ⟨w.heap.size + 1, o, none⟩ = false := fun o => by
    have hb : w2.heap[w.heap.size + 1]? = some (DyBox n2 a2 l2 c2 e2) := by
      rw [hb2.block _ (by have := HR1.out.facts.2.1; omega), HB1.out.block _ (by rw [HF.out.1]; omega)]
      exact HF.out.2.2.2.1
    simp [World.frozen?, hb, DyBox]
  obtain ⟨W3, hW3⟩ : ∃ W3, Hid (w2.setCell ⟨w.heap.size + 1, 0, none⟩ (.bool (!n2)) = W3) := ⟨_, rfl⟩
  have HBW3 : Hid (Below w.heap.size w W3) := by rw [← hW3.out]; exact Below.setCell HBW2.out (by simp) _
  have HR3' : Hid (Res (w.heap.size + 1 + 1) W3 W3) := by
    obtain ⟨x0, x1, x2, hx⟩ := HR2.out.cells
    refine ⟨But.refl _ _, x0, x1, x2, ?_⟩
    rw [← hW3.out, Below.heap_setCell _ _ _ _ (by simp)]
    exact hx
  have hs3 : W3.heap.size = w2.heap.size := by rw [← hW3.out]; simp [World.setCell]
  have HN2 := hid (fun (c : Bool) (h : c = !n2) => h)
  clear hb2 q10 q11 q12 q20 q21 q22
  go_wp2_with fail
  rw [hW3.out]
  refine (HAD.out _ HBW3.out).mono ?_
  rintro r w3 ⟨ho, hb3⟩
  obtain ⟨neg', b', k', d', x', rfl, hr⟩ := ho.ret
  have HR3 : Hid (Res (w.heap.size + 1 + 1) W3 w3) := HR3'.out.call hb3
  have HRT : Hid (DyRet (z1 - z2) e (w.heap.size + 1 + 1 + 1) neg' b' k' d' x' w3) := DyOut.but hr (But.refl (w.heap.size + 1 + 1) _) (by rw [hs3]; exact hz2) (by rw [hs3]; exact hz2)
  obtain ⟨fz, _, v0, v1, v2, c0, c1', c2'⟩ := HR3.out.facts
  clear hr ho hb3 HF
  go_wp2
  exact bodyPost_ret (v := .tuple #[.agg #[.bool neg', .slice b' k' d', .int .i64 x'], .int .i64 0]) (by simp [results, Tryd.results14, go_sem, c0, c1', c2']) rfl (res_end HBW3.out (by omega) HRT HR3)
end Go.Proofs.YtnhggfmpajnapaaDoor

namespace Go.Proofs.YtnhggfmpajnapaaDoor
open Go.RowKit Go.IntWalk

theorem sgn_times (n1 n2 : Bool) (L1 L2 : List Nat) : sgnN (n1 != n2) (natL L1 * natL L2) = intL n1 L1 * intL n2 L2 := by
  unfold sgnN intL
  cases n1 <;> cases n2 <;> simp [Int.natCast_mul, Int.neg_mul, Int.mul_neg]
theorem prod_conv (i1 i2 z1 z2 ez1 ez2 e1 e2 : Int) (h1 : (z1 = 0 ∧ i1 = 0) ∨ ∃ k : Nat, i1 * 2 ^ k = z1 ∧ e1 = ez1 + k) (h2 : (z2 = 0 ∧ i2 = 0) ∨ ∃ k : Nat, i2 * 2 ^ k = z2 ∧ e2 = ez2 + k) : ∃ p q : Nat, i1 * i2 * 2 ^ p = z1 * z2 * 2 ^ q ∧ e1 + e2 - p = ez1 + ez2 - q := by
  have zero : i1 * i2 = 0 → z1 * z2 = 0 → ∃ p q : Nat, i1 * i2 * 2 ^ p = z1 * z2 * 2 ^ q ∧ e1 + e2 - p = ez1 + ez2 - q := fun a b => by
    refine ⟨(e1 + e2 - min (e1 + e2) (ez1 + ez2)).toNat, (ez1 + ez2 - min (e1 + e2) (ez1 + ez2)).toNat, by rw [a, b, Int.zero_mul, Int.zero_mul], by omega⟩
  rcases h1 with ⟨a, b⟩ | ⟨k, hk, hx⟩
  · exact zero (by rw [b, Int.zero_mul]) (by rw [a, Int.zero_mul])
  · rcases h2 with ⟨a, b⟩ | ⟨l, hl, hy⟩
    · exact zero (by rw [b, Int.mul_zero]) (by rw [a, Int.mul_zero])
    · refine ⟨k + l, 0, ?_, by omega⟩
      rw [Int.pow_zero, Int.mul_one, ← hk, ← hl, Int.pow_add, Int.mul_assoc, Int.mul_assoc, Int.mul_left_comm i2]
set_option maxRecDepth 4000 in
set_option maxHeartbeats 2000000 in
theorem Mul_dy (n1 n2 : Bool) (a1 a2 : Option Addr) (l1 l2 c1 c2 N : Nat) (e1 e2 z1 z2 ez1 ez2 : Int) (w : World) (h1 : DyAt w n1 a1 l1 c1 e1 z1 ez1) (h2 : DyAt w n2 a2 l2 c2 e2 z2 ez2) (hz1 : z1.natAbs < 2 ^ N) (hz2 : z2.natAbs < 2 ^ N) (hN : N ≤ 6400) (he1 : -3000 ≤ ez1) (he2 : ez1 ≤ 3000) (he3 : -3000 ≤ ez2) (he4 : ez2 ≤ 3000) (hT : Tab32 w) (hs : 1 < w.heap.size) :
    Calls Tryd.prog 13 #[.agg #[.bool n1, .slice a1 l1 c1, .int .i64 e1], .agg #[.bool n2, .slice a2 l2 c2, .int .i64 e2]] w fun r w' => DyOut (z1 * z2) (ez1 + ez2) w.heap.size r w' ∧ Below w.heap.size w w' := by
  obtain ⟨f1, f2, f3, f4, f5⟩ := AdW.facts w n1 n2 a1 a2 l1 l2 c1 c2 e1 e2
  have HM1 : Hid (∀ W, Below w.heap.size w W → Calls Tryd.prog 28 #[.agg #[.bool n1, .slice a1 l1 c1, .int .i64 e1]] W fun r w' => r = .returned (.bool true) ∧ Below W.heap.size W w') := fun W hW => (h1.below hW).may
  have HM2 : Hid (∀ W, Below w.heap.size w W → Calls Tryd.prog 28 #[.agg #[.bool n2, .slice a2 l2 c2, .int .i64 e2]] W fun r w' => r = .returned (.bool true) ∧ Below W.heap.size W w') := fun W hW => (h2.below hW).may
  have HTI : Hid (∀ W, Below w.heap.size w W → Calls Tryd.prog 43 #[.slice a1 l1 c1, .slice a2 l2 c2] W fun r w' => ∃ n a cap, r = .returned (.slice a n cap) ∧ Hid (∃ LS v, LS.length = n ∧ MagIs v 402 LS a cap w' ∧ ∃ p q : Nat, sgnN (n1 != n2) v * 2 ^ p = z1 * z2 * 2 ^ q ∧ e1 + e2 - p = ez1 + ez2 - q) ∧ Below W.heap.size W w') := fun W hW => by
    obtain ⟨L1, rfl, _, m1, v1, _⟩ := h1
    obtain ⟨L2, rfl, _, m2, v2, _⟩ := h2
    obtain ⟨s1, s2, s3⟩ := v1.size hz1 hN he1 he2
    obtain ⟨t1, t2, t3⟩ := v2.size hz2 hN he3 he4
    refine (dtimes_any L1 L2 a1 a2 c1 c2 W (m1.below hW) (m2.below hW) (by omega) (by omega) v1.1 v2.1).mono ?_
    rintro r w' ⟨⟨LS, a, cap, rfl, x1, x2, x3, x4, x5, x6⟩, hb⟩
    have g1 : (z1 = 0 ∧ intL n1 L1 = 0) ∨ ∃ k : Nat, intL n1 L1 * 2 ^ k = z1 ∧ e1 = ez1 + k := by
      rcases v1.val with ⟨z0, l0, m0, x0⟩ | ⟨_, _, _, k, hk⟩
      · exact Or.inl ⟨z0, by rw [l0, m0]; rfl⟩
      · exact Or.inr ⟨k, hk⟩
    have g2 : (z2 = 0 ∧ intL n2 L2 = 0) ∨ ∃ k : Nat, intL n2 L2 * 2 ^ k = z2 ∧ e2 = ez2 + k := by
      rcases v2.val with ⟨z0, l0, m0, x0⟩ | ⟨_, _, _, k, hk⟩
      · exact Or.inl ⟨z0, by rw [l0, m0]; rfl⟩
      · exact Or.inr ⟨k, hk⟩
    refine ⟨LS.length, a, cap, rfl, ⟨LS, natL L1 * natL L2, rfl, ⟨x1, by omega, x3, x4, x5, x6⟩, ?_⟩, hb⟩
    rw [sgn_times]
    exact prod_conv _ _ z1 z2 ez1 ez2 e1 e2 g1 g2
  have HEB : Hid (-6000 ≤ e1 + e2 ∧ e1 + e2 ≤ 18800) := by
    obtain ⟨L1, _, _, _, v1, _⟩ := h1
    obtain ⟨L2, _, _, _, v2, _⟩ := h2
    obtain ⟨s1, s2, s3⟩ := v1.size hz1 hN he1 he2
    obtain ⟨t1, t2, t3⟩ := v2.size hz2 hN he3 he4
    show -6000 ≤ e1 + e2 ∧ e1 + e2 ≤ 18800
    omega
  have HT := hid hT
  have HS := hid hs
  obtain ⟨W0, hW0⟩ : ∃ W0, Hid (AdW w n1 n2 a1 a2 l1 l2 c1 c2 e1 e2 = W0) := ⟨_, rfl⟩
  have hW0' : AdW w n1 n2 a1 a2 l1 l2 c1 c2 e1 e2 = W0 := hW0.out
  rw [hW0'] at f1 f2 f3 f4 f5
  unfold AdW AlW DyBox at hW0'
  have HF := hid (And.intro f1 (And.intro f2 (And.intro f3 (And.intro f4 f5))))
  have hc1 := dcells_of f3
  have hc2 := dcells_of f4
  unfold DCells at hc1 hc2
  obtain ⟨p10, p11, p12⟩ := hc1
  obtain ⟨p20, p21, p22⟩ := hc2
  clear h1 h2 hz1 hz2 hN he1 he2 he3 he4 hT hs f1 f2 f3 f4 f5
  go_enter Tryd.func13, Tryd.ntmps13
  go_wp2_with fail
  refine (HM1.out _ HF.out.2.1).mono ?_
  rintro r w1 ⟨rfl, hb1⟩
  have HB1 := hid hb1
  have HR1 : Hid (Res (w.heap.size + 1 + 1) W0 w1) := Res.call ⟨But.refl _ _, _, _, _, HF.out.2.2.2.2⟩ hb1
  have HBW1 : Hid (Below w.heap.size w w1) := HF.out.2.1.trans (hb1.mono HF.out.2.1.size)
  have q10 : w1.cell? ⟨w.heap.size, 0, none⟩ = some (.bool n1) := HR1.out.but.cell p10 (by omega)
  have q11 : w1.cell? ⟨w.heap.size, 1, none⟩ = some (.slice a1 l1 c1) := HR1.out.but.cell p11 (by omega)
  have q12 : w1.cell? ⟨w.heap.size, 2, none⟩ = some (.int .i64 e1) := HR1.out.but.cell p12 (by omega)
  have q20 : w1.cell? ⟨w.heap.size + 1, 0, none⟩ = some (.bool n2) := HR1.out.but.cell p20 (by omega)
  have q21 : w1.cell? ⟨w.heap.size + 1, 1, none⟩ = some (.slice a2 l2 c2) := HR1.out.but.cell p21 (by omega)
  have q22 : w1.cell? ⟨w.heap.size + 1, 2, none⟩ = some (.int .i64 e2) := HR1.out.but.cell p22 (by omega)
  clear hb1
  go_wp2_with fail
  refine (HM2.out _ HBW1.out).mono ?_
  rintro r w2 ⟨rfl, hb2⟩
  have HR2 : Hid (Res (w.heap.size + 1 + 1) W0 w2) := HR1.out.call hb2
  have HBW2 : Hid (Below w.heap.size w w2) := HBW1.out.trans (hb2.mono HBW1.out.size)
  have r10 : w2.cell? ⟨w.heap.size, 0, none⟩ = some (.bool n1) := HR2.out.but.cell p10 (by omega)
  have r11 : w2.cell? ⟨w.heap.size, 1, none⟩ = some (.slice a1 l1 c1) := HR2.out.but.cell p11 (by omega)
  have r12 : w2.cell? ⟨w.heap.size, 2, none⟩ = some (.int .i64 e1) := HR2.out.but.cell p12 (by omega)
  have r20 : w2.cell? ⟨w.heap.size + 1, 0, none⟩ = some (.bool n2) := HR2.out.but.cell p20 (by omega)
  have r21 : w2.cell? ⟨w.heap.size + 1, 1, none⟩ = some (.slice a2 l2 c2) := HR2.out.but.cell p21 (by omega)
  have r22 : w2.cell? ⟨w.heap.size + 1, 2, none⟩ = some (.int .i64 e2) := HR2.out.but.cell p22 (by omega)
  have hz2 : w.heap.size + 1 + 1 < w2.heap.size := HR2.out.facts.2.1
  obtain ⟨E, hE⟩ : ∃ E, Hid (e1 + e2 = E) := ⟨_, rfl⟩
  have hE1 : IntKind.i64.wrap (e1 + e2) = E := by have := HEB.out; have := hE.out; rw [IntWalk.i64_in _ (by omega)]; omega
  have hE2 : e1 + e2 = E := hE.out
  have hE3 : IntKind.i64.wrap E = E := by have := HEB.out; have := hE.out; rw [IntWalk.i64_in _ (by omega)]
  rw [hE.out] at HEB HTI
  obtain ⟨nn, hnn⟩ : ∃ nn, Hid ((n1 != n2) = nn) := ⟨_, rfl⟩
  have hnn' : (!(n1 == n2)) = nn := hnn.out
  rw [hnn.out] at HTI
  have HRR : Hid (Res (w.heap.size + 1 + 1) w2 w2) := ⟨But.refl _ _, HR2.out.cells⟩
  have HQ0 := res_dr HRR
  have HK : Hid (∀ W, Hid (Res (w.heap.size + 1 + 1) w2 W) → ((W.cell? ⟨w.heap.size, 0, none⟩ = some (.bool n1) ∧ W.cell? ⟨w.heap.size, 1, none⟩ = some (.slice a1 l1 c1) ∧ W.cell? ⟨w.heap.size, 2, none⟩ = some (.int .i64 e1)) ∧ (W.cell? ⟨w.heap.size + 1, 0, none⟩ = some (.bool n2) ∧ W.cell? ⟨w.heap.size + 1, 1, none⟩ = some (.slice a2 l2 c2) ∧ W.cell? ⟨w.heap.size + 1, 2, none⟩ = some (.int .i64 e2))) ∧ Hid (Res (w.heap.size + 1 + 1) w2 W)) := fun W hW => ⟨⟨⟨hW.out.but.cell r10 (by omega), hW.out.but.cell r11 (by omega), hW.out.but.cell r12 (by omega)⟩, ⟨hW.out.but.cell r20 (by omega), hW.out.but.cell r21 (by omega), hW.out.but.cell r22 (by omega)⟩⟩, hW⟩
  have HT2 : Hid (∀ W, Hid (Res (w.heap.size + 1 + 1) w2 W) → Calls Tryd.prog 43 #[.slice a1 l1 c1, .slice a2 l2 c2] W fun r w' => ∃ n a cap, r = .returned (.slice a n cap) ∧ Hid (∃ LS v, LS.length = n ∧ MagIs v 402 LS a cap w' ∧ ∃ p q : Nat, sgnN nn v * 2 ^ p = z1 * z2 * 2 ^ q ∧ E - p = ez1 + ez2 - q) ∧ Hid (Res (w.heap.size + 1 + 1) w2 w')) := fun W hW => by
    refine (HTI.out W (HBW2.out.trans (hW.out.but.below HBW2.out.size (by omega)))).mono ?_
    rintro r w' ⟨n, a, cap, rfl, hx, hb⟩
    exact ⟨n, a, cap, rfl, hx, hW.out.call hb⟩
  have HWR : Hid (∀ W n a cap, Hid (Res (w.heap.size + 1 + 1) w2 W) → Hid (∃ LS v, LS.length = n ∧ MagIs v 402 LS a cap W ∧ ∃ p q : Nat, sgnN nn v * 2 ^ p = z1 * z2 * 2 ^ q ∧ E - p = ez1 + ez2 - q) → Calls Tryd.prog 40 #[.bool nn, .slice a n cap, .int .i64 E] W fun r w' => ∃ neg' a' n' cap' e' v0 v1 v2, r = .returned (.tuple #[.agg #[.bool neg', .slice a' n' cap', .int .i64 e'], .int .i64 0]) ∧ Hid (DyRet (z1 * z2) (ez1 + ez2) (w.heap.size + 1 + 1 + 1) neg' a' n' cap' e' w') ∧ Hid (Res (w.heap.size + 1 + 1) w2 w') ∧ (∀ o, w'.frozen? ⟨w.heap.size + 1 + 1, o, none⟩ = false) ∧ w'.cell? ⟨w.heap.size + 1 + 1, 0, none⟩ = some v0 ∧ w'.cell? ⟨w.heap.size + 1 + 1, 1, none⟩ = some v1 ∧ w'.cell? ⟨w.heap.size + 1 + 1, 2, none⟩ = some v2) := fun W n a cap hW hM => by
    obtain ⟨LS, v, rfl, hM', p, q, q1, q2⟩ := hM.out
    refine (written_res (w.heap.size + 1 + 1) w w2 W nn v 402 LS a cap E hW.out HBW2.out (by omega) HT.out HS.out hM' (by decide) (by have := HEB.out; omega) (by have := HEB.out; omega)).mono ?_
    rintro r w' ⟨neg', a', n', cap', e', v0, v1, v2, hr, hd, hrest⟩
    exact ⟨neg', a', n', cap', e', v0, v1, v2, hr, DyOut.conv hd.out q1 q2, hrest⟩
  have HBF := HBW2
  clear hb2 q10 q11 q12 q20 q21 q22 HEB
  go_wp2_with fail
  go_region_held3 (fun W => ((W.cell? ⟨w.heap.size, 0, none⟩ = some (.bool n1) ∧ W.cell? ⟨w.heap.size, 1, none⟩ = some (.slice a1 l1 c1) ∧ W.cell? ⟨w.heap.size, 2, none⟩ = some (.int .i64 e1)) ∧ (W.cell? ⟨w.heap.size + 1, 0, none⟩ = some (.bool n2) ∧ W.cell? ⟨w.heap.size + 1, 1, none⟩ = some (.slice a2 l2 c2) ∧ W.cell? ⟨w.heap.size + 1, 2, none⟩ = some (.int .i64 e2))) ∧ Hid (Res (w.heap.size + 1 + 1) w2 W))
    ((refine HK.out _ ?_; first | assumption | exact HQ0 | exact res_dr (by assumption) | exact res_store (by assumption) _ _ _ | exact res_dr (res_store (by assumption) _ _ _)))
    (first
      | (go_at_call 43; with_reducible refine (HT2.out _ (And.right (by assumption))).mono ?_; rintro r w4 ⟨n', a', cap', rfl, HM4, HF4⟩)
      | (go_at_call 40; with_reducible refine (HWR.out _ _ _ _ (And.right (by assumption)) (by assumption)).mono ?_; rintro r w3 ⟨neg', b', k', d', x', v0, v1, v2, rfl, HRT, HF3, fz, c0, c1', c2'⟩))
  all_goals go_wp2
  all_goals exact bodyPost_ret (v := .tuple #[.agg #[.bool neg', .slice b' k' d', .int .i64 x'], .int .i64 0]) (by simp [results, Tryd.results13, go_sem, c0, c1', c2']) rfl (res_end HBF.out (by omega) HRT HF3)
end Go.Proofs.YtnhggfmpajnapaaDoor

namespace Go.Proofs.YtnhggfmpajnapaaDoor
open Go.RowKit Go.IntWalk

set_option maxRecDepth 4000 in
set_option maxHeartbeats 2000000 in
theorem Same_yes (neg : Bool) (L : List Nat) (a1 a2 : Option Addr) (c1 c2 : Nat) (e : Int) (w : World) (h1 : MagAt w a1 L) (h2 : MagAt w a2 L) (hn : L.length ≤ 1000000) :
    Calls Tryd.prog 15 #[.agg #[.bool neg, .slice a1 L.length c1, .int .i64 e], .agg #[.bool neg, .slice a2 L.length c2, .int .i64 e]] w fun r w' => r = .returned (.bool true) ∧ Below w.heap.size w w' := by
  have H1 := hid h1
  have H2 := hid h2
  obtain ⟨n, hnl⟩ : ∃ n, Hid (L.length = n) := ⟨_, rfl⟩
  rw [hnl.out] at hn ⊢
  obtain ⟨W0, hW0⟩ : ∃ W0, Hid (AlW w neg neg a1 a2 n n c1 c2 e e = W0) := ⟨_, rfl⟩
  have hW0' : AlW w neg neg a1 a2 n n c1 c2 e e = W0 := hW0.out
  have hs0 := AlW.size w neg neg a1 a2 n n c1 c2 e e
  have hb0 := AlW.below w neg neg a1 a2 n n c1 c2 e e
  obtain ⟨f3, f4⟩ := AlW.cells w neg neg a1 a2 n n c1 c2 e e
  rw [hW0'] at hs0 hb0 f3 f4
  unfold AlW DyBox at hW0'
  have hc1 := dcells_of f3
  have hc2 := dcells_of f4
  unfold DCells at hc1 hc2
  obtain ⟨p10, p11, p12⟩ := hc1
  obtain ⟨p20, p21, p22⟩ := hc2
  have HB0 := hid hb0
  have HS0 := hid hs0
  have hbe : (neg == neg) = true := by simp
  clear h1 h2 f3 f4 hb0 hs0
  go_enter Tryd.func15, Tryd.ntmps15
  go_wp2
  go_loopw [30] (fun i wr => ∃ k : Nat, k ≤ n ∧ i = .int .i64 k ∧ Hid (Below W0.heap.size W0 wr)) (fun i _ => n - (intOf i).toNat)
  case atStart => exact ⟨0, Nat.zero_le _, rfl, Below.refl _ _⟩
  case round =>
    obtain ⟨k, hk, rfl, HBW⟩ := hrel
    have hlt1 : w.heap.size < W0.heap.size := by rw [HS0.out]; omega
    have hlt2 : w.heap.size + 1 < W0.heap.size := by rw [HS0.out]; omega
    by_cases hlt : k < n
    · obtain ⟨b1, o1, rfl, hb1, hx1⟩ := H1.out k (by rw [hnl.out]; exact hlt)
      obtain ⟨b2, o2, rfl, hb2, hx2⟩ := H2.out k (by rw [hnl.out]; exact hlt)
      have q11 : wr.cell? ⟨w.heap.size, 1, none⟩ = some (.slice (some ⟨b1, o1, none⟩) n c1) := by rw [HBW.out.cell (p := ⟨w.heap.size, 1, none⟩) hlt1]; exact p11
      have q21 : wr.cell? ⟨w.heap.size + 1, 1, none⟩ = some (.slice (some ⟨b2, o2, none⟩) n c2) := by rw [HBW.out.cell (p := ⟨w.heap.size + 1, 1, none⟩) hlt2]; exact p21
      have y1 : wr.cell? ⟨b1, o1 + k, none⟩ = some (.int .u32 (L.getD k 0)) := by
        rw [HBW.out.cell (p := ⟨b1, o1 + k, none⟩) (Nat.lt_of_lt_of_le hb1 HB0.out.size), HB0.out.cell (p := ⟨b1, o1 + k, none⟩) hb1]
        exact hx1
      have y2 : wr.cell? ⟨b2, o2 + k, none⟩ = some (.int .u32 (L.getD k 0)) := by
        rw [HBW.out.cell (p := ⟨b2, o2 + k, none⟩) (Nat.lt_of_lt_of_le hb2 HB0.out.size), HB0.out.cell (p := ⟨b2, o2 + k, none⟩) hb2]
        exact hx2
      obtain ⟨x, hx⟩ : ∃ x, Hid (L.getD k 0 = x) := ⟨_, rfl⟩
      rw [hx.out] at y1 y2
      have hkI : (k : Int) < (n : Int) := by omega
      have hk0 : (0 : Int) ≤ (k : Int) := by omega
      clear hx1 hx2 hb1 hb2 p10 p11 p12 p20 p21 p22 hlt1 hlt2
      go_wp2_with fail
      go_region_held3 (fun W => (W.cell? ⟨w.heap.size, 1, none⟩ = some (.slice (some ⟨b1, o1, none⟩) n c1) ∧ W.cell? ⟨w.heap.size + 1, 1, none⟩ = some (.slice (some ⟨b2, o2, none⟩) n c2)) ∧ W.cell? ⟨b1, o1 + k, none⟩ = some (.int .u32 x) ∧ W.cell? ⟨b2, o2 + k, none⟩ = some (.int .u32 x)) (go_keep) (fail)
      all_goals go_wp2
      all_goals
        refine ⟨⟨k + 1, by omega, by go_num, ?_⟩, by simp [intOf]; omega⟩
        first | exact HBW.out.drew | exact bl_drewN _ HBW.out
    · have hkn : k = n := by omega
      subst hkn
      have HBE : Hid (Below w.heap.size w wr) := HB0.out.trans (HBW.out.mono HB0.out.size)
      go_wp2
      go_ret
      exact ⟨rfl, HBE.out⟩
theorem Same_dy (n1 n2 : Bool) (a1 a2 : Option Addr) (l1 l2 c1 c2 : Nat) (e1 e2 z e : Int) (w : World) (h1 : DyAt w n1 a1 l1 c1 e1 z e) (h2 : DyAt w n2 a2 l2 c2 e2 z e) :
    Calls Tryd.prog 15 #[.agg #[.bool n1, .slice a1 l1 c1, .int .i64 e1], .agg #[.bool n2, .slice a2 l2 c2, .int .i64 e2]] w fun r w' => r = .returned (.bool true) ∧ Below w.heap.size w w' := by
  obtain ⟨L1, rfl, _, m1, v1, y1⟩ := h1
  obtain ⟨L2, rfl, _, m2, v2, _⟩ := h2
  obtain ⟨rfl, rfl, rfl⟩ := v1.uniq v2
  refine Same_yes n1 L1 a1 a2 c1 c2 e1 w m1 m2 ?_
  rcases y1 with ⟨rfl, _, _⟩ | ⟨_, _, _, hl, _⟩
  · exact Nat.zero_le _
  · omega
end Go.Proofs.YtnhggfmpajnapaaDoor

namespace Go.Proofs.YtnhggfmpajnapaaDoor
open Go.RowKit Go.IntWalk

set_option maxHeartbeats 1000000 in
theorem size_any (L : List Nat) (a : Option Addr) (cap : Nat) (w : World) (hm : MagAt w a L) (hd : DigL L) (hc : CanL L) (hn : L.length ≤ 1000000) :
    Calls Tryd.prog 79 #[.slice a L.length cap] w fun r w' => r = .returned (.int .i64 (bitLen (natL L))) ∧ w' = w := by
  by_cases h0 : L.length = 0
  · have e : L = [] := List.length_eq_zero_iff.1 h0
    subst e
    show Calls Tryd.prog 79 #[.slice a 0 cap] w _
    clear hm hd hc h0 hn
    go_enter Tryd.func79, Tryd.ntmps79
    go_wp2
    go_ret
    exact ⟨rfl, rfl⟩
  · obtain ⟨k, hk⟩ : ∃ k, L.length = k + 1 := ⟨L.length - 1, by omega⟩
    obtain ⟨b, off, rfl, hb, hcell⟩ := hm k (by omega)
    have hne := hc (fun c => h0 (by rw [c]; rfl))
    rw [hk, Nat.add_sub_cancel] at hne
    rw [bitLen_words L k hk hd hne]
    have hdl := hd.get k
    obtain ⟨d, hdd⟩ : ∃ d, Hid (L.getD k 0 = d) := ⟨_, rfl⟩
    rw [hdd.out] at hcell hdl ⊢
    have hbl := bitLen_le d 32 (by simpa using hdl)
    obtain ⟨l, hl⟩ : ∃ l, Hid (bitLen d = l) := ⟨_, rfl⟩
    have HL : Hid (∀ w : World, Calls Tryd.prog 110 #[.int .u32 d] w fun r w' => r = .returned (.int .i64 l) ∧ w' = w) := fun w => by
      rw [← hl.out]; exact len32_any d w hdl
    rw [hl.out] at hbl ⊢
    obtain ⟨n, hnn⟩ : ∃ n : Nat, Hid (k + 1 = n) := ⟨_, rfl⟩
    have hk1 : (n : Int) - 1 = (k : Int) := by have := hnn.out; omega
    have hwk : IntKind.i64.wrap ((n : Int) - 1) = (k : Int) := by have := hnn.out; rw [IntWalk.i64_in _ (by omega)]; omega
    have hkI : (k : Int) < (n : Int) := by have := hnn.out; omega
    have hkn : k ≤ 1000000 := by omega
    have hnz : ((n : Int) == 0) = false := by have := hnn.out; simp; omega
    rw [hk, hnn.out]
    clear hm hd hc h0 hn hne hdl hk
    go_enter Tryd.func79, Tryd.ntmps79
    go_wp2_with fail
    refine (HL.out _).mono ?_
    rintro r w1 ⟨rfl, rfl⟩
    go_wp2
    go_ret
    exact ⟨ret_int (by omega), rfl⟩
set_option maxHeartbeats 400000 in
theorem dbinary64_any (w : World) :
    Calls Tryd.prog 51 #[] w fun r w' => r = .returned (.agg #[.int .i64 53, .int .i64 (-1074), .int .i64 1023]) ∧ Below w.heap.size w w' := by
  go_enter Tryd.func51, Tryd.ntmps51
  go_wp2
  exact bodyPost_ret (v := .agg #[.int .i64 53, .int .i64 (-1074), .int .i64 1023]) (by simp [results, Tryd.results51, go_sem]) rfl ⟨rfl, (Below.refl _ _).alloc (Nat.le_refl _) _⟩
/-- The function that a mode has. -/
def grF (mode : Int) : FuncId := if mode = 0 then 105 else if mode = 1 then 106 else if mode = 2 then 107 else if mode = 3 then 108 else 109
set_option maxHeartbeats 1000000 in
theorem grows_any (mode : Int) (w : World) (h1 : 0 ≤ mode) (h2 : mode ≤ 4) :
    Calls Tryd.prog 78 #[.int .i64 mode] w fun r w' => r = .returned (.func (.func (grF mode)) #[] #[]) ∧ Below w.heap.size w w' := by
  have hst : ∀ (W : World) (a : Addr) (f : FuncId), (store a (.func (.func f) #[] #[])).run Tryd.prog W = stored Tryd.prog W a (.func (.func f) #[] #[]) .plain := fun W a f => run_store _ _ _ _ _ rfl
  rcases (show mode = 0 ∨ mode = 1 ∨ mode = 2 ∨ mode = 3 ∨ mode = 4 by omega) with rfl | rfl | rfl | rfl | rfl
  all_goals
    clear h1 h2
    go_enter Tryd.func78, Tryd.ntmps78
    go_wp2
    go_ret
    exact ⟨rfl, (Below.refl _ _).alloc (Nat.le_refl _) _⟩
set_option maxRecDepth 4000 in
set_option maxHeartbeats 1000000 in
theorem steps_left (neg : Bool) (L : List Nat) (a : Option Addr) (cap s : Nat) (e u : Int) (g : Value) (w : World) (hm : MagAt w a L) (hd : DigL L) (hn : L.length ≤ 3000) (hu : e - u = (s : Int)) (hs : s ≤ 100000) :
    Calls Tryd.prog 80 #[.agg #[.bool neg, .slice a L.length cap, .int .i64 e], .int .i64 u, g] w fun r w' => MagOk (natL L * 2 ^ s) (L.length + s / 32 + 1) r w' ∧ Below w.heap.size w w' := by
  have HL : Hid (∀ W, Below w.heap.size w W → Calls Tryd.prog 94 #[.slice a L.length cap, .int .i64 (s : Nat)] W fun r w' => MagOk (natL L * 2 ^ s) (L.length + s / 32 + 1) r w' ∧ Below W.heap.size W w') := fun W hW => dleft_nat L a cap s W (hm.below hW) (by omega) (by omega) hd
  obtain ⟨n, hnl⟩ : ∃ n, Hid (L.length = n) := ⟨_, rfl⟩
  rw [hnl.out] at HL hn ⊢
  obtain ⟨D, hD⟩ : ∃ D : Int, Hid (u - e = D) := ⟨_, rfl⟩
  have hD1 : IntKind.i64.wrap (u - e) = D := by have := hD.out; rw [IntWalk.i64_in _ (by omega)]; exact this
  have hD0 : D ≤ 0 := by have := hD.out; omega
  have hDs : -D = (s : Int) := by have := hD.out; omega
  have hDw : IntKind.i64.wrap (-D) = (s : Int) := by rw [IntWalk.i64_in _ (by omega)]; exact hDs
  have hsw : IntKind.i64.wrap (s : Int) = (s : Int) := by rw [IntWalk.i64_in _ (by omega)]
  have HA : Hid (∀ k, Below w.heap.size w ((w.alloc (.cells #[.bool neg, .slice a n cap, .int .i64 e] 25)).drewN k)) := fun k => bl_drewN k ((Below.refl _ _).alloc (Nat.le_refl _) _)
  clear hm hd hn hu hs
  go_enter Tryd.func80, Tryd.ntmps80
  go_wp2_with fail
  go_quiet (fail)
  go_wp2_with fail
  refine (HL.out _ (HA.out _)).mono ?_
  rintro r w1 ⟨⟨L', a', cap', rfl, hr2⟩, hb⟩
  have HE := hid hr2
  have HB : Hid (Below w.heap.size w w1) := (HA.out _).trans (hb.mono (HA.out _).size)
  clear hr2 hb
  go_wp2
  go_ret
  exact ⟨⟨L', a', cap', rfl, HE.out⟩, HB.out⟩
end Go.Proofs.YtnhggfmpajnapaaDoor

namespace Go.Proofs.YtnhggfmpajnapaaDoor
open Go.RowKit Go.IntWalk

theorem Of_good (neg : Bool) (s : Nat) (u : Int) (w : World) (h1 : s ≤ 9007199254740992) (h2 : -1074 ≤ u) (h3 : u + (bitLen s : Int) - 1 ≤ 1023) (hT : Tab w) (hs : 2 < w.heap.size) :
    Calls Tryd.prog 83 #[.agg #[.bool neg, .int .u64 s, .int .i64 u]] w fun r w' => r = .returned (.tuple #[.float .f64 (signN neg (wMag s u)), .int .i64 0]) ∧ Below w.heap.size w w' := by
  have h := good_word s u h1 h2 h3
  have he : wErr s u = 0 := by unfold wErr; rw [if_neg h]
  have hw : wWord neg s u = signN neg (wMag s u) := by unfold wWord; rw [if_neg h]
  have := Of_any neg s u w (by omega) hT hs
  rw [hw, he] at this
  exact this
/-- The two words of a number below 2^64. -/
theorem two_words (L : List Nat) (m : Nat) (hC : CanL L) (h : natL L = m) (hm : m < 18446744073709551616) : L.length ≤ 2 ∧ L.getD 0 0 + 4294967296 * L.getD 1 0 = m := by
  have hl : L.length ≤ 2 := by
    apply Classical.byContradiction
    intro hc
    have h0 : L ≠ [] := fun c => by rw [c] at hc; exact hc (Nat.zero_le _)
    have h1 := natL_ge L h0 hC
    have h2 : 4294967296 ^ 2 ≤ 4294967296 ^ (L.length - 1) := Nat.pow_le_pow_right (by decide) (by omega)
    have h3 : (4294967296 : Nat) ^ 2 = 18446744073709551616 := by decide
    omega
  exact ⟨hl, by rw [← natL_two L hl, h]⟩
def FmBox : Obj := .cells #[.int .i64 53, .int .i64 (-1074), .int .i64 1023] 89
theorem func_nil (f : FuncId) (W : World) : (binOp .eql 123 (.func (.func f) #[] #[]) .nilFunc).run Tryd.prog W = .ok (.bool false) W := by
  have h : Op.equal 123 (.func (.func f) #[] #[]) .nilFunc = Op.equalIn (Op.maxDepth - 1 + 1) 123 (.func (.func f) #[] #[]) .nilFunc := rfl
  simp only [binOp, h, Op.equalIn, Sem.run_bind, run_underlying Tryd.underlying123, Result.andThen_ok]
  rfl
def RdW (w : World) (neg : Bool) (a : Option Addr) (n cap : Nat) (e : Int) : World := (w.alloc (DyBox neg a n cap e)).alloc FmBox
/-- What stays while a dyad is rounded. -/
def RdFr (w : World) (neg : Bool) (a : Option Addr) (n cap : Nat) (e : Int) (W : World) : Prop := Below (w.heap.size + 2) (RdW w neg a n cap e) W
def FCells (W : World) (b : Nat) : Prop := W.cell? ⟨b, 0, none⟩ = some (.int .i64 53) ∧ W.cell? ⟨b, 1, none⟩ = some (.int .i64 (-1074)) ∧ W.cell? ⟨b, 2, none⟩ = some (.int .i64 1023)
theorem RdFr.all {w : World} {neg : Bool} {a : Option Addr} {n cap : Nat} {e : Int} {W : World} (h : RdFr w neg a n cap e W) : DCells W w.heap.size neg a n cap e ∧ FCells W (w.heap.size + 1) ∧ Below w.heap.size w W ∧ w.heap.size + 2 ≤ W.heap.size := by
  have hs := h.size
  have h0 : (RdW w neg a n cap e).heap.size = w.heap.size + 2 := by unfold RdW; simp
  rw [h0] at hs
  have h1 : (RdW w neg a n cap e).heap[w.heap.size]? = some (DyBox neg a n cap e) := by
    unfold RdW
    rw [((Below.refl _ (w.alloc (DyBox neg a n cap e))).alloc (Nat.le_refl _) _).block w.heap.size (by simp)]
    exact new_blk w _ _ rfl
  have h2 : (RdW w neg a n cap e).heap[w.heap.size + 1]? = some FmBox := new_blk _ _ _ (by simp)
  have g2 := (h.block _ (show w.heap.size + 1 < w.heap.size + 2 by omega)).trans h2
  refine ⟨dcells_of ((h.block _ (by omega)).trans h1), ⟨by simp [World.cell?, g2, FmBox], by simp [World.cell?, g2, FmBox], by simp [World.cell?, g2, FmBox]⟩, ?_, hs⟩
  exact (show Below w.heap.size w (RdW w neg a n cap e) from ((Below.refl _ _).alloc (Nat.le_refl _) _).alloc (by simp) _).trans (h.mono (by omega))
theorem RdFr.call {w : World} {neg : Bool} {a : Option Addr} {n cap : Nat} {e : Int} {W W' : World} (h : RdFr w neg a n cap e W) (hb : Below W.heap.size W W') : RdFr w neg a n cap e W' := h.trans (hb.mono h.all.2.2.2)
set_option maxRecDepth 4000 in
set_option maxHeartbeats 4000000 in
theorem round_left (neg : Bool) (L : List Nat) (a : Option Addr) (cap s : Nat) (e u mode : Int) (w : World) (hm : MagAt w a L) (hd : DigL L) (hc : CanL L) (hmay : DyMay neg L e) (hn : L.length ≤ 3000) (h0 : natL L ≠ 0) (hu : max (e + (bitLen (natL L) : Int) - 1 - 53 + 1) (-1074) = u) (hs : e - u = (s : Int)) (hsb : s ≤ 60) (hfit : natL L * 2 ^ s ≤ 9007199254740992) (htop : e + (bitLen (natL L) : Int) - 1 ≤ 1023) (he1 : -2000 ≤ e) (he2 : e ≤ 2000) (hm1 : 0 ≤ mode) (hm2 : mode ≤ 4) (hT : Tab w) (hg : 2 < w.heap.size) :
    Calls Tryd.prog 50 #[.agg #[.bool neg, .slice a L.length cap, .int .i64 e], .agg #[.int .i64 53, .int .i64 (-1074), .int .i64 1023], .int .i64 mode] w fun r w' => r = .returned (.tuple #[.float .f64 (signN neg (wMag (natL L * 2 ^ s) u)), .int .i64 0]) ∧ Below w.heap.size w w' := by
  have hbl : bitLen (natL L) ≤ 32 * 3000 := by
    have := natL_lt L hd
    rw [pow32] at this
    have h2 := bitLen_le (natL L) _ this
    omega
  have HG := hid (fun (W : World) => grows_any mode W hm1 hm2)
  have HMY : Hid (∀ W, Below w.heap.size w W → Calls Tryd.prog 28 #[.agg #[.bool neg, .slice a L.length cap, .int .i64 e]] W fun r w' => r = .returned (.bool true) ∧ Below W.heap.size W w') := fun W hW => May_yes neg L a cap e W (hm.below hW) hmay
  have HSZ : Hid (∀ W, Below w.heap.size w W → Calls Tryd.prog 79 #[.slice a L.length cap] W fun r w' => r = .returned (.int .i64 (bitLen (natL L))) ∧ w' = W) := fun W hW => size_any L a cap W (hm.below hW) hd hc (by omega)
  have HST : Hid (∀ W g, Below w.heap.size w W → Calls Tryd.prog 80 #[.agg #[.bool neg, .slice a L.length cap, .int .i64 e], .int .i64 u, g] W fun r w' => (∃ x b k, r = .returned (.slice b x k) ∧ Hid (∃ LS, LS.length = x ∧ MagIs (natL L * 2 ^ s) (L.length + s / 32 + 1) LS b k w')) ∧ Below W.heap.size W w') := fun W g hW => by
    refine (steps_left neg L a cap s e u g W (hm.below hW) hd hn hs (by omega)).mono ?_
    rintro r w' ⟨⟨LS, b, k, rfl, hok⟩, hb⟩
    exact ⟨⟨LS.length, b, k, rfl, ⟨LS, rfl, hok⟩⟩, hb⟩
  have hlen2 := bitLen_mul_pow (natL L) s h0
  have HOF : Hid (∀ W, Below w.heap.size w W → Calls Tryd.prog 83 #[.agg #[.bool neg, .int .u64 (natL L * 2 ^ s : Nat), .int .i64 u]] W fun r w' => r = .returned (.tuple #[.float .f64 (signN neg (wMag (natL L * 2 ^ s) u)), .int .i64 0]) ∧ Below W.heap.size W w') := fun W hW => Of_good neg (natL L * 2 ^ s) u W hfit (by omega) (by rw [hlen2]; omega) (hT.below hg hW) (Nat.lt_of_lt_of_le hg hW.size)
  have hbp := bitLen_pos h0
  obtain ⟨n, hnl⟩ : ∃ n, Hid (L.length = n) := ⟨_, rfl⟩
  obtain ⟨l, hl⟩ : ∃ l, Hid (bitLen (natL L) = l) := ⟨_, rfl⟩
  obtain ⟨M, hM⟩ : ∃ M, Hid (natL L * 2 ^ s = M) := ⟨_, rfl⟩
  rw [hnl.out] at HMY HSZ HST ⊢
  rw [hl.out] at HSZ hu hlen2 hbp htop hbl
  rw [hM.out] at HST HOF hlen2 hfit ⊢
  have HMB := hid (show M < 18446744073709551616 by omega)
  have HLN := hid hlen2
  obtain ⟨T, hTT⟩ : ∃ T, Hid (e + (l : Int) - 1 = T) := ⟨_, rfl⟩
  have hT0 : IntKind.i64.wrap (e + (l : Int)) = e + (l : Int) := by rw [IntWalk.i64_in _ (by omega)]
  have hT1 : IntKind.i64.wrap (e + (l : Int) - 1) = T := by have := hTT.out; rw [IntWalk.i64_in _ (by omega)]; exact this
  have hT2 : e + (l : Int) - 1 = T := hTT.out
  have hTb1 : -3000 ≤ T := by have := hTT.out; omega
  have hTb2 : T ≤ 1023 := by have := hTT.out; omega
  rw [hTT.out] at hu
  have hu1 : max (T - 53 + 1) (-1074) = u := hu
  have hub : -1074 ≤ u := by omega
  have hub2 : u ≤ 3000 := by omega
  obtain ⟨K, hK⟩ : ∃ K : Nat, Hid (l + s = K) := ⟨_, rfl⟩
  rw [hK.out] at HLN
  have hK1 : IntKind.i64.wrap (u + (K : Int)) = u + (K : Int) := by have := hK.out; rw [IntWalk.i64_in _ (by omega)]
  have hK3 : u + (K : Int) - 1 = T := by have := hK.out; have := hTT.out; omega
  have hK2 : IntKind.i64.wrap (u + (K : Int) - 1) = T := by have := hK.out; rw [IntWalk.i64_in _ (by omega)]; exact hK3
  have hTw : IntKind.i64.wrap T = T := by rw [IntWalk.i64_in _ (by omega)]
  have hgtr : ¬ (1023 : Int) < T := by omega
  have HK : Hid (∀ W, Hid (RdFr w neg a n cap e W) → ((W.cell? ⟨w.heap.size, 0, none⟩ = some (.bool neg) ∧ W.cell? ⟨w.heap.size, 1, none⟩ = some (.slice a n cap) ∧ W.cell? ⟨w.heap.size, 2, none⟩ = some (.int .i64 e)) ∧ (W.cell? ⟨w.heap.size + 1, 0, none⟩ = some (.int .i64 53) ∧ W.cell? ⟨w.heap.size + 1, 1, none⟩ = some (.int .i64 (-1074)) ∧ W.cell? ⟨w.heap.size + 1, 2, none⟩ = some (.int .i64 1023))) ∧ Hid (RdFr w neg a n cap e W)) := fun W h => ⟨⟨h.out.all.1, h.out.all.2.1⟩, h⟩
  have HR0 : Hid (RdFr w neg a n cap e (RdW w neg a n cap e)) := Below.refl _ _
  obtain ⟨W0, hW0⟩ : ∃ W0, Hid (RdW w neg a n cap e = W0) := ⟨_, rfl⟩
  have hW0' : RdW w neg a n cap e = W0 := hW0.out
  rw [hW0'] at HR0
  unfold RdW DyBox FmBox at hW0'
  have HU := hid hu
  have HNS := hid (show n ≤ 3000 ∧ s ≤ 60 from ⟨by have := hnl.out; omega, hsb⟩)
  clear hm hd hc hmay hn h0 hu hs hsb hfit htop he1 he2 hm1 hm2 hT hg hbl hlen2
  go_enter Tryd.func50, Tryd.ntmps50
  go_wp2_with fail
  refine (HG.out _).mono ?_
  rintro r w1 ⟨rfl, hb1⟩
  have HR1 : Hid (RdFr w neg a n cap e w1) := HR0.out.call hb1
  obtain ⟨⟨⟨p0, p1, p2⟩, ⟨q0, q1, q2⟩⟩, _⟩ := HK.out _ HR1
  clear hb1
  go_wp2_with fail
  refine (HMY.out _ HR1.out.all.2.2.1).mono ?_
  rintro r w2 ⟨rfl, hb2⟩
  have HR2 : Hid (RdFr w neg a n cap e w2) := HR1.out.call hb2
  obtain ⟨⟨⟨r0, r1, r2⟩, ⟨s0, s1, s2⟩⟩, _⟩ := HK.out _ HR2
  clear hb2 p0 p1 p2 q0 q1 q2
  have hfn := func_nil (grF mode)
  have HQ0 : Hid (RdFr w neg a n cap e w2.drew) := HR2.out.call (Below.refl _ _).drew
  have HSZ2 : Hid (∀ W, Hid (RdFr w neg a n cap e W) → Calls Tryd.prog 79 #[.slice a n cap] W fun r w' => r = .returned (.int .i64 l) ∧ w' = W) := fun W hW => HSZ.out W hW.out.all.2.2.1
  go_wp2_with fail
  go_region_held3 (fun W => ((W.cell? ⟨w.heap.size, 0, none⟩ = some (.bool neg) ∧ W.cell? ⟨w.heap.size, 1, none⟩ = some (.slice a n cap) ∧ W.cell? ⟨w.heap.size, 2, none⟩ = some (.int .i64 e)) ∧ (W.cell? ⟨w.heap.size + 1, 0, none⟩ = some (.int .i64 53) ∧ W.cell? ⟨w.heap.size + 1, 1, none⟩ = some (.int .i64 (-1074)) ∧ W.cell? ⟨w.heap.size + 1, 2, none⟩ = some (.int .i64 1023))) ∧ Hid (RdFr w neg a n cap e W))
    ((refine HK.out _ ?_; first | assumption | exact HQ0))
    ((go_at_call 79; refine (HSZ2.out _ (And.right (by assumption))).mono ?_; rintro r w3 ⟨rfl, rfl⟩))
  go_wp2_with fail
  refine (HST.out _ _ (HQ0.out.all.2.2.1)).mono ?_
  rintro r w4 ⟨⟨x, b, k, rfl, HLS⟩, hb4⟩
  have HR4 : Hid (RdFr w neg a n cap e w4) := HQ0.out.call hb4
  obtain ⟨⟨⟨t0, t1, t2⟩, ⟨u0, u1, u2⟩⟩, _⟩ := HK.out _ HR4
  have HK4 : Hid (∀ W, Hid (Below w4.heap.size w4 W) → W.cell? ⟨w.heap.size + 1, 2, none⟩ = some (.int .i64 1023) ∧ Hid (Below w4.heap.size w4 W)) := fun W hW => ⟨(HK.out W (HR4.out.call hW.out)).1.2.2.2, hW⟩
  have HQ4 : Hid (Below w4.heap.size w4 w4.drew) := (Below.refl _ _).drew
  have HS4 : Hid (∀ W, Hid (Below w4.heap.size w4 W) → Calls Tryd.prog 79 #[.slice b x k] W fun r w' => r = .returned (.int .i64 (K : Nat)) ∧ w' = W) := fun W hW => by
    obtain ⟨LS, rfl, h⟩ := HLS.out
    have := size_any LS b k W (h.2.2.1.below hW.out) h.2.2.2.1 h.2.2.2.2.1 (by have := h.2.1; have := HNS.out; omega)
    rw [h.2.2.2.2.2, HLN.out] at this
    exact this
  obtain ⟨LS, hLx, hLS⟩ := HLS.out
  obtain ⟨tw1, tw2⟩ := two_words LS M hLS.2.2.2.2.1 hLS.2.2.2.2.2 HMB.out
  have HW1 : Hid (∀ W, Below w4.heap.size w4 W → Calls Tryd.prog 82 #[.slice b x k, .int .i64 1] W fun r w' => r = .returned (.int .u32 (LS.getD 1 0)) ∧ w' = W) := fun W hW => by
    rw [← hLx]
    exact word_any LS b k 1 W (hLS.2.2.1.below hW)
  have HW0 : Hid (∀ W, Below w4.heap.size w4 W → Calls Tryd.prog 82 #[.slice b x k, .int .i64 0] W fun r w' => r = .returned (.int .u32 (LS.getD 0 0)) ∧ w' = W) := fun W hW => by
    rw [← hLx]
    exact word_any LS b k 0 W (hLS.2.2.1.below hW)
  have hg0 := hLS.2.2.2.1.get 0
  have hg1 := hLS.2.2.2.1.get 1
  obtain ⟨x0, hx0⟩ : ∃ x0, Hid (LS.getD 0 0 = x0) := ⟨_, rfl⟩
  obtain ⟨x1, hx1⟩ : ∃ x1, Hid (LS.getD 1 0 = x1) := ⟨_, rfl⟩
  rw [hx0.out] at HW0 hg0 tw2
  rw [hx1.out] at HW1 hg1 tw2
  have hor := or_words2 x0 x1 hg0 hg1
  rw [tw2] at hor
  have hwx0 : IntKind.u64.wrap (x0 : Int) = (x0 : Int) := by rw [IntKind.wrap_u64]; omega
  have hwx1 : IntKind.u64.wrap (x1 : Int) = (x1 : Int) := by rw [IntKind.wrap_u64]; omega
  have hwx2 : IntKind.u64.wrap ((x1 : Int) * 4294967296) = (x1 : Int) * 4294967296 := by rw [IntKind.wrap_u64]; omega
  clear hb4 r0 r1 r2 s0 s1 s2 HLS hLS tw1 tw2 hg0 hg1 HST HSZ HSZ2 HG HMY
  go_wp2_with fail
  go_region_held3 (fun W => W.cell? ⟨w.heap.size + 1, 2, none⟩ = some (.int .i64 1023) ∧ Hid (Below w4.heap.size w4 W))
    ((refine HK4.out _ ?_; first | assumption | exact HQ4))
    ((go_at_call 79; refine (HS4.out _ (And.right (by assumption))).mono ?_; rintro r w5 ⟨rfl, rfl⟩))
  go_wp2_with fail
  refine (HW1.out _ HQ4.out).mono ?_
  rintro r w6 ⟨rfl, rfl⟩
  go_wp2_with fail
  refine (HW0.out _ HQ4.out).mono ?_
  rintro r w6 ⟨rfl, rfl⟩
  go_wp2_with fail
  refine (HOF.out _ (HR4.out.call HQ4.out).all.2.2.1).mono ?_
  rintro r w7 ⟨rfl, hb7⟩
  have HBE : Hid (Below w.heap.size w w7) := (HR4.out.call HQ4.out).all.2.2.1.trans (hb7.mono (HR4.out.call HQ4.out).all.2.2.1.size)
  clear hb7
  go_wp2
  go_ret2
  exact ⟨rfl, HBE.out⟩
set_option maxRecDepth 4000 in
set_option maxHeartbeats 1000000 in
theorem Round_core (neg : Bool) (a : Option Addr) (n cap X : Nat) (e mode Y : Int) (w : World)
    (h : ∀ W, Below w.heap.size w W → Calls Tryd.prog 50 #[.agg #[.bool neg, .slice a n cap, .int .i64 e], .agg #[.int .i64 53, .int .i64 (-1074), .int .i64 1023], .int .i64 mode] W fun r w' => r = .returned (.tuple #[.float .f64 X, .int .i64 Y]) ∧ Below W.heap.size W w') :
    Calls Tryd.prog 21 #[.agg #[.bool neg, .slice a n cap, .int .i64 e], .int .i64 mode] w fun r w' => r = .returned (.tuple #[.float .f64 X, .int .i64 Y]) ∧ Below w.heap.size w w' := by
  obtain ⟨W0, hW0⟩ : ∃ W0, Hid (w.alloc (DyBox neg a n cap e) = W0) := ⟨_, rfl⟩
  have hW0' : w.alloc (DyBox neg a n cap e) = W0 := hW0.out
  unfold DyBox at hW0'
  have HB0 : Hid (Below w.heap.size w W0) := by rw [← hW0.out]; exact (Below.refl _ _).alloc (Nat.le_refl _) _
  have HS0 := hid (show W0.heap.size = w.heap.size + 1 by rw [← hW0.out]; simp)
  have HC0 : Hid (W0.heap[w.heap.size]? = some (DyBox neg a n cap e)) := by
    show W0.heap[w.heap.size]? = _
    rw [← hW0.out]
    exact new_blk w _ _ rfl
  have HK : Hid (∀ W, Hid (Below W0.heap.size W0 W) → (W.cell? ⟨w.heap.size, 0, none⟩ = some (.bool neg) ∧ W.cell? ⟨w.heap.size, 1, none⟩ = some (.slice a n cap) ∧ W.cell? ⟨w.heap.size, 2, none⟩ = some (.int .i64 e)) ∧ Hid (Below W0.heap.size W0 W)) := fun W hW => ⟨dcells_of ((hW.out.block _ (by rw [HS0.out]; omega)).trans HC0.out), hW⟩
  have HQ0 : Hid (Below W0.heap.size W0 W0.drew) := (Below.refl _ _).drew
  have HB : Hid (∀ W, Hid (Below W0.heap.size W0 W) → Calls Tryd.prog 51 #[] W fun r w' => r = .returned (.agg #[.int .i64 53, .int .i64 (-1074), .int .i64 1023]) ∧ Hid (Below W0.heap.size W0 w')) := fun W hW => by
    refine (dbinary64_any W).mono ?_
    rintro r w' ⟨rfl, hb⟩
    exact ⟨rfl, hW.out.trans (hb.mono hW.out.size)⟩
  have HR : Hid (∀ W, Hid (Below W0.heap.size W0 W) → Calls Tryd.prog 50 #[.agg #[.bool neg, .slice a n cap, .int .i64 e], .agg #[.int .i64 53, .int .i64 (-1074), .int .i64 1023], .int .i64 mode] W fun r w' => r = .returned (.tuple #[.float .f64 X, .int .i64 Y]) ∧ Hid (Below W0.heap.size W0 w')) := fun W hW => by
    refine (h W (HB0.out.trans (hW.out.mono HB0.out.size))).mono ?_
    rintro r w' ⟨rfl, hb⟩
    exact ⟨rfl, hW.out.trans (hb.mono hW.out.size)⟩
  clear h
  go_enter Tryd.func21, Tryd.ntmps21
  go_wp2_with fail
  go_region_held3 (fun W => (W.cell? ⟨w.heap.size, 0, none⟩ = some (.bool neg) ∧ W.cell? ⟨w.heap.size, 1, none⟩ = some (.slice a n cap) ∧ W.cell? ⟨w.heap.size, 2, none⟩ = some (.int .i64 e)) ∧ Hid (Below W0.heap.size W0 W))
    ((refine HK.out _ ?_; first | assumption | exact HQ0))
    (first
      | (go_at_call 51; refine (HB.out _ (And.right (by assumption))).mono ?_; rintro r w3 ⟨rfl, HF3⟩)
      | (go_at_call 50; refine (HR.out _ (And.right (by assumption))).mono ?_; rintro r w4 ⟨rfl, HF4⟩))
  all_goals go_wp2
  all_goals go_ret2
  all_goals exact ⟨rfl, HB0.out.trans (HF4.out.mono HB0.out.size)⟩
/-- Round of a number's dyad, by any mode, is that number. -/
theorem Round_own (neg : Bool) (L : List Nat) (a : Option Addr) (cap : Nat) (e mode : Int) (w : World) (hm : MagAt w a L) (hd : DigL L) (hc : CanL L) (hmay : DyMay neg L e) (h0 : natL L ≠ 0) (hb : bitLen (natL L) ≤ 53) (he : -1074 ≤ e) (htop : e + (bitLen (natL L) : Int) - 1 ≤ 1023) (hm1 : 0 ≤ mode) (hm2 : mode ≤ 4) (hT : Tab w) (hg : 2 < w.heap.size) :
    ∃ R, R < 9218868437227405312 ∧ nv R = natL L * 2 ^ (e + 1074).toNat ∧ Calls Tryd.prog 21 #[.agg #[.bool neg, .slice a L.length cap, .int .i64 e], .int .i64 mode] w fun r w' => r = .returned (.tuple #[.float .f64 (signN neg R), .int .i64 0]) ∧ Below w.heap.size w w' := by
  have hbp := bitLen_pos h0
  obtain ⟨u, hu⟩ : ∃ u, max (e + (bitLen (natL L) : Int) - 1 - 53 + 1) (-1074) = u := ⟨_, rfl⟩
  obtain ⟨s, hs⟩ := Int.eq_ofNat_of_zero_le (show 0 ≤ e - u by omega)
  have hlen := bitLen_mul_pow (natL L) s h0
  have hlt : natL L * 2 ^ s < 2 ^ 53 := Nat.lt_of_lt_of_le (bitLen_hi _) (Nat.pow_le_pow_right (by decide) (by rw [hlen]; omega))
  have h53 : (2 : Nat) ^ 53 = 9007199254740992 := by decide
  have hll : L.length ≤ 3000 := by
    rcases hmay with ⟨c, _⟩ | ⟨_, _, _, hl, _⟩
    · rw [c] at h0; exact absurd rfl h0
    · omega
  obtain ⟨g1, g2⟩ := good_val (natL L * 2 ^ s) u (Nat.mul_ne_zero h0 (Nat.pos_iff_ne_zero.1 (Nat.two_pow_pos s))) (by omega) (by omega) (by rw [hlen]; omega)
  refine ⟨wMag (natL L * 2 ^ s) u, g1, ?_, Round_core neg a L.length cap _ e mode 0 w (fun W hW => round_left neg L a cap s e u mode W (hm.below hW) hd hc hmay hll h0 hu hs (by omega) (by omega) htop (by omega) (by omega) hm1 hm2 (hT.below hg hW) (Nat.lt_of_lt_of_le hg hW.size))⟩
  rw [g2, Nat.mul_assoc, ← Nat.pow_add]
  congr 2
  omega
end Go.Proofs.YtnhggfmpajnapaaDoor

namespace Go.Proofs.YtnhggfmpajnapaaDoor
open Go.RowKit Go.IntWalk

theorem at_half : pNeg 4602678819172646912 = false ∧ pMant 4602678819172646912 = 1 ∧ pExp 4602678819172646912 = -1 ∧ pErr 4602678819172646912 = 0 := by decide +kernel
theorem at_one : wMag (natL [1] * 2 ^ 52) (-52) = 4607182418800017408 ∧ bitLen (natL [1]) = 1 ∧ (FloatKind.f64.format.order 4607182418800017408 4607182418800017408 == some .eq) = true := by decide +kernel
theorem dig1 : DigL [1] := fun d hd => by simp at hd; rw [hd]; decide
theorem can1 : CanL [1] := fun _ => by decide
theorem dyv_one (k : Nat) : DyV false [1] (k : Int) (1 * 2 ^ k) 0 := ⟨dig1, can1, Or.inr ⟨by decide, k, rfl, by omega⟩⟩
theorem may1 (e : Int) (h1 : -100000 ≤ e) (h2 : e ≤ 100000) : DyMay false [1] e := Or.inr ⟨by decide, by decide, can1, by decide, h1, h2⟩
theorem Of_half (w : World) (hT : Tab w) (hg : 2 < w.heap.size) (hT3 : Tab32 w) (hs : 1 < w.heap.size) :
    Calls Tryd.prog 9 #[.float .f64 4602678819172646912] w fun r w' => DyOut 1 (-1) w.heap.size r w' ∧ Below w.heap.size w w' := by
  obtain ⟨a1, a2, a3, a4⟩ := at_half
  have := Of_parts 4602678819172646912 1 false (-1) w (by decide) (by decide) (by decide) hT3 hs (fun W hW => by
    have := Parts_any 4602678819172646912 W (by decide) (hT.below hg hW) (Nat.lt_of_lt_of_le hg hW.size)
    rw [a1, a2, a3, a4] at this
    exact this)
  exact this
/-- The dyad of 1. -/
theorem Round_one (neg : Bool) (a : Option Addr) (n cap : Nat) (e : Int) (w : World) (h : DyAt w neg a n cap e 2 (-1)) (hT : Tab w) (hg : 2 < w.heap.size) :
    Calls Tryd.prog 21 #[.agg #[.bool neg, .slice a n cap, .int .i64 e], .int .i64 0] w fun r w' => r = .returned (.tuple #[.float .f64 4607182418800017408, .int .i64 0]) ∧ Below w.heap.size w w' := by
  obtain ⟨L, rfl, h1, h2, h3, h4⟩ := h
  have hv : DyV false [1] 0 2 (-1) := ⟨dig1, can1, Or.inr ⟨by decide, 1, rfl, rfl⟩⟩
  obtain ⟨rfl, rfl, rfl⟩ := h3.uniq hv
  obtain ⟨b1, b2, _⟩ := at_one
  have := Round_core false a 1 cap _ 0 0 0 w (fun W hW => round_left false [1] a cap 52 0 (-52) 0 W (h2.below hW) dig1 can1 h4 (by decide) (by decide) (by rw [b2]; decide) (by decide) (by decide) (by decide) (by rw [b2]; decide) (by decide) (by decide) (by decide) (by decide) (hT.below hg hW) (Nat.lt_of_lt_of_le hg hW.size))
  rw [b1] at this
  exact this
set_option maxRecDepth 4000 in
set_option maxHeartbeats 2000000 in
theorem awake3_any (w : World) (hT : Tab w) (hg : 2 < w.heap.size) (hT3 : Tab32 w) (hs : 1 < w.heap.size) :
    Calls Tryd.prog 11 #[] w fun r w' => r = .returned (.bool true) ∧ Below w.heap.size w w' := by
  have HT := hid (And.intro hT hg)
  have HT3 := hid (And.intro hT3 hs)
  have hq := at_one.2.2
  clear hT hg hT3 hs
  go_enter Tryd.func11, Tryd.ntmps11
  go_wp2_with fail
  refine (Of_half _ HT.out.1 HT.out.2 HT3.out.1 HT3.out.2).mono ?_
  rintro r w1 ⟨ho, hb1⟩
  obtain ⟨n1, a1, l1, c1, e1, rfl, hr⟩ := ho.ret
  have HD1 := hid hr.at
  have HB1 := hid hb1
  have HW1 : Hid (Below w.heap.size w (w1.alloc (DyBox n1 a1 l1 c1 e1))) := hb1.alloc hb1.size _
  have HA1 : Hid (Below w1.heap.size w1 (w1.alloc (DyBox n1 a1 l1 c1 e1))) := (Below.refl _ _).alloc (Nat.le_refl _) _
  have HAD := hid (Add_dy n1 n1 a1 a1 l1 l1 c1 c1 1 e1 e1 1 1 (-1) (w1.alloc (DyBox n1 a1 l1 c1 e1)) (HD1.out.below HA1.out) (HD1.out.below HA1.out) (by decide) (by decide) (by decide) (by decide) (by decide) (HT3.out.1.below HT3.out.2 HW1.out) (Nat.lt_of_lt_of_le HT3.out.2 HW1.out.size))
  unfold DyBox at HAD
  clear hb1 hr ho
  go_wp2_with fail
  refine HAD.out.mono ?_
  rintro r w2 ⟨ho, hb2⟩
  obtain ⟨n2, a2, l2, c2, e2, rfl, hr⟩ := ho.ret
  have HD2 := hid hr.at
  have HW2 : Hid (Below w.heap.size w (w2.alloc (DyBox n2 a2 l2 c2 e2))) := (HW1.out.trans (hb2.mono HW1.out.size)).alloc (Nat.le_trans HW1.out.size hb2.size) _
  have HA2 : Hid (Below w2.heap.size w2 (w2.alloc (DyBox n2 a2 l2 c2 e2))) := (Below.refl _ _).alloc (Nat.le_refl _) _
  have HC1 : Hid (w2.heap[w1.heap.size]? = some (DyBox n1 a1 l1 c1 e1)) := by
    show w2.heap[w1.heap.size]? = _
    rw [hb2.block _ (by simp)]
    exact new_blk _ _ _ rfl
  have HRO := hid (Round_one n2 a2 l2 c2 e2 (w2.alloc (DyBox n2 a2 l2 c2 e2)) (HD2.out.below HA2.out) (HT.out.1.below HT.out.2 HW2.out) (Nat.lt_of_lt_of_le HT.out.2 HW2.out.size))
  have hz2 : w1.heap.size < w2.heap.size := by have := hb2.size; simp at this; omega
  have HB2 := hid hb2
  unfold DyBox at HRO
  clear hb2 hr ho
  go_wp2_with fail
  refine HRO.out.mono ?_
  rintro r w3 ⟨rfl, hb3⟩
  have hc := dcells_of ((hb3.block w1.heap.size (by simp; omega)).trans ((HA2.out.block w1.heap.size hz2).trans HC1.out))
  unfold DCells at hc
  obtain ⟨p0, p1, p2⟩ := hc
  have HW3 : Hid (Below w.heap.size w w3) := HW2.out.trans (hb3.mono HW2.out.size)
  have HD3 : Hid (DyAt w3 n1 a1 l1 c1 e1 1 (-1)) := ((((HD1.out.below HA1.out).below HB2.out).below HA2.out).below hb3)
  have HSM : Hid (∀ W b, Below w3.heap.size w3 W → W.cell? ⟨b, 0, none⟩ = some (.int .u32 1) → Calls Tryd.prog 15 #[.agg #[.bool n1, .slice a1 l1 c1, .int .i64 e1], .agg #[.bool false, .slice (some ⟨b, 0, none⟩) 1 1, .int .i64 (-1)]] W fun r w' => r = .returned (.bool true) ∧ Below W.heap.size W w') := fun W b hW hcell => by
    refine Same_dy n1 false a1 _ l1 1 c1 1 e1 (-1) 1 (-1) W (HD3.out.below hW) ⟨[1], rfl, by decide, fun i hi => ?_, ⟨dig1, can1, Or.inr ⟨by decide, 0, rfl, rfl⟩⟩, may1 _ (by decide) (by decide)⟩
    have hi0 : i = 0 := by have : i < 1 := hi; omega
    subst hi0
    exact ⟨b, 0, rfl, World.block_lt_of_cell? W _ hcell, hcell⟩
  clear hb3 HD1 HAD HRO HC1
  go_wp2_with fail
  refine (HSM.out _ _ ((Below.refl _ _).alloc (Nat.le_refl _) _) (by simp [go_sem])).mono ?_
  rintro r w4 ⟨rfl, hb4⟩
  have HBE : Hid (Below w.heap.size w w4) := (HW3.out.alloc HW3.out.size _).trans (hb4.mono (by simp; have := HW3.out.size; omega))
  clear hb4
  go_wp2
  go_ret
  exact ⟨rfl, HBE.out⟩
end Go.Proofs.YtnhggfmpajnapaaDoor
