
/- DyadOnce, where a number is not finite. -/
import Derived.Test.YtpncignipghicaaDoorP34
import Derived.Test.YtpncignipghicaaDoorDyL
namespace Go.Proofs.YtpncignipghicaaDoor
open Go.RowKit Go.IntWalk

theorem nums2 (V : World) (b x y : Nat) (hb : b < V.heap.size) (h0 : V.cell? ⟨b, 0, none⟩ = some (.float .f64 x)) (h1 : V.cell? ⟨b, 1, none⟩ = some (.float .f64 y)) : NumsAt V b 0 [x, y] :=
  ⟨hb, fun i hi => by
    have hi2 : i < 2 := hi
    rcases (show i = 0 ∨ i = 1 by omega) with rfl | rfl
    · exact h0
    · exact h1⟩
theorem nums1 (V : World) (b x : Nat) (hb : b < V.heap.size) (h0 : V.cell? ⟨b, 0, none⟩ = some (.float .f64 x)) : NumsAt V b 0 [x] :=
  ⟨hb, fun i hi => by
    have hi2 : i < 1 := hi
    have : i = 0 := by omega
    subst this
    exact h0⟩
theorem bitl2 (x y : Nat) (hx : x < 18446744073709551616) (hy : y < 18446744073709551616) : BitL [x, y] := fun i hi => by
  have hi2 : i < 2 := hi
  rcases (show i = 0 ∨ i = 1 by omega) with rfl | rfl
  · exact hx
  · exact hy
theorem bitl1 (x : Nat) (hx : x < 18446744073709551616) : BitL [x] := fun i hi => by
  have hi2 : i < 1 := hi
  have : i = 0 := by omega
  subst this
  exact hx
set_option maxRecDepth 4000 in
set_option maxHeartbeats 4000000 in
theorem once_bad (x y : Nat) (w : World) (hx : x < 18446744073709551616) (hy : y < 18446744073709551616) (hbad : (!(expOf x == 2047) && !(expOf y == 2047)) = false)
    (HAW : ∀ W, Below w.heap.size w W → Calls Tryd.prog 11 #[] W fun r w' => r = .returned (.bool true) ∧ Below W.heap.size W w') :
    Calls Tryd.prog 5 #[.int .u64 x, .int .u64 y] w fun r w' => r = .returned (.bool true) ∧ Below w.heap.size w w' := by
  have h64 := f64from
  have HA := hid HAW
  have HS : Hid (∀ W b, b < W.heap.size → W.cell? ⟨b, 0, none⟩ = some (.float .f64 x) → W.cell? ⟨b, 1, none⟩ = some (.float .f64 y) → Calls Tryd.prog 18 #[.slice (some ⟨b, 0, none⟩) 2 2] W fun r w' => (∃ n a l c e, r = .returned (.tuple #[.agg #[.bool n, .slice a l c, .int .i64 e], .int .i64 4])) ∧ Below W.heap.size W w') := fun W b hb h0 h1 => by
    refine (Sum_bad [x, y] b 0 2 W (nums2 W b x y hb h0 h1) (bitl2 x y hx hy) (by simp [allFin] at hbad ⊢; exact hbad) (by simp)).mono ?_
    rintro r w' ⟨rfl, h⟩
    exact ⟨⟨_, _, _, _, _, rfl⟩, h⟩
  have HD : Hid (∀ W b c, b < W.heap.size → c < W.heap.size → W.cell? ⟨b, 0, none⟩ = some (.float .f64 x) → W.cell? ⟨c, 0, none⟩ = some (.float .f64 y) → Calls Tryd.prog 19 #[.slice (some ⟨b, 0, none⟩) 1 1, .slice (some ⟨c, 0, none⟩) 1 1] W fun r w' => (∃ n a l c e, r = .returned (.tuple #[.agg #[.bool n, .slice a l c, .int .i64 e], .int .i64 4])) ∧ Below W.heap.size W w') := fun W b c hb hc h0 h1 => by
    refine (Dot_bad [x] [y] b 0 1 c 0 1 W rfl (nums1 W b x hb h0) (nums1 W c y hc h1) (bitl1 x hx) (bitl1 y hy) (by simp [allFin] at hbad ⊢; exact hbad) (by simp)).mono ?_
    rintro r w' ⟨rfl, h⟩
    exact ⟨⟨_, _, _, _, _, rfl⟩, h⟩
  have HF1 := hid (fun (W : World) => rfinite_any x W hx)
  have HF2 := hid (fun (W : World) => rfinite_any y W hy)
  obtain ⟨p, hp⟩ : ∃ p, Hid ((!(expOf x == 2047)) = p) := ⟨_, rfl⟩
  obtain ⟨q, hq⟩ : ∃ q, Hid ((!(expOf y == 2047)) = q) := ⟨_, rfl⟩
  rw [hp.out] at HF1 hbad
  rw [hq.out] at HF2 hbad
  clear HAW hx hy
  go_enter Tryd.func5, Tryd.ntmps5
  go_wp2_with fail
  refine (HS.out _ _ (by simp) (by simp [go_sem]) (by simp [go_sem])).mono ?_
  rintro r w1 ⟨⟨n1, a1, l1, c1, e1, rfl⟩, hb1⟩
  have HB1 : Hid (Below w.heap.size w (w1.alloc (DyBox n1 a1 l1 c1 e1))) := (((Below.refl _ _).alloc (Nat.le_refl _) _).trans (hb1.mono (by simp))).alloc (by have := hb1.size; simp at this; omega) _
  obtain ⟨W1, hW1⟩ : ∃ V, Hid (w1.alloc (DyBox n1 a1 l1 c1 e1) = V) := ⟨_, rfl⟩
  have hW1' : w1.alloc (DyBox n1 a1 l1 c1 e1) = W1 := hW1.out
  rw [hW1.out] at HB1
  unfold DyBox at hW1'
  clear hb1
  go_wp2_with fail
  refine (HD.out _ _ _ (by simp; omega) (by simp) (by simp [go_sem]) (by simp [go_sem])).mono ?_
  rintro r w2 ⟨⟨n2, a2, l2, c2, e2, rfl⟩, hb2⟩
  have HB2 : Hid (Below w.heap.size w (w2.alloc (DyBox n2 a2 l2 c2 e2))) := by
    have hs2 := hb2.size
    simp at hs2
    have hs1 := HB1.out.size
    exact ((((HB1.out.alloc hs1 _).alloc (by simp; omega) _).trans (hb2.mono (by simp; omega)))).alloc (by omega) _
  obtain ⟨W2, hW2⟩ : ∃ V, Hid (w2.alloc (DyBox n2 a2 l2 c2 e2) = V) := ⟨_, rfl⟩
  have hW2' : w2.alloc (DyBox n2 a2 l2 c2 e2) = W2 := hW2.out
  rw [hW2.out] at HB2
  unfold DyBox at hW2'
  clear hb2
  cases p
  · go_wp2_with (first | (go_at_call 20; refine (HF1.out _).mono ?_; rintro r w3 ⟨rfl, rfl⟩))
    refine (HA.out _ HB2.out).mono ?_
    rintro r w4 ⟨rfl, hb4⟩
    have HB4 : Hid (Below w.heap.size w w4) := HB2.out.trans (hb4.mono HB2.out.size)
    clear hb4
    go_wp2
    go_ret
    exact ⟨rfl, HB4.out⟩
  · cases q
    · go_wp2_with fail
      refine (HF1.out _).mono ?_
      rintro r w3 ⟨rfl, rfl⟩
      go_wp2_with fail
      refine (HF2.out _).mono ?_
      rintro r w3 ⟨rfl, rfl⟩
      go_wp2_with fail
      refine (HA.out _ HB2.out).mono ?_
      rintro r w4 ⟨rfl, hb4⟩
      have HB4 : Hid (Below w.heap.size w w4) := HB2.out.trans (hb4.mono HB2.out.size)
      clear hb4
      go_wp2
      go_ret
      exact ⟨rfl, HB4.out⟩
    · cases hbad
end Go.Proofs.YtpncignipghicaaDoor

namespace Go.Proofs.YtpncignipghicaaDoor
open Go.RowKit Go.IntWalk

theorem intL_not (n : Bool) (L : List Nat) : intL (!n) L = -intL n L := by unfold intL; cases n <;> simp
/-- added of the other sign, by what the dyads stand for. -/
theorem added_neg (n1 n2 : Bool) (a1 a2 : Option Addr) (l1 l2 c1 c2 N : Nat) (e1 e2 z1 z2 e : Int) (w : World) (h1 : DyAt w n1 a1 l1 c1 e1 z1 e) (h2 : DyAt w n2 a2 l2 c2 e2 z2 e) (hz1 : z1.natAbs < 2 ^ N) (hz2 : z2.natAbs < 2 ^ N) (hN : N ≤ 6400) (he1 : -3000 ≤ e) (he2 : e ≤ 3000) (hT : Tab32 w) (hs : 1 < w.heap.size) :
    Calls Tryd.prog 42 #[.agg #[.bool n1, .slice a1 l1 c1, .int .i64 e1], .agg #[.bool (!n2), .slice a2 l2 c2, .int .i64 e2]] w fun r w' => DyOut (z1 - z2) e w.heap.size r w' ∧ Below w.heap.size w w' := by
  obtain ⟨L1, rfl, _, m1, v1, _⟩ := h1
  obtain ⟨L2, rfl, _, m2, v2, _⟩ := h2
  obtain ⟨s1, s2, s3⟩ := v1.size hz1 hN he1 he2
  obtain ⟨t1, t2, t3⟩ := v2.size hz2 hN he1 he2
  obtain ⟨m, hm⟩ : ∃ m, min e1 e2 = m := ⟨_, rfl⟩
  obtain ⟨i, hi⟩ := Int.eq_ofNat_of_zero_le (show 0 ≤ e1 - m by omega)
  obtain ⟨j, hj⟩ := Int.eq_ofNat_of_zero_le (show 0 ≤ e2 - m by omega)
  refine (added_any n1 (!n2) L1 L2 a1 a2 c1 c2 i j 600 e1 e2 m w m1 m2 v1.1 v2.1 (by omega) (by omega) (by decide) hm hi hj (by omega) (by omega) hT hs).mono ?_
  rintro r w' ⟨ho, hb⟩
  have g1 : (z1 = 0 ∧ intL n1 L1 = 0) ∨ ∃ k : Nat, intL n1 L1 * 2 ^ k = z1 ∧ e1 = e + k := by
    rcases v1.val with ⟨z0, l0, m0, x0⟩ | ⟨_, _, _, k, hk⟩
    · exact Or.inl ⟨z0, by rw [l0, m0]; rfl⟩
    · exact Or.inr ⟨k, hk⟩
  have g2 : (-z2 = 0 ∧ intL (!n2) L2 = 0) ∨ ∃ k : Nat, intL (!n2) L2 * 2 ^ k = -z2 ∧ e2 = e + k := by
    rw [intL_not]
    rcases v2.val with ⟨z0, l0, m0, x0⟩ | ⟨_, _, _, k, hk⟩
    · exact Or.inl ⟨by omega, by rw [l0, m0]; rfl⟩
    · exact Or.inr ⟨k, by rw [Int.neg_mul, hk.1], hk.2⟩
  obtain ⟨p, q, q1, q2⟩ := sum_conv _ _ z1 (-z2) e e1 e2 m i j hi hj g1 g2
  exact ⟨ho.conv q1 q2, hb⟩
set_option maxRecDepth 4000 in
set_option maxHeartbeats 2000000 in
theorem Sub_dy (n1 n2 : Bool) (a1 a2 : Option Addr) (l1 l2 c1 c2 N : Nat) (e1 e2 z1 z2 e : Int) (w : World) (h1 : DyAt w n1 a1 l1 c1 e1 z1 e) (h2 : DyAt w n2 a2 l2 c2 e2 z2 e) (hz1 : z1.natAbs < 2 ^ N) (hz2 : z2.natAbs < 2 ^ N) (hN : N ≤ 6400) (he1 : -3000 ≤ e) (he2 : e ≤ 3000) (hT : Tab32 w) (hs : 1 < w.heap.size) :
    Calls Tryd.prog 14 #[.agg #[.bool n1, .slice a1 l1 c1, .int .i64 e1], .agg #[.bool n2, .slice a2 l2 c2, .int .i64 e2]] w fun r w' => DyOut (z1 - z2) e w.heap.size r w' ∧ Below w.heap.size w w' := by
  obtain ⟨f1, f2, f3, f4, f5⟩ := AdW.facts w n1 n2 a1 a2 l1 l2 c1 c2 e1 e2
  have HM1 : Hid (∀ W, Below w.heap.size w W → Calls Tryd.prog 28 #[.agg #[.bool n1, .slice a1 l1 c1, .int .i64 e1]] W fun r w' => r = .returned (.bool true) ∧ Below W.heap.size W w') := fun W hW => (h1.below hW).may
  have HM2 : Hid (∀ W, Below w.heap.size w W → Calls Tryd.prog 28 #[.agg #[.bool n2, .slice a2 l2 c2, .int .i64 e2]] W fun r w' => r = .returned (.bool true) ∧ Below W.heap.size W w') := fun W hW => (h2.below hW).may
  have HAD : Hid (∀ W, Below w.heap.size w W → Calls Tryd.prog 42 #[.agg #[.bool n1, .slice a1 l1 c1, .int .i64 e1], .agg #[.bool (!n2), .slice a2 l2 c2, .int .i64 e2]] W fun r w' => DyOut (z1 - z2) e W.heap.size r w' ∧ Below W.heap.size W w') := fun W hW => added_neg n1 n2 a1 a2 l1 l2 c1 c2 N e1 e2 z1 z2 e W (h1.below hW) (h2.below hW) hz1 hz2 hN he1 he2 (hT.below hs hW) (Nat.lt_of_lt_of_le hs hW.size)
  obtain ⟨W0, hW0⟩ : ∃ W0, Hid (AdW w n1 n2 a1 a2 l1 l2 c1 c2 e1 e2 = W0) := ⟨_, rfl⟩
  have hW0' : AdW w n1 n2 a1 a2 l1 l2 c1 c2 e1 e2 = W0 := hW0.out
  rw [hW0'] at f1 f2 f3 f4 f5
  unfold AdW AlW DyBox at hW0'
  have HF := hid (And.intro f1 (And.intro f2 (And.intro f3 (And.intro f4 f5))))
  have hc1 := dcells_of f3
  have hc2 := dcells_of f4
  unfold DCells at hc1 hc2
  obtain ⟨p10, p11, p12⟩ := hc1
  obtain ⟨p20, p21, p22⟩ := hc2
  clear h1 h2 hz1 hz2 hN he1 he2 hT hs f1 f2 f3 f4 f5
  go_enter Tryd.func14, Tryd.ntmps14
  go_wp2_with fail
  refine (HM1.out _ HF.out.2.1).mono ?_
  rintro r w1 ⟨rfl, hb1⟩
  have HB1 := hid hb1
  have HR1 : Hid (Res (w.heap.size + 1 + 1) W0 w1) := Res.call ⟨But.refl _ _, _, _, _, HF.out.2.2.2.2⟩ hb1
  have HBW1 : Hid (Below w.heap.size w w1) := HF.out.2.1.trans (hb1.mono HF.out.2.1.size)
  have q10 : w1.cell? ⟨w.heap.size, 0, none⟩ = some (.bool n1) := HR1.out.but.cell p10 (by omega)
  have q11 : w1.cell? ⟨w.heap.size, 1, none⟩ = some (.slice a1 l1 c1) := HR1.out.but.cell p11 (by omega)
  have q12 : w1.cell? ⟨w.heap.size, 2, none⟩ = some (.int .i64 e1) := HR1.out.but.cell p12 (by omega)
  have q20 : w1.cell? ⟨w.heap.size + 1, 0, none⟩ = some (.bool n2) := HR1.out.but.cell p20 (by omega)
  have q21 : w1.cell? ⟨w.heap.size + 1, 1, none⟩ = some (.slice a2 l2 c2) := HR1.out.but.cell p21 (by omega)
  have q22 : w1.cell? ⟨w.heap.size + 1, 2, none⟩ = some (.int .i64 e2) := HR1.out.but.cell p22 (by omega)
  clear hb1
  go_wp2_with fail
  refine (HM2.out _ HBW1.out).mono ?_
  rintro r w2 ⟨rfl, hb2⟩
  have HR2 : Hid (Res (w.heap.size + 1 + 1) W0 w2) := HR1.out.call hb2
  have HBW2 : Hid (Below w.heap.size w w2) := HBW1.out.trans (hb2.mono HBW1.out.size)
  have r10 : w2.cell? ⟨w.heap.size, 0, none⟩ = some (.bool n1) := HR2.out.but.cell p10 (by omega)
  have r11 : w2.cell? ⟨w.heap.size, 1, none⟩ = some (.slice a1 l1 c1) := HR2.out.but.cell p11 (by omega)
  have r12 : w2.cell? ⟨w.heap.size, 2, none⟩ = some (.int .i64 e1) := HR2.out.but.cell p12 (by omega)
  have r20 : w2.cell? ⟨w.heap.size + 1, 0, none⟩ = some (.bool n2) := HR2.out.but.cell p20 (by omega)
  have r21 : w2.cell? ⟨w.heap.size + 1, 1, none⟩ = some (.slice a2 l2 c2) := HR2.out.but.cell p21 (by omega)
  have r22 : w2.cell? ⟨w.heap.size + 1, 2, none⟩ = some (.int .i64 e2) := HR2.out.but.cell p22 (by omega)
  have hz2 : w.heap.size + 1 + 1 < w2.heap.size := HR2.out.facts.2.1
  have rf : ∀ o, w2.frozen? ⟨w.heap.size + 1, o, none⟩ = false := fun o => by
    have hb : w2.heap[w.heap.size + 1]? = some (DyBox n2 a2 l2 c2 e2) := by
      rw [hb2.block _ (by have := HR1.out.facts.2.1; omega), HB1.out.block _ (by rw [HF.out.1]; omega)]
      exact HF.out.2.2.2.1
    simp [World.frozen?, hb, DyBox]
  obtain ⟨W3, hW3⟩ : ∃ W3, Hid (w2.setCell ⟨w.heap.size + 1, 0, none⟩ (.bool (!n2)) = W3) := ⟨_, rfl⟩
  have HBW3 : Hid (Below w.heap.size w W3) := by rw [← hW3.out]; exact Below.setCell HBW2.out (by simp) _
  have HR3' : Hid (Res (w.heap.size + 1 + 1) W3 W3) := by
    obtain ⟨x0, x1, x2, hx⟩ := HR2.out.cells
    refine ⟨But.refl _ _, x0, x1, x2, ?_⟩
    rw [← hW3.out, Below.heap_setCell _ _ _ _ (by simp)]
    exact hx
  have hs3 : W3.heap.size = w2.heap.size := by rw [← hW3.out]; simp [World.setCell]
  have HN2 := hid (fun (c : Bool) (h : c = !n2) => h)
  clear hb2 q10 q11 q12 q20 q21 q22
  go_wp2_with fail
  rw [hW3.out]
  refine (HAD.out _ HBW3.out).mono ?_
  rintro r w3 ⟨ho, hb3⟩
  obtain ⟨neg', b', k', d', x', rfl, hr⟩ := ho.ret
  have HR3 : Hid (Res (w.heap.size + 1 + 1) W3 w3) := HR3'.out.call hb3
  have HRT : Hid (DyRet (z1 - z2) e (w.heap.size + 1 + 1 + 1) neg' b' k' d' x' w3) := DyOut.but hr (But.refl (w.heap.size + 1 + 1) _) (by rw [hs3]; exact hz2) (by rw [hs3]; exact hz2)
  obtain ⟨fz, _, v0, v1, v2, c0, c1', c2'⟩ := HR3.out.facts
  clear hr ho hb3 HF
  go_wp2
  exact bodyPost_ret (v := .tuple #[.agg #[.bool neg', .slice b' k' d', .int .i64 x'], .int .i64 0]) (by simp [results, Tryd.results14, go_sem, c0, c1', c2']) rfl (res_end HBW3.out (by omega) HRT HR3)
end Go.Proofs.YtpncignipghicaaDoor
