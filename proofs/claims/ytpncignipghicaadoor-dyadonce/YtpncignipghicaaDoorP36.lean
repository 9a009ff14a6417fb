
/- What dyad's Mul does, by the numbers that its dyads stand for. -/
import Derived.Test.YtpncignipghicaaDoorP35
import Derived.Test.YtpncignipghicaaDoorP10
namespace Go.Proofs.YtpncignipghicaaDoor
open Go.RowKit Go.IntWalk

theorem sgn_times (n1 n2 : Bool) (L1 L2 : List Nat) : sgnN (n1 != n2) (natL L1 * natL L2) = intL n1 L1 * intL n2 L2 := by
  unfold sgnN intL
  cases n1 <;> cases n2 <;> simp [Int.natCast_mul, Int.neg_mul, Int.mul_neg]
theorem prod_conv (i1 i2 z1 z2 ez1 ez2 e1 e2 : Int) (h1 : (z1 = 0 ∧ i1 = 0) ∨ ∃ k : Nat, i1 * 2 ^ k = z1 ∧ e1 = ez1 + k) (h2 : (z2 = 0 ∧ i2 = 0) ∨ ∃ k : Nat, i2 * 2 ^ k = z2 ∧ e2 = ez2 + k) : ∃ p q : Nat, i1 * i2 * 2 ^ p = z1 * z2 * 2 ^ q ∧ e1 + e2 - p = ez1 + ez2 - q := by
  have zero : i1 * i2 = 0 → z1 * z2 = 0 → ∃ p q : Nat, i1 * i2 * 2 ^ p = z1 * z2 * 2 ^ q ∧ e1 + e2 - p = ez1 + ez2 - q := fun a b => by
    refine ⟨(e1 + e2 - min (e1 + e2) (ez1 + ez2)).toNat, (ez1 + ez2 - min (e1 + e2) (ez1 + ez2)).toNat, by rw [a, b, Int.zero_mul, Int.zero_mul], by omega⟩
  rcases h1 with ⟨a, b⟩ | ⟨k, hk, hx⟩
  · exact zero (by rw [b, Int.zero_mul]) (by rw [a, Int.zero_mul])
  · rcases h2 with ⟨a, b⟩ | ⟨l, hl, hy⟩
    · exact zero (by rw [b, Int.mul_zero]) (by rw [a, Int.mul_zero])
    · refine ⟨k + l, 0, ?_, by omega⟩
      rw [Int.pow_zero, Int.mul_one, ← hk, ← hl, Int.pow_add, Int.mul_assoc, Int.mul_assoc, Int.mul_left_comm i2]
set_option maxRecDepth 4000 in
set_option maxHeartbeats 2000000 in
theorem Mul_dy (n1 n2 : Bool) (a1 a2 : Option Addr) (l1 l2 c1 c2 N : Nat) (e1 e2 z1 z2 ez1 ez2 : Int) (w : World) (h1 : DyAt w n1 a1 l1 c1 e1 z1 ez1) (h2 : DyAt w n2 a2 l2 c2 e2 z2 ez2) (hz1 : z1.natAbs < 2 ^ N) (hz2 : z2.natAbs < 2 ^ N) (hN : N ≤ 6400) (he1 : -3000 ≤ ez1) (he2 : ez1 ≤ 3000) (he3 : -3000 ≤ ez2) (he4 : ez2 ≤ 3000) (hT : Tab32 w) (hs : 1 < w.heap.size) :
    Calls Tryd.prog 13 #[.agg #[.bool n1, .slice a1 l1 c1, .int .i64 e1], .agg #[.bool n2, .slice a2 l2 c2, .int .i64 e2]] w fun r w' => DyOut (z1 * z2) (ez1 + ez2) w.heap.size r w' ∧ Below w.heap.size w w' := by
  obtain ⟨f1, f2, f3, f4, f5⟩ := AdW.facts w n1 n2 a1 a2 l1 l2 c1 c2 e1 e2
  have HM1 : Hid (∀ W, Below w.heap.size w W → Calls Tryd.prog 28 #[.agg #[.bool n1, .slice a1 l1 c1, .int .i64 e1]] W fun r w' => r = .returned (.bool true) ∧ Below W.heap.size W w') := fun W hW => (h1.below hW).may
  have HM2 : Hid (∀ W, Below w.heap.size w W → Calls Tryd.prog 28 #[.agg #[.bool n2, .slice a2 l2 c2, .int .i64 e2]] W fun r w' => r = .returned (.bool true) ∧ Below W.heap.size W w') := fun W hW => (h2.below hW).may
  have HTI : Hid (∀ W, Below w.heap.size w W → Calls Tryd.prog 43 #[.slice a1 l1 c1, .slice a2 l2 c2] W fun r w' => ∃ n a cap, r = .returned (.slice a n cap) ∧ Hid (∃ LS v, LS.length = n ∧ MagIs v 402 LS a cap w' ∧ ∃ p q : Nat, sgnN (n1 != n2) v * 2 ^ p = z1 * z2 * 2 ^ q ∧ e1 + e2 - p = ez1 + ez2 - q) ∧ Below W.heap.size W w') := fun W hW => by
    obtain ⟨L1, rfl, _, m1, v1, _⟩ := h1
    obtain ⟨L2, rfl, _, m2, v2, _⟩ := h2
    obtain ⟨s1, s2, s3⟩ := v1.size hz1 hN he1 he2
    obtain ⟨t1, t2, t3⟩ := v2.size hz2 hN he3 he4
    refine (dtimes_any L1 L2 a1 a2 c1 c2 W (m1.below hW) (m2.below hW) (by omega) (by omega) v1.1 v2.1).mono ?_
    rintro r w' ⟨⟨LS, a, cap, rfl, x1, x2, x3, x4, x5, x6⟩, hb⟩
    have g1 : (z1 = 0 ∧ intL n1 L1 = 0) ∨ ∃ k : Nat, intL n1 L1 * 2 ^ k = z1 ∧ e1 = ez1 + k := by
      rcases v1.val with ⟨z0, l0, m0, x0⟩ | ⟨_, _, _, k, hk⟩
      · exact Or.inl ⟨z0, by rw [l0, m0]; rfl⟩
      · exact Or.inr ⟨k, hk⟩
    have g2 : (z2 = 0 ∧ intL n2 L2 = 0) ∨ ∃ k : Nat, intL n2 L2 * 2 ^ k = z2 ∧ e2 = ez2 + k := by
      rcases v2.val with ⟨z0, l0, m0, x0⟩ | ⟨_, _, _, k, hk⟩
      · exact Or.inl ⟨z0, by rw [l0, m0]; rfl⟩
      · exact Or.inr ⟨k, hk⟩
    refine ⟨LS.length, a, cap, rfl, ⟨LS, natL L1 * natL L2, rfl, ⟨x1, by omega, x3, x4, x5, x6⟩, ?_⟩, hb⟩
    rw [sgn_times]
    exact prod_conv _ _ z1 z2 ez1 ez2 e1 e2 g1 g2
  have HEB : Hid (-6000 ≤ e1 + e2 ∧ e1 + e2 ≤ 18800) := by
    obtain ⟨L1, _, _, _, v1, _⟩ := h1
    obtain ⟨L2, _, _, _, v2, _⟩ := h2
    obtain ⟨s1, s2, s3⟩ := v1.size hz1 hN he1 he2
    obtain ⟨t1, t2, t3⟩ := v2.size hz2 hN he3 he4
    show -6000 ≤ e1 + e2 ∧ e1 + e2 ≤ 18800
    omega
  have HT := hid hT
  have HS := hid hs
  obtain ⟨W0, hW0⟩ : ∃ W0, Hid (AdW w n1 n2 a1 a2 l1 l2 c1 c2 e1 e2 = W0) := ⟨_, rfl⟩
  have hW0' : AdW w n1 n2 a1 a2 l1 l2 c1 c2 e1 e2 = W0 := hW0.out
  rw [hW0'] at f1 f2 f3 f4 f5
  unfold AdW AlW DyBox at hW0'
  have HF := hid (And.intro f1 (And.intro f2 (And.intro f3 (And.intro f4 f5))))
  have hc1 := dcells_of f3
  have hc2 := dcells_of f4
  unfold DCells at hc1 hc2
  obtain ⟨p10, p11, p12⟩ := hc1
  obtain ⟨p20, p21, p22⟩ := hc2
  clear h1 h2 hz1 hz2 hN he1 he2 he3 he4 hT hs f1 f2 f3 f4 f5
  go_enter Tryd.func13, Tryd.ntmps13
  go_wp2_with fail
  refine (HM1.out _ HF.out.2.1).mono ?_
  rintro r w1 ⟨rfl, hb1⟩
  have HB1 := hid hb1
  have HR1 : Hid (Res (w.heap.size + 1 + 1) W0 w1) := Res.call ⟨But.refl _ _, _, _, _, HF.out.2.2.2.2⟩ hb1
  have HBW1 : Hid (Below w.heap.size w w1) := HF.out.2.1.trans (hb1.mono HF.out.2.1.size)
  have q10 : w1.cell? ⟨w.heap.size, 0, none⟩ = some (.bool n1) := HR1.out.but.cell p10 (by omega)
  have q11 : w1.cell? ⟨w.heap.size, 1, none⟩ = some (.slice a1 l1 c1) := HR1.out.but.cell p11 (by omega)
  have q12 : w1.cell? ⟨w.heap.size, 2, none⟩ = some (.int .i64 e1) := HR1.out.but.cell p12 (by omega)
  have q20 : w1.cell? ⟨w.heap.size + 1, 0, none⟩ = some (.bool n2) := HR1.out.but.cell p20 (by omega)
  have q21 : w1.cell? ⟨w.heap.size + 1, 1, none⟩ = some (.slice a2 l2 c2) := HR1.out.but.cell p21 (by omega)
  have q22 : w1.cell? ⟨w.heap.size + 1, 2, none⟩ = some (.int .i64 e2) := HR1.out.but.cell p22 (by omega)
  clear hb1
  go_wp2_with fail
  refine (HM2.out _ HBW1.out).mono ?_
  rintro r w2 ⟨rfl, hb2⟩
  have HR2 : Hid (Res (w.heap.size + 1 + 1) W0 w2) := HR1.out.call hb2
  have HBW2 : Hid (Below w.heap.size w w2) := HBW1.out.trans (hb2.mono HBW1.out.size)
  have r10 : w2.cell? ⟨w.heap.size, 0, none⟩ = some (.bool n1) := HR2.out.but.cell p10 (by omega)
  have r11 : w2.cell? ⟨w.heap.size, 1, none⟩ = some (.slice a1 l1 c1) := HR2.out.but.cell p11 (by omega)
  have r12 : w2.cell? ⟨w.heap.size, 2, none⟩ = some (.int .i64 e1) := HR2.out.but.cell p12 (by omega)
  have r20 : w2.cell? ⟨w.heap.size + 1, 0, none⟩ = some (.bool n2) := HR2.out.but.cell p20 (by omega)
  have r21 : w2.cell? ⟨w.heap.size + 1, 1, none⟩ = some (.slice a2 l2 c2) := HR2.out.but.cell p21 (by omega)
  have r22 : w2.cell? ⟨w.heap.size + 1, 2, none⟩ = some (.int .i64 e2) := HR2.out.but.cell p22 (by omega)
  have hz2 : w.heap.size + 1 + 1 < w2.heap.size := HR2.out.facts.2.1
  obtain ⟨E, hE⟩ : ∃ E, Hid (e1 + e2 = E) := ⟨_, rfl⟩
  have hE1 : IntKind.i64.wrap (e1 + e2) = E := by have := HEB.out; have := hE.out; rw [IntWalk.i64_in _ (by omega)]; omega
  have hE2 : e1 + e2 = E := hE.out
  have hE3 : IntKind.i64.wrap E = E := by have := HEB.out; have := hE.out; rw [IntWalk.i64_in _ (by omega)]
  rw [hE.out] at HEB HTI
  obtain ⟨nn, hnn⟩ : ∃ nn, Hid ((n1 != n2) = nn) := ⟨_, rfl⟩
  have hnn' : (!(n1 == n2)) = nn := hnn.out
  rw [hnn.out] at HTI
  have HRR : Hid (Res (w.heap.size + 1 + 1) w2 w2) := ⟨But.refl _ _, HR2.out.cells⟩
  have HQ0 := res_dr HRR
  have HK : Hid (∀ W, Hid (Res (w.heap.size + 1 + 1) w2 W) → ((W.cell? ⟨w.heap.size, 0, none⟩ = some (.bool n1) ∧ W.cell? ⟨w.heap.size, 1, none⟩ = some (.slice a1 l1 c1) ∧ W.cell? ⟨w.heap.size, 2, none⟩ = some (.int .i64 e1)) ∧ (W.cell? ⟨w.heap.size + 1, 0, none⟩ = some (.bool n2) ∧ W.cell? ⟨w.heap.size + 1, 1, none⟩ = some (.slice a2 l2 c2) ∧ W.cell? ⟨w.heap.size + 1, 2, none⟩ = some (.int .i64 e2))) ∧ Hid (Res (w.heap.size + 1 + 1) w2 W)) := fun W hW => ⟨⟨⟨hW.out.but.cell r10 (by omega), hW.out.but.cell r11 (by omega), hW.out.but.cell r12 (by omega)⟩, ⟨hW.out.but.cell r20 (by omega), hW.out.but.cell r21 (by omega), hW.out.but.cell r22 (by omega)⟩⟩, hW⟩
  have HT2 : Hid (∀ W, Hid (Res (w.heap.size + 1 + 1) w2 W) → Calls Tryd.prog 43 #[.slice a1 l1 c1, .slice a2 l2 c2] W fun r w' => ∃ n a cap, r = .returned (.slice a n cap) ∧ Hid (∃ LS v, LS.length = n ∧ MagIs v 402 LS a cap w' ∧ ∃ p q : Nat, sgnN nn v * 2 ^ p = z1 * z2 * 2 ^ q ∧ E - p = ez1 + ez2 - q) ∧ Hid (Res (w.heap.size + 1 + 1) w2 w')) := fun W hW => by
    refine (HTI.out W (HBW2.out.trans (hW.out.but.below HBW2.out.size (by omega)))).mono ?_
    rintro r w' ⟨n, a, cap, rfl, hx, hb⟩
    exact ⟨n, a, cap, rfl, hx, hW.out.call hb⟩
  have HWR : Hid (∀ W n a cap, Hid (Res (w.heap.size + 1 + 1) w2 W) → Hid (∃ LS v, LS.length = n ∧ MagIs v 402 LS a cap W ∧ ∃ p q : Nat, sgnN nn v * 2 ^ p = z1 * z2 * 2 ^ q ∧ E - p = ez1 + ez2 - q) → Calls Tryd.prog 40 #[.bool nn, .slice a n cap, .int .i64 E] W fun r w' => ∃ neg' a' n' cap' e' v0 v1 v2, r = .returned (.tuple #[.agg #[.bool neg', .slice a' n' cap', .int .i64 e'], .int .i64 0]) ∧ Hid (DyRet (z1 * z2) (ez1 + ez2) (w.heap.size + 1 + 1 + 1) neg' a' n' cap' e' w') ∧ Hid (Res (w.heap.size + 1 + 1) w2 w') ∧ (∀ o, w'.frozen? ⟨w.heap.size + 1 + 1, o, none⟩ = false) ∧ w'.cell? ⟨w.heap.size + 1 + 1, 0, none⟩ = some v0 ∧ w'.cell? ⟨w.heap.size + 1 + 1, 1, none⟩ = some v1 ∧ w'.cell? ⟨w.heap.size + 1 + 1, 2, none⟩ = some v2) := fun W n a cap hW hM => by
    obtain ⟨LS, v, rfl, hM', p, q, q1, q2⟩ := hM.out
    refine (written_res (w.heap.size + 1 + 1) w w2 W nn v 402 LS a cap E hW.out HBW2.out (by omega) HT.out HS.out hM' (by decide) (by have := HEB.out; omega) (by have := HEB.out; omega)).mono ?_
    rintro r w' ⟨neg', a', n', cap', e', v0, v1, v2, hr, hd, hrest⟩
    exact ⟨neg', a', n', cap', e', v0, v1, v2, hr, DyOut.conv hd.out q1 q2, hrest⟩
  have HBF := HBW2
  clear hb2 q10 q11 q12 q20 q21 q22 HEB
  go_wp2_with fail
  go_region_held3 (fun W => ((W.cell? ⟨w.heap.size, 0, none⟩ = some (.bool n1) ∧ W.cell? ⟨w.heap.size, 1, none⟩ = some (.slice a1 l1 c1) ∧ W.cell? ⟨w.heap.size, 2, none⟩ = some (.int .i64 e1)) ∧ (W.cell? ⟨w.heap.size + 1, 0, none⟩ = some (.bool n2) ∧ W.cell? ⟨w.heap.size + 1, 1, none⟩ = some (.slice a2 l2 c2) ∧ W.cell? ⟨w.heap.size + 1, 2, none⟩ = some (.int .i64 e2))) ∧ Hid (Res (w.heap.size + 1 + 1) w2 W))
    ((refine HK.out _ ?_; first | assumption | exact HQ0 | exact res_dr (by assumption) | exact res_store (by assumption) _ _ _ | exact res_dr (res_store (by assumption) _ _ _)))
    (first
      | (go_at_call 43; with_reducible refine (HT2.out _ (And.right (by assumption))).mono ?_; rintro r w4 ⟨n', a', cap', rfl, HM4, HF4⟩)
      | (go_at_call 40; with_reducible refine (HWR.out _ _ _ _ (And.right (by assumption)) (by assumption)).mono ?_; rintro r w3 ⟨neg', b', k', d', x', v0, v1, v2, rfl, HRT, HF3, fz, c0, c1', c2'⟩))
  all_goals go_wp2
  all_goals exact bodyPost_ret (v := .tuple #[.agg #[.bool neg', .slice b' k' d', .int .i64 x'], .int .i64 0]) (by simp [results, Tryd.results13, go_sem, c0, c1', c2']) rfl (res_end HBF.out (by omega) HRT HF3)
end Go.Proofs.YtpncignipghicaaDoor

namespace Go.Proofs.YtpncignipghicaaDoor
open Go.RowKit Go.IntWalk

set_option maxRecDepth 4000 in
set_option maxHeartbeats 2000000 in
theorem Same_yes (neg : Bool) (L : List Nat) (a1 a2 : Option Addr) (c1 c2 : Nat) (e : Int) (w : World) (h1 : MagAt w a1 L) (h2 : MagAt w a2 L) (hn : L.length ≤ 1000000) :
    Calls Tryd.prog 15 #[.agg #[.bool neg, .slice a1 L.length c1, .int .i64 e], .agg #[.bool neg, .slice a2 L.length c2, .int .i64 e]] w fun r w' => r = .returned (.bool true) ∧ Below w.heap.size w w' := by
  have H1 := hid h1
  have H2 := hid h2
  obtain ⟨n, hnl⟩ : ∃ n, Hid (L.length = n) := ⟨_, rfl⟩
  rw [hnl.out] at hn ⊢
  obtain ⟨W0, hW0⟩ : ∃ W0, Hid (AlW w neg neg a1 a2 n n c1 c2 e e = W0) := ⟨_, rfl⟩
  have hW0' : AlW w neg neg a1 a2 n n c1 c2 e e = W0 := hW0.out
  have hs0 := AlW.size w neg neg a1 a2 n n c1 c2 e e
  have hb0 := AlW.below w neg neg a1 a2 n n c1 c2 e e
  obtain ⟨f3, f4⟩ := AlW.cells w neg neg a1 a2 n n c1 c2 e e
  rw [hW0'] at hs0 hb0 f3 f4
  unfold AlW DyBox at hW0'
  have hc1 := dcells_of f3
  have hc2 := dcells_of f4
  unfold DCells at hc1 hc2
  obtain ⟨p10, p11, p12⟩ := hc1
  obtain ⟨p20, p21, p22⟩ := hc2
  have HB0 := hid hb0
  have HS0 := hid hs0
  have hbe : (neg == neg) = true := by simp
  clear h1 h2 f3 f4 hb0 hs0
  go_enter Tryd.func15, Tryd.ntmps15
  go_wp2
  go_loopw [30] (fun i wr => ∃ k : Nat, k ≤ n ∧ i = .int .i64 k ∧ Hid (Below W0.heap.size W0 wr)) (fun i _ => n - (intOf i).toNat)
  case atStart => exact ⟨0, Nat.zero_le _, rfl, Below.refl _ _⟩
  case round =>
    obtain ⟨k, hk, rfl, HBW⟩ := hrel
    have hlt1 : w.heap.size < W0.heap.size := by rw [HS0.out]; omega
    have hlt2 : w.heap.size + 1 < W0.heap.size := by rw [HS0.out]; omega
    by_cases hlt : k < n
    · obtain ⟨b1, o1, rfl, hb1, hx1⟩ := H1.out k (by rw [hnl.out]; exact hlt)
      obtain ⟨b2, o2, rfl, hb2, hx2⟩ := H2.out k (by rw [hnl.out]; exact hlt)
      have q11 : wr.cell? ⟨w.heap.size, 1, none⟩ = some (.slice (some ⟨b1, o1, none⟩) n c1) := by rw [HBW.out.cell (p := ⟨w.heap.size, 1, none⟩) hlt1]; exact p11
      have q21 : wr.cell? ⟨w.heap.size + 1, 1, none⟩ = some (.slice (some ⟨b2, o2, none⟩) n c2) := by rw [HBW.out.cell (p := ⟨w.heap.size + 1, 1, none⟩) hlt2]; exact p21
      have y1 : wr.cell? ⟨b1, o1 + k, none⟩ = some (.int .u32 (L.getD k 0)) := by
        rw [HBW.out.cell (p := ⟨b1, o1 + k, none⟩) (Nat.lt_of_lt_of_le hb1 HB0.out.size), HB0.out.cell (p := ⟨b1, o1 + k, none⟩) hb1]
        exact hx1
      have y2 : wr.cell? ⟨b2, o2 + k, none⟩ = some (.int .u32 (L.getD k 0)) := by
        rw [HBW.out.cell (p := ⟨b2, o2 + k, none⟩) (Nat.lt_of_lt_of_le hb2 HB0.out.size), HB0.out.cell (p := ⟨b2, o2 + k, none⟩) hb2]
        exact hx2
      obtain ⟨x, hx⟩ : ∃ x, Hid (L.getD k 0 = x) := ⟨_, rfl⟩
      rw [hx.out] at y1 y2
      have hkI : (k : Int) < (n : Int) := by omega
      have hk0 : (0 : Int) ≤ (k : Int) := by omega
      clear hx1 hx2 hb1 hb2 p10 p11 p12 p20 p21 p22 hlt1 hlt2
      go_wp2_with fail
      go_region_held3 (fun W => (W.cell? ⟨w.heap.size, 1, none⟩ = some (.slice (some ⟨b1, o1, none⟩) n c1) ∧ W.cell? ⟨w.heap.size + 1, 1, none⟩ = some (.slice (some ⟨b2, o2, none⟩) n c2)) ∧ W.cell? ⟨b1, o1 + k, none⟩ = some (.int .u32 x) ∧ W.cell? ⟨b2, o2 + k, none⟩ = some (.int .u32 x)) (go_keep) (fail)
      all_goals go_wp2
      all_goals
        refine ⟨⟨k + 1, by omega, by go_num, ?_⟩, by simp [intOf]; omega⟩
        first | exact HBW.out.drew | exact bl_drewN _ HBW.out
    · have hkn : k = n := by omega
      subst hkn
      have HBE : Hid (Below w.heap.size w wr) := HB0.out.trans (HBW.out.mono HB0.out.size)
      go_wp2
      go_ret
      exact ⟨rfl, HBE.out⟩
theorem Same_dy (n1 n2 : Bool) (a1 a2 : Option Addr) (l1 l2 c1 c2 : Nat) (e1 e2 z e : Int) (w : World) (h1 : DyAt w n1 a1 l1 c1 e1 z e) (h2 : DyAt w n2 a2 l2 c2 e2 z e) :
    Calls Tryd.prog 15 #[.agg #[.bool n1, .slice a1 l1 c1, .int .i64 e1], .agg #[.bool n2, .slice a2 l2 c2, .int .i64 e2]] w fun r w' => r = .returned (.bool true) ∧ Below w.heap.size w w' := by
  obtain ⟨L1, rfl, _, m1, v1, y1⟩ := h1
  obtain ⟨L2, rfl, _, m2, v2, _⟩ := h2
  obtain ⟨rfl, rfl, rfl⟩ := v1.uniq v2
  refine Same_yes n1 L1 a1 a2 c1 c2 e1 w m1 m2 ?_
  rcases y1 with ⟨rfl, _, _⟩ | ⟨_, _, _, hl, _⟩
  · exact Nat.zero_le _
  · omega
end Go.Proofs.YtpncignipghicaaDoor

namespace Go.Proofs.YtpncignipghicaaDoor
open Go.RowKit Go.IntWalk

set_option maxHeartbeats 4000000 in
theorem sum_less (z x y : Nat) (neg turn : Bool) (A B : List Nat) (w : World) (hz : ZOk z w w) (hx : BigAt w x neg A) (hy : BigAt w y (neg == turn) B) (hA : A.length ≤ 999999) (hB : B.length ≤ 999999) (hle : natL A < natL B) :
    Calls Tryd.prog 96 #[.pointer (some ⟨z, 0, none⟩), .pointer (some ⟨x, 0, none⟩), .pointer (some ⟨y, 0, none⟩), .bool turn] w fun r w' => r = .returned (.pointer (some ⟨z, 0, none⟩)) ∧ PutIs z (!neg && decide (natL B - natL A ≠ 0)) (natL B - natL A) B.length w w' := by
  obtain ⟨a, ca, ho, hcap, hm, hd, hc, hneg⟩ := hx
  obtain ⟨c0, c1, hf, hlt⟩ := int_cells ho
  obtain ⟨b, cb, ho', hcap', hm', hd', hc', hneg'⟩ := hy
  obtain ⟨c0', c1', hf', hlt'⟩ := int_cells ho'
  have HC : Hid (∀ w', Below w.heap.size w w' → Calls Tryd.prog 123 #[.slice a A.length ca, .slice b B.length cb] w' fun r w1 => r = .returned (.int .i64 (-1)) ∧ Hid (Below w.heap.size w w1) ∧ w1.cell? ⟨x, 1, none⟩ = some (.slice a A.length ca) ∧ w1.cell? ⟨y, 1, none⟩ = some (.slice b B.length cb)) := by
    intro w' hb
    refine (bcompare_any A B a b ca cb w' (hm.below hb) (hm'.below hb) hd hd' hc hc' (by omega) (by omega)).mono ?_
    rintro r w1 ⟨rfl, hb1⟩
    have hb2 := bl_then hb hb1
    exact ⟨by rw [cmpI_lt hle], hb2, by rw [hb2.cell (p := ⟨x, 1, none⟩) hlt]; exact c1, by rw [hb2.cell (p := ⟨y, 1, none⟩) hlt']; exact c1'⟩
  have HL : Hid (∀ w', Hid (Below w.heap.size w w') → Calls Tryd.prog 119 #[.slice b B.length cb, .slice a A.length ca] w'.drew fun r w1 => ∃ L' a' cap', r = .returned (.slice a' L'.length cap') ∧ Hid (MagIs (natL B - natL A) B.length L' a' cap' w1) ∧ Hid (ZOk z w w1)) := by
    intro w' hb0
    have hb := hb0.out.drew
    refine (minus_any B A b a cb ca w'.drew (hm'.below hb) (hm.below hb) hd' hd hc (by omega) (by omega)).mono ?_
    rintro r w1 ⟨⟨L', a', cap', hr, h1⟩, hb1⟩
    exact ⟨L', a', cap', hr, h1, ZOk.below hz (bl_then hb hb1)⟩
  obtain ⟨v, hv⟩ : ∃ v, Hid (natL B - natL A = v) := ⟨_, rfl⟩
  rw [hv.out] at HL ⊢
  have HP : Hid (∀ w1 L' a' cap', Hid (ZOk z w w1) → Hid (MagIs v B.length L' a' cap' w1) → Calls Tryd.prog 85 #[.pointer (some ⟨z, 0, none⟩), .bool (!neg), .slice a' L'.length cap'] w1 fun r w' => r = .returned (.pointer (some ⟨z, 0, none⟩)) ∧ Hid (PutIs z (!neg && decide (v ≠ 0)) v B.length w w')) := by
    intro w1 L' a' cap' h1 h2
    exact put_is z (!neg) v B.length w w1 L' a' cap' h1.out h2.out (by omega)
  obtain ⟨k, hk⟩ : ∃ k, Hid (A.length = k) := ⟨_, rfl⟩
  obtain ⟨l, hl⟩ : ∃ l, Hid (B.length = l) := ⟨_, rfl⟩
  rw [hk.out] at HL HC c1
  rw [hl.out] at HL HC HP c1' ⊢
  have HZ : Hid (∀ m, Below w.heap.size w ((w.drewN m).drew)) := fun m => Below.drew (bl_drewN _ (Below.refl _ _))
  have HZ0 : Hid (Below w.heap.size w w.drew) := Below.drew (Below.refl _ _)
  clear hz hA hB hm hm' hd hd' hc hc' hneg hneg' ho ho' hcap hcap' hf hf' hle
  cases neg <;> cases turn
  all_goals
    go_enter Tryd.func96, Tryd.ntmps96
    go_wp2_with fail
  all_goals go_region_with (first
      | (go_at_call 123; refine (HC.out _ HZ0.out).mono ?_; rintro r w1 ⟨rfl, HB1, k1, k2⟩))
  all_goals go_wp2_with fail
  all_goals go_region_with (first
      | (go_at_call 119; refine (HL.out _ (by assumption)).mono ?_; rintro r w1 ⟨L', a', cap', rfl, HM, HZ1⟩)
      | (go_at_call 85; refine (HP.out _ _ _ _ (by assumption) (by assumption)).mono ?_; rintro r w1 ⟨rfl, HE⟩))
  all_goals go_wp2
  all_goals go_ret
  all_goals exact ⟨rfl, Hid.out (by assumption)⟩
end Go.Proofs.YtpncignipghicaaDoor
