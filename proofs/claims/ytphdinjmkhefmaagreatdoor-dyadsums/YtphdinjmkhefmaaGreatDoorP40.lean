
/- What dyad's Sub, Mul and Neg do, by the numbers that their dyads stand for. -/
import Derived.Test.YtphdinjmkhefmaaGreatDoorP26
namespace Go.Proofs.YtphdinjmkhefmaaGreatDoor
open Go.RowKit Go.IntWalk

theorem intL_not (n : Bool) (L : List Nat) : intL (!n) L = -intL n L := by unfold intL; cases n <;> simp
/-- added of the other sign, by what the dyads stand for. -/
theorem added_neg (n1 n2 : Bool) (a1 a2 : Option Addr) (l1 l2 c1 c2 N : Nat) (e1 e2 z1 z2 e : Int) (w : World) (h1 : DyAt w n1 a1 l1 c1 e1 z1 e) (h2 : DyAt w n2 a2 l2 c2 e2 z2 e) (hz1 : z1.natAbs < 2 ^ N) (hz2 : z2.natAbs < 2 ^ N) (hN : N ≤ 6400) (he1 : -3000 ≤ e) (he2 : e ≤ 3000) (hT : Tab32 w) (hs : 1 < w.heap.size) :
    Calls Tryz.prog 48 #[.agg #[.bool n1, .slice a1 l1 c1, .int .i64 e1], .agg #[.bool (!n2), .slice a2 l2 c2, .int .i64 e2]] w fun r w' => DyOut (z1 - z2) e w.heap.size r w' ∧ Below w.heap.size w w' := by
  obtain ⟨L1, rfl, _, m1, v1, _⟩ := h1
  obtain ⟨L2, rfl, _, m2, v2, _⟩ := h2
  obtain ⟨s1, s2, s3⟩ := v1.size hz1 hN he1 he2
  obtain ⟨t1, t2, t3⟩ := v2.size hz2 hN he1 he2
  obtain ⟨m, hm⟩ : ∃ m, min e1 e2 = m := ⟨_, rfl⟩
  obtain ⟨i, hi⟩ := Int.eq_ofNat_of_zero_le (show 0 ≤ e1 - m by omega)
  obtain ⟨j, hj⟩ := Int.eq_ofNat_of_zero_le (show 0 ≤ e2 - m by omega)
  refine (added_any n1 (!n2) L1 L2 a1 a2 c1 c2 i j 600 e1 e2 m w m1 m2 v1.1 v2.1 (by omega) (by omega) (by decide) hm hi hj (by omega) (by omega) hT hs).mono ?_
  rintro r w' ⟨ho, hb⟩
  have g1 : (z1 = 0 ∧ intL n1 L1 = 0) ∨ ∃ k : Nat, intL n1 L1 * 2 ^ k = z1 ∧ e1 = e + k := by
    rcases v1.val with ⟨z0, l0, m0, x0⟩ | ⟨_, _, _, k, hk⟩
    · exact Or.inl ⟨z0, by rw [l0, m0]; rfl⟩
    · exact Or.inr ⟨k, hk⟩
  have g2 : (-z2 = 0 ∧ intL (!n2) L2 = 0) ∨ ∃ k : Nat, intL (!n2) L2 * 2 ^ k = -z2 ∧ e2 = e + k := by
    rw [intL_not]
    rcases v2.val with ⟨z0, l0, m0, x0⟩ | ⟨_, _, _, k, hk⟩
    · exact Or.inl ⟨by omega, by rw [l0, m0]; rfl⟩
    · exact Or.inr ⟨k, by rw [Int.neg_mul, hk.1], hk.2⟩
  obtain ⟨p, q, q1, q2⟩ := sum_conv _ _ z1 (-z2) e e1 e2 m i j hi hj g1 g2
  exact ⟨ho.conv q1 q2, hb⟩
end Go.Proofs.YtphdinjmkhefmaaGreatDoor

namespace Go.Proofs.YtphdinjmkhefmaaGreatDoor
open Go.RowKit Go.IntWalk

theorem sgn_times (n1 n2 : Bool) (L1 L2 : List Nat) : sgnN (n1 != n2) (natL L1 * natL L2) = intL n1 L1 * intL n2 L2 := by
  unfold sgnN intL
  cases n1 <;> cases n2 <;> simp [Int.natCast_mul, Int.neg_mul, Int.mul_neg]
theorem prod_conv (i1 i2 z1 z2 ez1 ez2 e1 e2 : Int) (h1 : (z1 = 0 ∧ i1 = 0) ∨ ∃ k : Nat, i1 * 2 ^ k = z1 ∧ e1 = ez1 + k) (h2 : (z2 = 0 ∧ i2 = 0) ∨ ∃ k : Nat, i2 * 2 ^ k = z2 ∧ e2 = ez2 + k) : ∃ p q : Nat, i1 * i2 * 2 ^ p = z1 * z2 * 2 ^ q ∧ e1 + e2 - p = ez1 + ez2 - q := by
  have zero : i1 * i2 = 0 → z1 * z2 = 0 → ∃ p q : Nat, i1 * i2 * 2 ^ p = z1 * z2 * 2 ^ q ∧ e1 + e2 - p = ez1 + ez2 - q := fun a b => by
    refine ⟨(e1 + e2 - min (e1 + e2) (ez1 + ez2)).toNat, (ez1 + ez2 - min (e1 + e2) (ez1 + ez2)).toNat, by rw [a, b, Int.zero_mul, Int.zero_mul], by omega⟩
  rcases h1 with ⟨a, b⟩ | ⟨k, hk, hx⟩
  · exact zero (by rw [b, Int.zero_mul]) (by rw [a, Int.zero_mul])
  · rcases h2 with ⟨a, b⟩ | ⟨l, hl, hy⟩
    · exact zero (by rw [b, Int.mul_zero]) (by rw [a, Int.mul_zero])
    · refine ⟨k + l, 0, ?_, by omega⟩
      rw [Int.pow_zero, Int.mul_one, ← hk, ← hl, Int.pow_add, Int.mul_assoc, Int.mul_assoc, Int.mul_left_comm i2]
end Go.Proofs.YtphdinjmkhefmaaGreatDoor

namespace Go.Proofs.YtphdinjmkhefmaaGreatDoor
open Go.RowKit Go.IntWalk

set_option maxRecDepth 4000 in
set_option maxHeartbeats 2000000 in
theorem Same_yes (neg : Bool) (L : List Nat) (a1 a2 : Option Addr) (c1 c2 : Nat) (e : Int) (w : World) (h1 : MagAt w a1 L) (h2 : MagAt w a2 L) (hn : L.length ≤ 1000000) :
    Calls Tryz.prog 24 #[.agg #[.bool neg, .slice a1 L.length c1, .int .i64 e], .agg #[.bool neg, .slice a2 L.length c2, .int .i64 e]] w fun r w' => r = .returned (.bool true) ∧ Below w.heap.size w w' := by
  have H1 := hid h1
  have H2 := hid h2
  obtain ⟨n, hnl⟩ : ∃ n, Hid (L.length = n) := ⟨_, rfl⟩
  rw [hnl.out] at hn ⊢
  obtain ⟨W0, hW0⟩ : ∃ W0, Hid (AlW w neg neg a1 a2 n n c1 c2 e e = W0) := ⟨_, rfl⟩
  have hW0' : AlW w neg neg a1 a2 n n c1 c2 e e = W0 := hW0.out
  have hs0 := AlW.size w neg neg a1 a2 n n c1 c2 e e
  have hb0 := AlW.below w neg neg a1 a2 n n c1 c2 e e
  obtain ⟨f3, f4⟩ := AlW.cells w neg neg a1 a2 n n c1 c2 e e
  rw [hW0'] at hs0 hb0 f3 f4
  unfold AlW DyBox at hW0'
  have hc1 := dcells_of f3
  have hc2 := dcells_of f4
  unfold DCells at hc1 hc2
  obtain ⟨p10, p11, p12⟩ := hc1
  obtain ⟨p20, p21, p22⟩ := hc2
  have HB0 := hid hb0
  have HS0 := hid hs0
  have hbe : (neg == neg) = true := by simp
  clear h1 h2 f3 f4 hb0 hs0
  go_enter Tryz.func24, Tryz.ntmps24
  go_wp2
  go_loopw [30] (fun i wr => ∃ k : Nat, k ≤ n ∧ i = .int .i64 k ∧ Hid (Below W0.heap.size W0 wr)) (fun i _ => n - (intOf i).toNat)
  case atStart => exact ⟨0, Nat.zero_le _, rfl, Below.refl _ _⟩
  case round =>
    obtain ⟨k, hk, rfl, HBW⟩ := hrel
    have hlt1 : w.heap.size < W0.heap.size := by rw [HS0.out]; omega
    have hlt2 : w.heap.size + 1 < W0.heap.size := by rw [HS0.out]; omega
    by_cases hlt : k < n
    · obtain ⟨b1, o1, rfl, hb1, hx1⟩ := H1.out k (by rw [hnl.out]; exact hlt)
      obtain ⟨b2, o2, rfl, hb2, hx2⟩ := H2.out k (by rw [hnl.out]; exact hlt)
      have q11 : wr.cell? ⟨w.heap.size, 1, none⟩ = some (.slice (some ⟨b1, o1, none⟩) n c1) := by rw [HBW.out.cell (p := ⟨w.heap.size, 1, none⟩) hlt1]; exact p11
      have q21 : wr.cell? ⟨w.heap.size + 1, 1, none⟩ = some (.slice (some ⟨b2, o2, none⟩) n c2) := by rw [HBW.out.cell (p := ⟨w.heap.size + 1, 1, none⟩) hlt2]; exact p21
      have y1 : wr.cell? ⟨b1, o1 + k, none⟩ = some (.int .u32 (L.getD k 0)) := by
        rw [HBW.out.cell (p := ⟨b1, o1 + k, none⟩) (Nat.lt_of_lt_of_le hb1 HB0.out.size), HB0.out.cell (p := ⟨b1, o1 + k, none⟩) hb1]
        exact hx1
      have y2 : wr.cell? ⟨b2, o2 + k, none⟩ = some (.int .u32 (L.getD k 0)) := by
        rw [HBW.out.cell (p := ⟨b2, o2 + k, none⟩) (Nat.lt_of_lt_of_le hb2 HB0.out.size), HB0.out.cell (p := ⟨b2, o2 + k, none⟩) hb2]
        exact hx2
      obtain ⟨x, hx⟩ : ∃ x, Hid (L.getD k 0 = x) := ⟨_, rfl⟩
      rw [hx.out] at y1 y2
      have hkI : (k : Int) < (n : Int) := by omega
      have hk0 : (0 : Int) ≤ (k : Int) := by omega
      clear hx1 hx2 hb1 hb2 p10 p11 p12 p20 p21 p22 hlt1 hlt2
      go_wp2_with fail
      go_region_held3 (fun W => (W.cell? ⟨w.heap.size, 1, none⟩ = some (.slice (some ⟨b1, o1, none⟩) n c1) ∧ W.cell? ⟨w.heap.size + 1, 1, none⟩ = some (.slice (some ⟨b2, o2, none⟩) n c2)) ∧ W.cell? ⟨b1, o1 + k, none⟩ = some (.int .u32 x) ∧ W.cell? ⟨b2, o2 + k, none⟩ = some (.int .u32 x)) (go_keep) (fail)
      all_goals go_wp2
      all_goals
        refine ⟨⟨k + 1, by omega, by go_num, ?_⟩, by simp [intOf]; omega⟩
        first | exact HBW.out.drew | exact bl_drewN _ HBW.out
    · have hkn : k = n := by omega
      subst hkn
      have HBE : Hid (Below w.heap.size w wr) := HB0.out.trans (HBW.out.mono HB0.out.size)
      go_wp2
      go_ret
      exact ⟨rfl, HBE.out⟩
theorem Same_dy (n1 n2 : Bool) (a1 a2 : Option Addr) (l1 l2 c1 c2 : Nat) (e1 e2 z e : Int) (w : World) (h1 : DyAt w n1 a1 l1 c1 e1 z e) (h2 : DyAt w n2 a2 l2 c2 e2 z e) :
    Calls Tryz.prog 24 #[.agg #[.bool n1, .slice a1 l1 c1, .int .i64 e1], .agg #[.bool n2, .slice a2 l2 c2, .int .i64 e2]] w fun r w' => r = .returned (.bool true) ∧ Below w.heap.size w w' := by
  obtain ⟨L1, rfl, _, m1, v1, y1⟩ := h1
  obtain ⟨L2, rfl, _, m2, v2, _⟩ := h2
  obtain ⟨rfl, rfl, rfl⟩ := v1.uniq v2
  refine Same_yes n1 L1 a1 a2 c1 c2 e1 w m1 m2 ?_
  rcases y1 with ⟨rfl, _, _⟩ | ⟨_, _, _, hl, _⟩
  · exact Nat.zero_le _
  · omega
end Go.Proofs.YtphdinjmkhefmaaGreatDoor
