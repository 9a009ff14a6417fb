
/- The document's exact numbers by their values: Neg, Mul, Add, Cmp. -/
import Derived.Test.YtehnkgonhgjeiaaGreatDoorP35
import Derived.Test.YtehnkgonhgjeiaaGreatDoorP26
namespace Go.Proofs.YtehnkgonhgjeiaaGreatDoor
open Go.RowKit Go.IntWalk

theorem xNeg_val (p bd : Nat) (e B z : Int) (w : World) (h : ExV w p e B z bd) (hbd : bd ≤ 400000) :
    Calls Tryz.prog 42 #[.agg #[.pointer (some ⟨p, 0, none⟩), .int .i64 e]] w fun r w' => ∃ q, r = .returned (.agg #[.pointer (some ⟨q, 0, none⟩), .int .i64 e]) ∧ ExV w' q e B (-z) bd ∧ Below w.heap.size w w' := by
  obtain ⟨v, k, h1, h2, h3⟩ := h
  refine (xNeg_core p bd v e w h1 (by omega)).mono ?_
  rintro r w' ⟨q, rfl, hq, hn, hb⟩
  exact ⟨q, rfl, ⟨-v, k, hn, h2, by rw [h3, Int.neg_mul]⟩, hb⟩
theorem xMul_val (p1 p2 b1 b2 : Nat) (e1 e2 B1 B2 z1 z2 : Int) (w : World) (h1 : ExV w p1 e1 B1 z1 b1) (h2 : ExV w p2 e2 B2 z2 b2) (hb1 : b1 ≤ 400000) (hb2 : b2 ≤ 400000) (hl : -1000000 ≤ B1 + B2) (hu : e1 + e2 ≤ 1000000) :
    Calls Tryz.prog 39 #[.agg #[.pointer (some ⟨p1, 0, none⟩), .int .i64 e1], .agg #[.pointer (some ⟨p2, 0, none⟩), .int .i64 e2]] w fun r w' => ∃ q, r = .returned (.agg #[.pointer (some ⟨q, 0, none⟩), .int .i64 (e1 + e2)]) ∧ ExV w' q (e1 + e2) (B1 + B2) (z1 * z2) (b1 + b2) ∧ Below w.heap.size w w' := by
  obtain ⟨v1, k1, f1, f2, f3⟩ := h1
  obtain ⟨v2, k2, g1, g2, g3⟩ := h2
  refine (xMul_core p1 p2 b1 b2 v1 v2 e1 e2 (e1 + e2) w f1 g1 hb1 hb2 rfl (by omega) hu).mono ?_
  rintro r w' ⟨q, rfl, hq, hn, hb⟩
  refine ⟨q, rfl, ⟨v1 * v2, k1 + k2, hn, by omega, ?_⟩, hb⟩
  rw [f3, g3, Int.pow_add, Int.mul_assoc, Int.mul_assoc, Int.mul_left_comm (2 ^ k1)]
theorem xAdd_val (p1 p2 b1 b2 : Nat) (e1 e2 B z1 z2 : Int) (w : World) (h1 : ExV w p1 e1 B z1 b1) (h2 : ExV w p2 e2 B z2 b2) (hb1 : b1 ≤ 300000) (hb2 : b2 ≤ 300000) (hu1 : e1 ≤ B + 100000) (hu2 : e2 ≤ B + 100000) :
    Calls Tryz.prog 41 #[.agg #[.pointer (some ⟨p1, 0, none⟩), .int .i64 e1], .agg #[.pointer (some ⟨p2, 0, none⟩), .int .i64 e2]] w fun r w' => ∃ q e, r = .returned (.agg #[.pointer (some ⟨q, 0, none⟩), .int .i64 e]) ∧ (B ≤ e ∧ e ≤ max e1 e2) ∧ ExV w' q e B (z1 + z2) (max b1 b2 + 4000) ∧ Below w.heap.size w w' := by
  obtain ⟨v1, k1, f1, f2, f3⟩ := h1
  obtain ⟨v2, k2, g1, g2, g3⟩ := h2
  by_cases c1 : v1 = 0
  · subst c1
    have hp2 := g1.lt
    refine (xAdd_left p1 p2 b1 e1 e2 _ w f1 rfl).mono ?_
    rintro r w' ⟨rfl, W0, hB, hs, hx, rfl⟩
    refine ⟨p2, e2, rfl, by omega, ⟨v2, k2, ?_, g2, by rw [f3, g3, Int.zero_mul, Int.zero_add]⟩, Below.setCell (Below.setCell hB (by simp) _) (by simp) _⟩
    exact ((g1.below hB).stored (by omega) hx _ _).more (by omega)
  · by_cases c2 : v2 = 0
    · subst c2
      have hp1 := f1.lt
      refine (xAdd_right p1 p2 b1 b2 v1 e1 e2 _ w f1 g1 c1 rfl).mono ?_
      rintro r w' ⟨rfl, W0, hB, hs, hx, rfl⟩
      refine ⟨p1, e1, rfl, by omega, ⟨v1, k1, ?_, f2, by rw [f3, g3, Int.zero_mul, Int.add_zero]⟩, Below.setCell (Below.setCell hB (by simp) _) (by simp) _⟩
      exact ((f1.below hB).stored (by omega) hx _ _).more (by omega)
    · obtain ⟨e, he⟩ : ∃ e, min e1 e2 = e := ⟨_, rfl⟩
      obtain ⟨n1, hn1⟩ := Int.eq_ofNat_of_zero_le (show 0 ≤ e1 - e by omega)
      obtain ⟨n2, hn2⟩ := Int.eq_ofNat_of_zero_le (show 0 ≤ e2 - e by omega)
      obtain ⟨k, hk⟩ := Int.eq_ofNat_of_zero_le (show 0 ≤ e - B by omega)
      refine (xAdd_two p1 p2 b1 b2 n1 n2 v1 v2 e1 e2 e w f1 g1 (by omega) (by omega) c1 c2 he hn1 hn2 (by omega) (by omega)).mono ?_
      rintro r w' ⟨q, rfl, hq, hn, hb⟩
      refine ⟨q, e, rfl, by omega, ⟨_, k, hn.more (by omega), by omega, ?_⟩, hb⟩
      rw [f3, g3, Int.add_mul, Int.mul_assoc, Int.mul_assoc, ← Int.pow_add, ← Int.pow_add, show k1 = n1 + k by omega, show k2 = n2 + k by omega]
theorem xsgn (v : Int) (k : Nat) : sgnZ (v * 2 ^ k) = sgnZ v := by
  have hp : (0 : Int) < 2 ^ k := Int.pow_pos (by decide)
  unfold sgnZ
  rcases Int.lt_trichotomy v 0 with h | h | h
  · have h2 : v * 2 ^ k < 0 := Int.mul_neg_of_neg_of_pos h hp
    rw [if_neg (by omega), if_pos h2, if_neg (by omega), if_pos h]
  · rw [h, Int.zero_mul]
  · have h2 : 0 < v * 2 ^ k := Int.mul_pos h hp
    rw [if_neg (by omega), if_neg (by omega), if_neg (by omega), if_neg (by omega)]
set_option maxRecDepth 4000 in
set_option maxHeartbeats 1000000 in
theorem xCmp_val (p1 p2 b1 b2 : Nat) (e1 e2 B z1 z2 : Int) (w : World) (h1 : ExV w p1 e1 B z1 b1) (h2 : ExV w p2 e2 B z2 b2) (hb1 : b1 ≤ 300000) (hb2 : b2 ≤ 300000) (hu1 : e1 ≤ B + 100000) (hu2 : e2 ≤ B + 100000) :
    Calls Tryz.prog 33 #[.agg #[.pointer (some ⟨p1, 0, none⟩), .int .i64 e1], .agg #[.pointer (some ⟨p2, 0, none⟩), .int .i64 e2]] w fun r w' => r = .returned (.int .i64 (sgnZ (z1 - z2))) ∧ Below w.heap.size w w' := by
  obtain ⟨W0, hW0⟩ : ∃ V, Hid ((w.alloc (XBox (some ⟨p1, 0, none⟩) e1)).alloc (XBox (some ⟨p2, 0, none⟩) e2) = V) := ⟨_, rfl⟩
  obtain ⟨g1, g2⟩ := two_blk w (XBox (some ⟨p1, 0, none⟩) e1) (XBox (some ⟨p2, 0, none⟩) e2)
  have HB0 : Hid (Below w.heap.size w W0) := by
    rw [← hW0.out]
    exact ((Below.refl _ _).alloc (Nat.le_refl _) _).alloc (by simp) _
  rw [hW0.out] at g1 g2
  have HK : Hid (∀ W, Hid (Below W0.heap.size W0 W) → ((W.cell? ⟨w.heap.size, 0, none⟩ = some (.pointer (some ⟨p1, 0, none⟩)) ∧ W.cell? ⟨w.heap.size, 1, none⟩ = some (.int .i64 e1)) ∧ (W.cell? ⟨w.heap.size + 1, 0, none⟩ = some (.pointer (some ⟨p2, 0, none⟩)) ∧ W.cell? ⟨w.heap.size + 1, 1, none⟩ = some (.int .i64 e2))) ∧ Hid (Below W0.heap.size W0 W)) := fun W hW => by
    have t1 := xcells_of ((hW.out.block _ (Array.getElem?_eq_some_iff.1 g1).1).trans g1)
    have t2 := xcells_of ((hW.out.block _ (Array.getElem?_eq_some_iff.1 g2).1).trans g2)
    exact ⟨⟨⟨t1.1, t1.2.1⟩, ⟨t2.1, t2.2.1⟩⟩, hW⟩
  have HNG : Hid (∀ W, Hid (Below W0.heap.size W0 W) → Calls Tryz.prog 42 #[.agg #[.pointer (some ⟨p2, 0, none⟩), .int .i64 e2]] W fun r w' => ∃ q, r = .returned (.agg #[.pointer (some ⟨q, 0, none⟩), .int .i64 e2]) ∧ Hid (ExV w' q e2 B (-z2) b2) ∧ Hid (Below W0.heap.size W0 w')) := fun W hW => by
    refine (xNeg_val p2 b2 e2 B z2 W ((h2.below HB0.out).below hW.out) (by omega)).mono ?_
    rintro r w' ⟨q, rfl, hx, hb⟩
    exact ⟨q, rfl, hx, hW.out.trans (hb.mono hW.out.size)⟩
  have HAD : Hid (∀ W q, Hid (Below W0.heap.size W0 W) → Hid (ExV W q e2 B (-z2) b2) → Calls Tryz.prog 41 #[.agg #[.pointer (some ⟨p1, 0, none⟩), .int .i64 e1], .agg #[.pointer (some ⟨q, 0, none⟩), .int .i64 e2]] W fun r w' => ∃ q e, r = .returned (.agg #[.pointer (some ⟨q, 0, none⟩), .int .i64 e]) ∧ Hid (ExV w' q e B (z1 + -z2) (max b1 b2 + 4000)) ∧ Hid (Below W0.heap.size W0 w')) := fun W q hW hq => by
    refine (xAdd_val p1 q b1 b2 e1 e2 B z1 (-z2) W ((h1.below HB0.out).below hW.out) hq.out hb1 hb2 hu1 hu2).mono ?_
    rintro r w' ⟨q', e', rfl, _, hx, hb⟩
    exact ⟨q', e', rfl, hx, hW.out.trans (hb.mono hW.out.size)⟩
  have HSG : Hid (∀ W q e, Hid (ExV W q e B (z1 + -z2) (max b1 b2 + 4000)) → Calls Tryz.prog 69 #[.pointer (some ⟨q, 0, none⟩)] W fun r w' => r = .returned (.int .i64 (sgnZ (z1 - z2))) ∧ w' = W) := fun W q e hq => by
    obtain ⟨v, k, f1, f2, f3⟩ := hq.out
    have := NSign q v _ W f1
    rw [← xsgn v k, ← f3, ← Int.sub_eq_add_neg] at this
    exact this
  have hfl := xfield
  obtain ⟨⟨y00, y01⟩, ⟨y10, y11⟩⟩ := (HK.out _ (Below.refl _ _)).1
  unfold XBox at hW0
  have hW0' := hW0.out
  clear h1 h2 g1 g2
  go_enter Tryz.func33, Tryz.ntmps33
  go_wp2_with fail
  have HQ0 : Hid (Below W0.heap.size W0 W0.drew) := (Below.refl _ _).drew
  go_region_held3 (fun W => ((W.cell? ⟨w.heap.size, 0, none⟩ = some (.pointer (some ⟨p1, 0, none⟩)) ∧ W.cell? ⟨w.heap.size, 1, none⟩ = some (.int .i64 e1)) ∧ (W.cell? ⟨w.heap.size + 1, 0, none⟩ = some (.pointer (some ⟨p2, 0, none⟩)) ∧ W.cell? ⟨w.heap.size + 1, 1, none⟩ = some (.int .i64 e2))) ∧ Hid (Below W0.heap.size W0 W))
    ((refine HK.out _ ?_; first | with_reducible assumption | with_reducible exact HQ0))
    (first
      | (go_at_call 42; refine (HNG.out _ (And.right (by assumption))).mono ?_; rintro r w3 ⟨q3, rfl, HX3, HB3⟩)
      | (go_at_call 41; refine (HAD.out _ _ (And.right (by assumption)) HX3).mono ?_; rintro r w4 ⟨q4, e4, rfl, HX4, HB4⟩)
      | (go_at_call 69; refine (HSG.out _ _ _ HX4).mono ?_; rintro r w5 ⟨rfl, rfl⟩)
      | fail)
  go_wp2
  go_ret
  exact ⟨rfl, HB0.out.trans (HB4.out.mono HB0.out.size)⟩
end Go.Proofs.YtehnkgonhgjeiaaGreatDoor

namespace Go.Proofs.YtehnkgonhgjeiaaGreatDoor
open Go.RowKit Go.IntWalk

/-- How often 2 goes into a number, and what is left. -/
theorem tz_words (L : List Nat) (k : Nat) (hD : DigL L) (hz : ∀ j, j < k → L.getD j 0 = 0) (h0 : L.getD k 0 ≠ 0) : ∃ m, natL L = 2 ^ (32 * k + tz32Of (L.getD k 0)) * m ∧ m % 2 = 1 := by
  have hk : (L.drop k).getD 0 0 = L.getD k 0 := by simp [List.getD]
  obtain ⟨m, h1, h2, _⟩ := natL_odd (L.drop k) (hD.drop k) (by rw [hk]; exact h0)
  refine ⟨m, ?_, h2⟩
  rw [natL_dropz L k hz, h1, hk, pow32, ← Nat.mul_assoc, ← Nat.pow_add]
set_option maxRecDepth 4000 in
set_option maxHeartbeats 2000000 in
theorem NTz (x bd : Nat) (v : Int) (w : World) (hx : NumAt w x v bd) (hv : v ≠ 0) (hbd : bd ≤ 900000) (hT : Tab32 w) (hs : 2 < w.heap.size) :
    Calls Tryz.prog 118 #[.pointer (some ⟨x, 0, none⟩)] w fun r w' => ∃ T m : Nat, r = .returned (.int .u64 T) ∧ v.natAbs = 2 ^ T * m ∧ m % 2 = 1 ∧ T ≤ 32 * bd ∧ Below w.heap.size w w' := by
  obtain ⟨neg, L, hiv, hL, a, cap, ho, hcap, hm, hd, hc, hn⟩ := hx
  have habs : v.natAbs = natL L := by rw [← hiv, intL_abs]
  have h0 : natL L ≠ 0 := by rw [← habs]; omega
  have hl0 : L ≠ [] := fun c => h0 (by rw [c]; rfl)
  obtain ⟨b, off, rfl, hbw, _⟩ : ∃ b off, a = some ⟨b, off, none⟩ ∧ b < w.heap.size ∧ True := by
    have : 0 < L.length := Nat.pos_of_ne_zero (fun c => hl0 (List.length_eq_zero_iff.1 c))
    obtain ⟨b, off, e, hb, _⟩ := hm 0 this
    exact ⟨b, off, e, hb, trivial⟩
  have HCELL : Hid (∀ W, Below w.heap.size w W → ∀ i, i < L.length → W.cell? ⟨b, off + i, none⟩ = some (.int .u32 (L.getD i 0))) := fun W hW i hi => by
    obtain ⟨b', off', e', _, hcc⟩ := hm i hi
    cases e'
    rw [hW.cell (p := ⟨b, off + i, none⟩) hbw]
    exact hcc
  have HX : Hid (∀ W, Below w.heap.size w W → W.cell? ⟨x, 1, none⟩ = some (.slice (some ⟨b, off, none⟩) L.length cap)) := fun W hW => by
    rw [hW.cell (p := ⟨x, 1, none⟩) (int_cells ho).2.2.2]
    exact (int_cells ho).2.1
  have HTW : Hid (∀ W, Below w.heap.size w W → Tab32 W) := fun W hW => hT.below hs hW
  have HD := hid hd
  have HLAST := hid (hc hl0)
  have HRES : Hid (∀ k, (∀ j, j < k → L.getD j 0 = 0) → L.getD k 0 ≠ 0 → ∃ m, v.natAbs = 2 ^ (32 * k + tz32Of (L.getD k 0)) * m ∧ m % 2 = 1) := fun k hz hk => by rw [habs]; exact tz_words L k hd hz hk
  obtain ⟨n, hnl⟩ : ∃ n, Hid (L.length = n) := ⟨_, rfl⟩
  have hn1 : 1 ≤ n := by have := hnl.out; have : L.length ≠ 0 := fun c => hl0 (List.length_eq_zero_iff.1 c); omega
  rw [hnl.out] at HCELL HX hL HLAST
  have hx0 := HX.out w (Below.refl _ _)
  clear hm hd hc hn ho hcap hiv habs h0 hl0 hT hs hbw
  go_enter Tryz.func118, Tryz.ntmps118
  go_wp2_with fail
  go_loopw [3] (fun i wr => ∃ k : Nat, k < n ∧ i = .int .i64 k ∧ Hid (∀ j, j < k → L.getD j 0 = 0) ∧ Hid (Below w.heap.size w wr)) (fun i _ => n - (intOf i).toNat)
  case atStart => exact ⟨0, by omega, rfl, fun j hj => absurd hj (Nat.not_lt_zero _), Below.refl _ _⟩
  case round =>
    obtain ⟨k, hkn, rfl, HZ, HB⟩ := hrel
    have hck := HCELL.out _ HB.out k hkn
    have hxk := HX.out _ HB.out
    have hkI : (k : Int) < (n : Int) := by omega
    have hk0 : (0 : Int) ≤ (k : Int) := by omega
    have hdk := HD.out.get k
    by_cases hz : L.getD k 0 = 0
    · have HZ2 : Hid (∀ j, j < k + 1 → L.getD j 0 = 0) := fun j hj => by
        rcases Nat.lt_succ_iff_lt_or_eq.1 hj with h | h
        · exact HZ.out j h
        · rw [h]; exact hz
      have hk1 : k + 1 < n := by
        apply Classical.byContradiction
        intro c
        apply HLAST.out
        rw [show n - 1 = k by omega]
        exact hz
      have HK1 := hid hk1
      rw [hz] at hck
      clear hk1 hz hdk hkn
      go_wp2
      refine ⟨⟨k + 1, HK1.out, by go_num, HZ2, HB⟩, ?_⟩
      have := HK1.out
      simp [intOf]; omega
    · have HTZ := hid (tz32_any (L.getD k 0) wr hdk hz (HTW.out _ HB.out))
      obtain ⟨m, hm1, hm2⟩ := HRES.out k HZ.out hz
      have HMM := hid (And.intro hm1 hm2)
      have htz := (tz32_spec _ hz hdk).1
      obtain ⟨d, hdd⟩ : ∃ d, Hid (L.getD k 0 = d) := ⟨_, rfl⟩
      rw [hdd.out] at hck HTZ htz HMM
      obtain ⟨T, hTT⟩ : ∃ T, Hid (tz32Of d = T) := ⟨_, rfl⟩
      rw [hTT.out] at HTZ htz HMM
      have hd0 : ((d : Int) == 0) = false := by
        have := hdd.out
        rw [beq_eq_false_iff_ne]
        omega
      have hd1 : ¬ (d : Int) = 0 := by have := hdd.out; omega
      obtain ⟨R, hR⟩ : ∃ R : Int, Hid (32 * (k : Int) + (T : Int) = R) := ⟨_, rfl⟩
      have hR0 : 0 ≤ R := by have := hR.out; omega
      have hR1 : R ≤ 30000000 := by have := hR.out; omega
      have w1 : IntKind.i64.wrap (32 * (k : Int)) = 32 * (k : Int) := by rw [IntWalk.i64_in _ (by omega)]
      have w2 : IntKind.i64.wrap (32 * (k : Int) + (T : Int)) = R := by rw [hR.out, IntWalk.i64_in _ (by omega)]
      have w3 : 32 * (k : Int) + (T : Int) = R := hR.out
      have w4 : IntKind.u64.wrap R = R := by rw [IntKind.wrap_u64]; omega
      have w5 : wrap64 R = R := by unfold wrap64; omega
      have w6 : IntKind.i64.wrap R = R := by rw [IntWalk.i64_in _ (by omega)]
      have HTL := hid (show 32 * k + T ≤ 32 * bd by omega)
      clear hz hm1 hm2 hdk hkn htz
      go_wp2_with fail
      refine HTZ.out.mono ?_
      rintro r w1 ⟨rfl, rfl⟩
      go_wp2
      go_ret
      refine ⟨32 * k + T, m, ?_, HMM.out.1, HMM.out.2, HTL.out, HB.out⟩
      exact ret_int (by have := hR.out; omega)
end Go.Proofs.YtehnkgonhgjeiaaGreatDoor

namespace Go.Proofs.YtehnkgonhgjeiaaGreatDoor
open Go.RowKit Go.IntWalk

theorem mag_one (W : World) (b : Nat) (h : W.cell? ⟨b, 0, none⟩ = some (.int .u32 1)) : MagAt W (some ⟨b, 0, none⟩) [1] := by
  intro i hi
  have hi2 : i < 1 := hi
  have h0 : i = 0 := by omega
  subst h0
  exact ⟨b, 0, rfl, World.block_lt_of_cell? W _ h, h⟩
theorem dig_one : DigL [1] := fun d hd => by simp at hd; rw [hd]; decide
theorem can_one : CanL [1] := fun _ => by decide
theorem less_pow (n m : Nat) (hm : 1 ≤ m) : (2 ^ n * m - 1) / 2 ^ n + 1 = m := by
  have hp := Nat.two_pow_pos n
  have e : 2 ^ n * m - 1 = (2 ^ n - 1) + 2 ^ n * (m - 1) := by
    obtain ⟨k, rfl⟩ : ∃ k, m = k + 1 := ⟨m - 1, by omega⟩
    rw [Nat.add_sub_cancel, Nat.mul_add, Nat.mul_one]
    omega
  rw [e, Nat.add_mul_div_left _ _ hp, Nat.div_eq_of_lt (by omega)]
  omega
set_option maxRecDepth 4000 in
set_option maxHeartbeats 2000000 in
theorem Rsh_neg (z x q s m : Nat) (L : List Nat) (w : World) (hz : ZOk z w w) (hx : BigAt w x true L) (hs : s < 32) (hq : q ≤ 1000000) (hn : L.length ≤ 900000) (hv : natL L = 2 ^ (32 * q + s) * m) (hm1 : 1 ≤ m) :
    Calls Tryz.prog 72 #[.pointer (some ⟨z, 0, none⟩), .pointer (some ⟨x, 0, none⟩), .int .u64 ((32 * q + s : Nat) : Int)] w fun r w' => r = .returned (.pointer (some ⟨z, 0, none⟩)) ∧ PutIs z true m (L.length + 1) w w' := by
  obtain ⟨a, cap, ho, hcap, hm, hd, hc, hneg⟩ := hx
  obtain ⟨c0, c1, hf, hlt⟩ := int_cells ho
  have HZ := hid hz
  have hpos : 1 ≤ natL L := by
    rw [hv]
    exact Nat.mul_pos (Nat.two_pow_pos _) hm1
  have HMI : Hid (∀ W b, Below w.heap.size w W → W.cell? ⟨b, 0, none⟩ = some (.int .u32 1) → Calls Tryz.prog 121 #[.slice a L.length cap, .slice (some ⟨b, 0, none⟩) 1 1] W fun r w' => ∃ l' a' cap', r = .returned (.slice a' l' cap') ∧ Hid (∃ L', L'.length = l' ∧ MagIs (natL L - 1) L.length L' a' cap' w') ∧ Below W.heap.size W w') := fun W b hW hb => by
    refine (minus_any L [1] a (some ⟨b, 0, none⟩) cap 1 W (hm.below hW) (mag_one W b hb) hd dig_one can_one (by omega) hpos).mono ?_
    rintro r w' ⟨⟨L', a', cap', rfl, h1⟩, hb'⟩
    exact ⟨L'.length, a', cap', rfl, ⟨L', rfl, h1⟩, hb'⟩
  have HRI : Hid (∀ W l' a' cap', Hid (∃ L', L'.length = l' ∧ MagIs (natL L - 1) L.length L' a' cap' W) → Calls Tryz.prog 120 #[.slice a' l' cap', .int .u64 ((32 * q + s : Nat) : Int)] W fun r w' => ∃ l' a' cap', r = .returned (.slice a' l' cap') ∧ Hid (∃ L', L'.length = l' ∧ MagIs (m - 1) L.length L' a' cap' w') ∧ Below W.heap.size W w') := fun W l' a' cap' h => by
    obtain ⟨L', rfl, h1, h2, h3, h4, h5, h6⟩ := h.out
    refine (right_any L' a' cap' q s W h3 hs hq (by omega) h4).mono ?_
    rintro r w' ⟨⟨L2, a2, cap2, rfl, g1, g2, g3, g4, g5, g6⟩, hb'⟩
    refine ⟨L2.length, a2, cap2, rfl, ⟨L2, rfl, g1, by omega, g3, g4, g5, ?_⟩, hb'⟩
    rw [g6, h6, hv]
    have := less_pow (32 * q + s) m hm1
    omega
  have HPL : Hid (∀ W l' a' cap' b, Hid (∃ L', L'.length = l' ∧ MagIs (m - 1) L.length L' a' cap' W) → W.cell? ⟨b, 0, none⟩ = some (.int .u32 1) → Calls Tryz.prog 122 #[.slice a' l' cap', .slice (some ⟨b, 0, none⟩) 1 1] W fun r w' => ∃ l' a' cap', r = .returned (.slice a' l' cap') ∧ Hid (∃ L', L'.length = l' ∧ MagIs m (L.length + 1) L' a' cap' w') ∧ Below W.heap.size W w') := fun W l' a' cap' b h hb => by
    obtain ⟨L', rfl, h1, h2, h3, h4, h5, h6⟩ := h.out
    refine (plus_any L' [1] a' (some ⟨b, 0, none⟩) cap' 1 W h3 (mag_one W b hb) h4 dig_one (by omega) (by simp)).mono ?_
    rintro r w' ⟨⟨L2, a2, cap2, rfl, g1, g2, g3, g4, g5, g6⟩, hb'⟩
    refine ⟨L2.length, a2, cap2, rfl, ⟨L2, rfl, g1, ?_, g3, g4, g5, ?_⟩, hb'⟩
    · have : ([1] : List Nat).length = 1 := rfl
      have hl : L.length ≠ 0 := by
        intro c
        rw [List.length_eq_zero_iff.1 c] at hpos
        exact absurd hpos (by decide)
      omega
    · rw [g6, h6]
      show m - 1 + (1 + 4294967296 * 0) = m
      omega
  have HPU : Hid (∀ W l' a' cap', Hid (ZOk z w W) → Hid (∃ L', L'.length = l' ∧ MagIs m (L.length + 1) L' a' cap' W) → Calls Tryz.prog 119 #[.pointer (some ⟨z, 0, none⟩), .bool true, .slice a' l' cap'] W fun r w' => r = .returned (.pointer (some ⟨z, 0, none⟩)) ∧ Hid (PutIs z true m (L.length + 1) w w')) := fun W l' a' cap' h1 h2 => by
    obtain ⟨L', rfl, h3⟩ := h2.out
    have := put_is z true m (L.length + 1) w W L' a' cap' h1.out h3 (by omega)
    rw [decide_eq_true (by omega : m ≠ 0), Bool.and_true] at this
    exact this
  obtain ⟨N, hN⟩ : ∃ N : Int, Hid (((32 * q + s : Nat) : Int) = N) := ⟨_, rfl⟩
  rw [hN.out] at HRI ⊢
  obtain ⟨n, hnl⟩ : ∃ n, Hid (L.length = n) := ⟨_, rfl⟩
  rw [hnl.out] at HMI HRI HPL HPU c1 ⊢
  have HXC : Hid (∀ W, Below w.heap.size w W → W.cell? ⟨x, 0, none⟩ = some (.bool true) ∧ W.cell? ⟨x, 1, none⟩ = some (.slice a n cap)) := fun W hW => ⟨by rw [hW.cell (p := ⟨x, 0, none⟩) hlt]; exact c0, by rw [hW.cell (p := ⟨x, 1, none⟩) hlt]; exact c1⟩
  clear hz hs hq hn hm hd hc hneg ho hcap hf hv hpos
  go_enter Tryz.func72, Tryz.ntmps72
  go_wp2_with fail
  refine (HMI.out _ _ ((Below.refl _ _).alloc (Nat.le_refl _) _) (by simp [go_sem])).mono ?_
  rintro r w1 ⟨l1, a1, k1, rfl, HM1, hb1⟩
  have HB1 : Hid (Below w.heap.size w w1) := ((Below.refl _ _).alloc (Nat.le_refl _) _).trans (hb1.mono (by simp))
  clear hb1
  go_wp2_with fail
  refine (HRI.out _ _ _ _ HM1).mono ?_
  rintro r w2 ⟨l2, a2, k2, rfl, HM2, hb2⟩
  have HB2 : Hid (Below w.heap.size w w2) := HB1.out.trans (hb2.mono HB1.out.size)
  have HM2' : Hid (∀ o, ∃ L', L'.length = l2 ∧ MagIs (m - 1) n L' a2 k2 (w2.alloc o)) := fun o => by
    obtain ⟨L', e1, h1, h2, h3, h4, h5, h6⟩ := HM2.out
    exact ⟨L', e1, h1, h2, h3.below ((Below.refl _ _).alloc (Nat.le_refl _) _), h4, h5, h6⟩
  clear hb2
  go_wp2_with fail
  refine (HPL.out _ _ _ _ _ (HM2'.out _) (by simp [go_sem])).mono ?_
  rintro r w3 ⟨l3, a3, k3, rfl, HM3, hb3⟩
  have HZ3 : Hid (ZOk z w w3) := HZ.out.below ((HB2.out.alloc HB2.out.size _).trans (hb3.mono (by have := HB2.out.size; simp; omega)))
  clear hb3
  go_wp2_with fail
  refine (HPU.out _ _ _ _ HZ3 HM3).mono ?_
  rintro r w4 ⟨rfl, HE⟩
  go_wp2
  go_ret
  exact ⟨rfl, HE.out⟩
/-- An amount with another number's sign. -/
def sgM (v : Int) (m : Nat) : Int := if v < 0 then -(m : Int) else m
/-- Rsh of a multiple of 2^n. -/
theorem NRshX (z x n m bd : Nat) (v : Int) (w : World) (hz : ZOk z w w) (hx : NumAt w x v bd) (hb : bd ≤ 900000) (hn : n ≤ 30000000) (hv : v.natAbs = 2 ^ n * m) (hm : 1 ≤ m) :
    Calls Tryz.prog 72 #[.pointer (some ⟨z, 0, none⟩), .pointer (some ⟨x, 0, none⟩), .int .u64 n] w fun r w' => r = .returned (.pointer (some ⟨z, 0, none⟩)) ∧ NumAt w' z (sgM v m) (bd + 1) ∧ But z w w' := by
  unfold sgM
  by_cases h : v < 0
  · rw [if_pos h]
    obtain ⟨neg, L, hiv, hL, hB⟩ := hx
    have hneg : neg = true := (sign_natL hB).1.2 (by rw [hiv]; exact h)
    subst hneg
    have habs : natL L = v.natAbs := by rw [← hiv, intL_abs]
    have e : ((32 * (n / 32) + n % 32 : Nat) : Int) = (n : Int) := by omega
    have e2 : 32 * (n / 32) + n % 32 = n := by omega
    have := Rsh_neg z x (n / 32) (n % 32) m L w hz hB (Nat.mod_lt _ (by decide)) (by omega) (by omega) (by rw [e2, habs, hv]) hm
    rw [e] at this
    refine this.mono ?_
    rintro r w' ⟨rfl, L', f1, f2, f3, f4⟩
    exact ⟨rfl, ⟨true, L', by unfold intL; rw [if_pos rfl, f1], by omega, f3⟩, f4⟩
  · rw [if_neg h]
    obtain ⟨u, hu⟩ := Int.eq_ofNat_of_zero_le (show 0 ≤ v by omega)
    subst hu
    refine (NRsh z x u n bd w hz hx hb hn).mono ?_
    rintro r w' ⟨rfl, f1, f2⟩
    rw [Int.natAbs_natCast] at hv
    rw [hv, Nat.mul_div_cancel_left _ (Nat.two_pow_pos n)] at f1
    exact ⟨rfl, f1.more (by omega), f2⟩
end Go.Proofs.YtehnkgonhgjeiaaGreatDoor

namespace Go.Proofs.YtehnkgonhgjeiaaGreatDoor
open Go.RowKit Go.IntWalk

/-- z * 2^B with an odd magnitude, or 0 with the exponent 0. -/
def OddV (w : World) (q : Nat) (e B z : Int) (bd : Nat) : Prop := (z = 0 ∧ NumAt w q 0 bd ∧ e = 0) ∨ ∃ v : Int, ∃ k : Nat, v % 2 = 1 ∧ NumAt w q v bd ∧ e = B + k ∧ z = v * 2 ^ k
set_option maxRecDepth 4000 in
set_option maxHeartbeats 1000000 in
theorem xOdd_zero (p bd : Nat) (e : Int) (w : World) (h : NumAt w p 0 bd) :
    Calls Tryz.prog 67 #[.agg #[.pointer (some ⟨p, 0, none⟩), .int .i64 e]] w fun r w' => ∃ q, r = .returned (.agg #[.pointer (some ⟨q, 0, none⟩), .int .i64 0]) ∧ w.heap.size ≤ q ∧ NumAt w' q 0 0 ∧ Below w.heap.size w w' := by
  obtain ⟨W0, hW0⟩ : ∃ V, Hid ((w.alloc (XBox (some ⟨p, 0, none⟩) e)).alloc (XBox none 0) = V) := ⟨_, rfl⟩
  obtain ⟨g1, g2⟩ := two_blk w (XBox (some ⟨p, 0, none⟩) e) (XBox none 0)
  have HS0 : Hid (W0.heap.size = w.heap.size + 2) := by
    show W0.heap.size = w.heap.size + 2
    rw [← hW0.out]; simp
  have HB0 : Hid (Below w.heap.size w W0) := by
    rw [← hW0.out]
    exact ((Below.refl _ _).alloc (Nat.le_refl _) _).alloc (by simp) _
  rw [hW0.out] at g1 g2
  have HSG : Hid (Calls Tryz.prog 69 #[.pointer (some ⟨p, 0, none⟩)] W0 fun r w' => r = .returned (.int .i64 0) ∧ w' = W0) := NSign p 0 bd W0 (h.below HB0.out)
  obtain ⟨d1, d2, _⟩ := xcells_of (show W0.heap[w.heap.size]? = some (.cells #[.pointer (some ⟨p, 0, none⟩), .int .i64 e] 46) from g1)
  obtain ⟨V1, hV1⟩ : ∃ V, Hid (W0.alloc (.cells #[.bool false, .slice none 0 0] 90) = V) := ⟨_, rfl⟩
  have hr : V1.heap[w.heap.size + 1]? = some (XBox none 0) := by
    rw [← hV1.out]
    show (W0.alloc _).heap[w.heap.size + 1]? = _
    rw [((Below.refl W0.heap.size W0).alloc (Nat.le_refl _) _).block _ (by have := HS0.out; omega)]
    exact g2
  have HNF : Hid (NumAt V1 W0.heap.size 0 0) := by rw [← hV1.out]; exact fresh_num W0
  have HBV : Hid (Below w.heap.size w V1) := by rw [← hV1.out]; exact HB0.out.alloc HB0.out.size _
  obtain ⟨z1, z2, z3⟩ := xcells_of (show V1.heap[w.heap.size + 1]? = some (.cells #[.pointer none, .int .i64 0] 46) from hr)
  have HR := hid hr
  unfold XBox at hW0
  have hW0' := hW0.out
  have hV1' := hV1.out
  clear h g1 g2 hr
  go_enter Tryz.func67, Tryz.ntmps67
  go_wp2_with fail
  refine HSG.out.mono ?_
  rintro r w1 ⟨rfl, rfl⟩
  go_wp2
  exact bodyPost_ret (v := .agg #[.pointer (some ⟨w1.heap.size, 0, none⟩), .int .i64 0]) (by simp [results, Tryz.results67, go_sem, z1, z2]) rfl ⟨w1.heap.size, rfl, by have := HS0.out; omega, HNF.out.stored (by have := HS0.out; omega) HR.out _ _, Below.setCell (Below.setCell HBV.out (by simp) _) (by simp) _⟩
set_option maxRecDepth 4000 in
set_option maxHeartbeats 1000000 in
theorem xOdd_some (p bd : Nat) (v e : Int) (w : World) (h : NumAt w p v bd) (hv : v ≠ 0) (hbd : bd ≤ 400000) (he1 : -1000000 ≤ e) (he2 : e ≤ 1000000) (hT : Tab32 w) (hs : 2 < w.heap.size) :
    Calls Tryz.prog 67 #[.agg #[.pointer (some ⟨p, 0, none⟩), .int .i64 e]] w fun r w' => ∃ q, ∃ T m : Nat, r = .returned (.agg #[.pointer (some ⟨q, 0, none⟩), .int .i64 (e + T)]) ∧ w.heap.size ≤ q ∧ v.natAbs = 2 ^ T * m ∧ m % 2 = 1 ∧ T ≤ 32 * bd ∧ NumAt w' q (sgM v m) (bd + 1) ∧ Below w.heap.size w w' := by
  obtain ⟨W0, hW0⟩ : ∃ V, Hid ((w.alloc (XBox (some ⟨p, 0, none⟩) e)).alloc (XBox none 0) = V) := ⟨_, rfl⟩
  obtain ⟨g1, g2⟩ := two_blk w (XBox (some ⟨p, 0, none⟩) e) (XBox none 0)
  have HS0 : Hid (W0.heap.size = w.heap.size + 2) := by
    show W0.heap.size = w.heap.size + 2
    rw [← hW0.out]; simp
  have HB0 : Hid (Below w.heap.size w W0) := by
    rw [← hW0.out]
    exact ((Below.refl _ _).alloc (Nat.le_refl _) _).alloc (by simp) _
  rw [hW0.out] at g1 g2
  have hs1 : ¬ sgnZ v = 0 := by unfold sgnZ; split <;> (try split) <;> omega
  have HSG : Hid (Calls Tryz.prog 69 #[.pointer (some ⟨p, 0, none⟩)] W0 fun r w' => r = .returned (.int .i64 (sgnZ v)) ∧ w' = W0) := NSign p v bd W0 (h.below HB0.out)
  obtain ⟨S, hS⟩ : ∃ S, Hid (sgnZ v = S) := ⟨_, rfl⟩
  rw [hS.out] at HSG hs1
  have HTZ : Hid (Calls Tryz.prog 118 #[.pointer (some ⟨p, 0, none⟩)] W0 fun r w' => ∃ T m : Nat, r = .returned (.int .u64 T) ∧ Hid (v.natAbs = 2 ^ T * m ∧ m % 2 = 1) ∧ T ≤ 32 * bd ∧ Hid (Below W0.heap.size W0 w')) := by
    refine (NTz p bd v W0 (h.below HB0.out) hv (by omega) (hT.below hs HB0.out) (Nat.lt_of_lt_of_le hs HB0.out.size)).mono ?_
    rintro r w' ⟨T, m, rfl, f1, f2, f3, f4⟩
    exact ⟨T, m, rfl, ⟨f1, f2⟩, f3, f4⟩
  obtain ⟨d1, d2, _⟩ := xcells_of (show W0.heap[w.heap.size]? = some (.cells #[.pointer (some ⟨p, 0, none⟩), .int .i64 e] 46) from g1)
  have H := hid h
  have HG := hid (And.intro g1 g2)
  unfold XBox at hW0
  have hW0' := hW0.out
  clear h hv g1 g2 hT hs
  go_enter Tryz.func67, Tryz.ntmps67
  go_wp2_with fail
  refine HSG.out.mono ?_
  rintro r w1 ⟨rfl, rfl⟩
  go_wp2_with fail
  refine HTZ.out.mono ?_
  rintro r w2 ⟨T, m, rfl, HTM, hTl, HB2⟩
  have hs0 := HS0.out
  have hsz : w.heap.size + 2 ≤ w2.heap.size := by have := HB2.out.size; omega
  have g1 : w2.heap[w.heap.size]? = some (XBox (some ⟨p, 0, none⟩) e) := by rw [HB2.out.block _ (by omega)]; exact HG.out.1
  have g2 : w2.heap[w.heap.size + 1]? = some (XBox none 0) := by rw [HB2.out.block _ (by omega)]; exact HG.out.2
  have HBw2 : Hid (Below w.heap.size w w2) := HB0.out.trans (HB2.out.mono HB0.out.size)
  have HK : Hid (∀ W, Hid (XRes (w.heap.size + 1) w2 W) → (W.cell? ⟨w.heap.size, 0, none⟩ = some (.pointer (some ⟨p, 0, none⟩)) ∧ W.cell? ⟨w.heap.size, 1, none⟩ = some (.int .i64 e)) ∧ Hid (XRes (w.heap.size + 1) w2 W)) := fun W hW => by
    have := xcells_of ((hW.out.1.block _ (by omega) (by omega)).trans g1)
    exact ⟨⟨this.1, this.2.1⟩, hW⟩
  have HQR : Hid (XRes (w.heap.size + 1) w2 w2) := ⟨But.refl _ _, _, _, g2⟩
  have hm1 : 1 ≤ m := by have := HTM.out.2; omega
  have HN : Hid (Calls Tryz.prog 72 #[.pointer (some ⟨w2.heap.size, 0, none⟩), .pointer (some ⟨p, 0, none⟩), .int .u64 T] (w2.alloc (.cells #[.bool false, .slice none 0 0] 90)).drew fun r w' => r = .returned (.pointer (some ⟨w2.heap.size, 0, none⟩)) ∧ Hid (NumAt w' w2.heap.size (sgM v m) (bd + 1) ∧ w'.heap[w.heap.size + 1]? = some (XBox none 0)) ∧ (∀ o, w'.frozen? ⟨w.heap.size + 1, o, none⟩ = false) ∧ w'.cell? ⟨w.heap.size + 1, 0, none⟩ = some (.pointer none) ∧ w'.cell? ⟨w.heap.size + 1, 1, none⟩ = some (.int .i64 0) ∧ Hid (XRes (w.heap.size + 1) w2 w')) := by
    have hx := xr_dr (xr_al HQR (.cells #[.bool false, .slice none 0 0] 90))
    have hbw : Below w.heap.size w (w2.alloc (.cells #[.bool false, .slice none 0 0] 90)).drew := (HBw2.out.alloc HBw2.out.size _).drew
    refine (NRshX w2.heap.size p T m bd v _ (zok_dr (fresh_zok w2)) (H.out.below hbw) (by omega) (by omega) HTM.out.1 hm1).mono ?_
    rintro r w' ⟨rfl, hn, hbt⟩
    have hB' := hx.out.but hbt (Nat.le_refl _) (by omega)
    have hr : w'.heap[w.heap.size + 1]? = some (XBox none 0) := by
      rw [hbt.block (w.heap.size + 1) (by show _ < (w2.alloc _).heap.size; simp; omega) (by omega)]
      show (w2.alloc _).heap[w.heap.size + 1]? = _
      rw [((Below.refl w2.heap.size w2).alloc (Nat.le_refl _) _).block _ (by omega)]
      exact g2
    obtain ⟨f1, f2, f3⟩ := xcells_of hr
    exact ⟨rfl, ⟨hn, hr⟩, f3, f1, f2, hB'⟩
  obtain ⟨N, hN⟩ : ∃ N : Int, Hid ((T : Int) = N) := ⟨_, rfl⟩
  rw [hN.out] at HN
  have hNT := hN.out
  obtain ⟨E, hE⟩ : ∃ E : Int, Hid (e + N = E) := ⟨_, rfl⟩
  have u0 : (T : Int) = N := hNT
  have u1 : IntKind.i64.wrap N = N := by rw [IntWalk.i64_in _ (by omega)]
  have u2 : IntKind.i64.wrap (e + N) = E := by rw [← hE.out, IntWalk.i64_in _ (by omega)]
  have u3 : e + N = E := hE.out
  have u4 : wrap64 E = E := by have := hE.out; unfold wrap64; omega
  have u5 : IntKind.i64.wrap E = E := by have := hE.out; rw [IntWalk.i64_in _ (by omega)]
  have u6 : wrap64 N = N := by unfold wrap64; omega
  obtain ⟨y0, y1⟩ := (HK.out _ HQR).1
  have HTL := hid hTl
  clear g1 g2 hTl hNT hm1 hs0 he1 he2
  go_wp2_with fail
  go_region_held3 (fun W => (W.cell? ⟨w.heap.size, 0, none⟩ = some (.pointer (some ⟨p, 0, none⟩)) ∧ W.cell? ⟨w.heap.size, 1, none⟩ = some (.int .i64 e)) ∧ Hid (XRes (w.heap.size + 1) w2 W))
    ((refine HK.out _ ?_; repeat' (first | with_reducible assumption | with_reducible exact HQR | with_reducible refine xr_al ?_ _ | with_reducible refine xr_dr ?_ | with_reducible refine xr_store ?_ _ _)))
    (first
      | (go_at_call 72; refine HN.out.mono ?_; rintro r w3 ⟨rfl, HF, fz, c0, c1, HB3⟩)
      | fail)
  go_wp2
  exact bodyPost_ret (v := .agg #[.pointer (some ⟨w2.heap.size, 0, none⟩), .int .i64 E]) (by simp [results, Tryz.results67, go_sem, c0, c1]) rfl ⟨w2.heap.size, T, m, by rw [hN.out, hE.out], by omega, HTM.out.1, HTM.out.2, HTL.out, HF.out.1.stored (by omega) HF.out.2 _ _, HBw2.out.trans ((xr_store HB3 _ _).out.1.below HBw2.out.size (by omega))⟩
theorem sgM_odd (v : Int) (m : Nat) (h : m % 2 = 1) : sgM v m % 2 = 1 := by unfold sgM; split <;> omega
theorem sgM_val (v : Int) (T m : Nat) (h : v.natAbs = 2 ^ T * m) : v = sgM v m * 2 ^ T := by
  have h2 : ((v.natAbs : Nat) : Int) = (m : Int) * 2 ^ T := by rw [h, Nat.mul_comm, Int.natCast_mul, Int.natCast_pow]; rfl
  unfold sgM
  split
  · rw [Int.neg_mul, ← h2]; omega
  · rw [← h2]; omega
/-- Odd, by values. -/
theorem xOdd_val (p bd : Nat) (e B z : Int) (w : World) (h : ExV w p e B z bd) (hbd : bd ≤ 400000) (he1 : -1000000 ≤ e) (he2 : e ≤ 1000000) (hT : Tab32 w) (hs : 2 < w.heap.size) :
    Calls Tryz.prog 67 #[.agg #[.pointer (some ⟨p, 0, none⟩), .int .i64 e]] w fun r w' => ∃ q e', r = .returned (.agg #[.pointer (some ⟨q, 0, none⟩), .int .i64 e']) ∧ OddV w' q e' B z (bd + 1) ∧ (e' = 0 ∨ e ≤ e' ∧ e' ≤ e + 32 * bd) ∧ Below w.heap.size w w' := by
  obtain ⟨v, k, f1, f2, f3⟩ := h
  by_cases hv : v = 0
  · subst hv
    refine (xOdd_zero p bd e w f1).mono ?_
    rintro r w' ⟨q, rfl, hq, hn, hb⟩
    exact ⟨q, 0, rfl, Or.inl ⟨by rw [f3, Int.zero_mul], hn.more (by omega), rfl⟩, Or.inl rfl, hb⟩
  · refine (xOdd_some p bd v e w f1 hv hbd he1 he2 hT hs).mono ?_
    rintro r w' ⟨q, T, m, rfl, hq, h1, h2, h3, hn, hb⟩
    refine ⟨q, e + T, rfl, Or.inr ⟨sgM v m, T + k, sgM_odd v m h2, hn, by omega, ?_⟩, Or.inr (by omega), hb⟩
    rw [f3, Int.pow_add, ← Int.mul_assoc, ← sgM_val v T m h1]
end Go.Proofs.YtehnkgonhgjeiaaGreatDoor

namespace Go.Proofs.YtehnkgonhgjeiaaGreatDoor
open Go.RowKit Go.IntWalk

theorem natL_low (L : List Nat) : natL L % 4294967296 = L.getD 0 0 % 4294967296 := by
  match L with
  | [] => rfl
  | d :: t => show (d + 4294967296 * natL t) % 4294967296 = d % 4294967296; omega
set_option maxHeartbeats 400000 in
theorem NUlow (x v bd : Nat) (w : World) (hx : NumAt w x (v : Int) bd) :
    Calls Tryz.prog 71 #[.pointer (some ⟨x, 0, none⟩)] w fun r w' => ∃ u : Nat, r = .returned (.int .u64 u) ∧ u < 18446744073709551616 ∧ u % 4294967296 = v % 4294967296 ∧ w' = w := by
  obtain ⟨L, rfl, hL, hB⟩ := num_pos hx
  by_cases h2 : L.length ≤ 2
  · refine (Uint64_any x false L w hB h2).mono ?_
    obtain ⟨a, cap, ho, hcap, hm, hd, hc, hn⟩ := id hB
    rintro r w' ⟨rfl, rfl⟩
    have h0 := hd.get 0
    have h1 := hd.get 1
    exact ⟨natL L, rfl, by rw [natL_two L h2]; omega, rfl, rfl⟩
  · obtain ⟨a, cap, ho, hcap, hm, hd, hc, hn⟩ := hB
    obtain ⟨c0, c1, hf, hlt⟩ := int_cells ho
    have h0 := hd.get 0
    have h1 := hd.get 1
    have hor := or_words _ _ h0 h1
    obtain ⟨b, off, rfl, hb, m0'⟩ := hm 0 (by omega)
    have m0 : w.cell? ⟨b, off, none⟩ = some (.int .u32 (L.getD 0 0)) := m0'
    clear m0'
    obtain ⟨b', off', e', hb', m1⟩ := hm 1 (by omega)
    cases e'
    have HLOW := hid (natL_low L)
    obtain ⟨n, hnl⟩ : ∃ n, Hid (L.length = n) := ⟨_, rfl⟩
    rw [hnl.out] at c1 h2 hL
    obtain ⟨d, hdd⟩ : ∃ d, Hid (L.getD 0 0 = d) := ⟨_, rfl⟩
    obtain ⟨e, hee⟩ : ∃ e, Hid (L.getD 1 0 = e) := ⟨_, rfl⟩
    rw [hdd.out] at m0 hor h0 HLOW
    rw [hee.out] at m1 hor h1
    have hw0 : IntKind.u64.wrap (d : Int) = (d : Int) := by rw [IntKind.wrap_u64]; omega
    have hw1 : IntKind.u64.wrap (e : Int) = (e : Int) := by rw [IntKind.wrap_u64]; omega
    have HB1 := hid (And.intro h0 h1)
    obtain ⟨z, hz⟩ : ∃ z, Hid (d + 4294967296 * e = z) := ⟨_, rfl⟩
    rw [hz.out] at hor
    have hn0 : (0 : Int) < (n : Int) := by omega
    have hn1 : (1 : Int) < (n : Int) := by omega
    have hnN0 : 0 < n := by omega
    have hnN1 : 1 < n := by omega
    clear hm hd hc hn ho hcap hf h0 h1 h2 hL
    go_enter Tryz.func71, Tryz.ntmps71
    go_wp2
    go_ret
    refine ⟨z, by first | rfl | exact ret_int hor, ?_, ?_, rfl⟩
    · have := HB1.out; have := hz.out; omega
    · rw [HLOW.out]; have := hz.out; omega
end Go.Proofs.YtehnkgonhgjeiaaGreatDoor
