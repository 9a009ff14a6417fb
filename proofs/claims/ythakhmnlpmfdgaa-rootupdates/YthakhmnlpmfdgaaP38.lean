
/- chol's Lower at chapter 16's first example. (Written by mkrth.py.) -/
import Derived.Test.YthakhmnlpmfdgaaP37
namespace Go.Proofs.Ythakhmnlpmfdgaa
open Go.RowKit Go.IntWalk

/-- A row of one number. -/
def S1 (W : World) (b x : Nat) : Prop := b < W.heap.size ∧ W.cell? ⟨b, 0, none⟩ = some (.float .f64 x)
theorem S1.below {W W' : World} {b x : Nat} (h : S1 W b x) (hb : Below W.heap.size W W') : S1 W' b x := ⟨Nat.lt_of_lt_of_le h.1 hb.size, (hb.cell (p := ⟨b, 0, none⟩) h.1).trans h.2⟩
theorem S1.fl2 {W : World} {b x : Nat} (h : S1 W b x) (hx : x < 18446744073709551616) : FlM W (some ⟨b, 0, none⟩) 1 1 [x] := one_fl hx h.2 h.1
theorem S1.fl {W : World} {b : Nat} {x : Nat} (h : S1 W b x) (hx : x < 18446744073709551616 := by decide) : FlM W (some ⟨b, 0, none⟩) 1 1 [x] := one_fl hx h.2 h.1
theorem chk_one : chkM 1 1 1 [4611686018427387904] = 0 := by decide +kernel
theorem low_one : lowT 1 1 1 [4611686018427387904] = true := by decide +kernel
theorem fin_four : finM [4616189618054758400] = true := by decide +kernel
theorem fin_two : finM [4611686018427387904] = true := by decide +kernel
theorem quo_42 : floatBits .quo .f64 4616189618054758400 4611686018427387904 = some 4611686018427387904 := by decide +kernel
set_option maxRecDepth 4000 in
set_option maxHeartbeats 1000000 in
theorem cat_one (b : Nat) (w : World) (h : S1 w b 4611686018427387904) : Calls Try.prog 101 #[.agg #[.int .i64 1, .int .i64 1, .slice (some ⟨b, 0, none⟩) 1 1], .int .i64 0, .int .i64 0] w fun e w' => e = .returned (.float .f64 4611686018427387904) ∧ Below w.heap.size w w' := by
  have HA0 : Hid ((w.alloc (MBox 1 1 (some ⟨b, 0, none⟩) 1 1)).heap[w.heap.size]? = some (MBox 1 1 (some ⟨b, 0, none⟩) 1 1)) := nblkM _ _
  have HB : Hid (Below w.heap.size w (w.alloc (MBox 1 1 (some ⟨b, 0, none⟩) 1 1))) := (Below.refl _ _).alloc (Nat.le_refl _) _
  obtain ⟨V, hV⟩ : ∃ V, Hid (w.alloc (MBox 1 1 (some ⟨b, 0, none⟩) 1 1) = V) := ⟨_, rfl⟩
  rw [hV.out] at HA0 HB
  have hV' := hV.out
  obtain ⟨x0, x1, x2⟩ := mcells_of HA0.out
  unfold MBox at hV'
  have hc := (HB.out.cell (p := ⟨b, 0, none⟩) h.1).trans h.2
  clear h
  go_enter Try.func101, Try.ntmps101
  go_wp2_with fail
  go_ret
  exact ⟨rfl, HB.out⟩
set_option maxRecDepth 4000 in
set_option maxHeartbeats 1000000 in
theorem csq_one (b : Nat) (w : World) (h : S1 w b 4611686018427387904) : Calls Try.prog 105 #[.agg #[.int .i64 1, .int .i64 1, .slice (some ⟨b, 0, none⟩) 1 1]] w fun e w' => e = .returned (.int .i64 0) ∧ Below w.heap.size w w' := by
  have HC := hid (fun W (hW : Below w.heap.size w W) => Check_any 1 1 (some ⟨b, 0, none⟩) 1 1 [4611686018427387904] W (h.below hW).fl (by decide))
  rw [chk_one] at HC
  have HA0 : Hid ((w.alloc (MBox 1 1 (some ⟨b, 0, none⟩) 1 1)).heap[w.heap.size]? = some (MBox 1 1 (some ⟨b, 0, none⟩) 1 1)) := nblkM _ _
  have HB : Hid (Below w.heap.size w (w.alloc (MBox 1 1 (some ⟨b, 0, none⟩) 1 1))) := (Below.refl _ _).alloc (Nat.le_refl _) _
  obtain ⟨V, hV⟩ : ∃ V, Hid (w.alloc (MBox 1 1 (some ⟨b, 0, none⟩) 1 1) = V) := ⟨_, rfl⟩
  rw [hV.out] at HA0 HB
  have hV' := hV.out
  obtain ⟨x0, x1, x2⟩ := mcells_of HA0.out
  unfold MBox at hV'
  unfold MV at HC
  clear h
  go_enter Try.func105, Try.ntmps105
  go_wp2_with fail
  refine (HC.out _ HB.out).mono ?_
  rintro e w1 ⟨rfl, hb1⟩
  have HB1 := hid (HB.out.trans (hb1.mono HB.out.size))
  obtain ⟨x0, x1, x2⟩ := mcells_of (blkM HA0.out hb1)
  have HA1 := hid (blkM HA0.out hb1)
  clear hb1
  go_wp2_with fail
  go_ret
  exact ⟨rfl, HB1.out⟩
set_option maxRecDepth 4000 in
set_option maxHeartbeats 1000000 in
theorem ctri_one (b : Nat) (w : World) (h : S1 w b 4611686018427387904) : Calls Try.prog 99 #[.agg #[.int .i64 1, .int .i64 1, .slice (some ⟨b, 0, none⟩) 1 1]] w fun e w' => e = .returned (.int .i64 0) ∧ Below w.heap.size w w' := by
  have HC := hid (fun W (hW : Below w.heap.size w W) => csq_one b W (h.below hW))
  have HT := hid (fun W (hW : Below w.heap.size w W) => cat_one b W (h.below hW))
  have HL := hid (fun W (hW : Below w.heap.size w W) => Lower_tot 1 1 (some ⟨b, 0, none⟩) 1 1 [4611686018427387904] W (h.below hW).fl (by decide))
  rw [low_one] at HL
  have o1 : (FloatKind.f64.format.order 4611686018427387904 0 == some .lt) = false := by decide +kernel
  have o2 : (FloatKind.f64.format.order 4611686018427387904 0 == some .eq) = false := by decide +kernel
  have HA0 : Hid ((w.alloc (MBox 1 1 (some ⟨b, 0, none⟩) 1 1)).heap[w.heap.size]? = some (MBox 1 1 (some ⟨b, 0, none⟩) 1 1)) := nblkM _ _
  have HB : Hid (Below w.heap.size w (w.alloc (MBox 1 1 (some ⟨b, 0, none⟩) 1 1))) := (Below.refl _ _).alloc (Nat.le_refl _) _
  obtain ⟨V, hV⟩ : ∃ V, Hid (w.alloc (MBox 1 1 (some ⟨b, 0, none⟩) 1 1) = V) := ⟨_, rfl⟩
  rw [hV.out] at HA0 HB
  have hV' := hV.out
  obtain ⟨x0, x1, x2⟩ := mcells_of HA0.out
  unfold MBox at hV'
  clear h
  go_enter Try.func99, Try.ntmps99
  go_wp2_with fail
  refine (HC.out _ HB.out).mono ?_
  rintro e w1 ⟨rfl, hb1⟩
  have HB1 := hid (HB.out.trans (hb1.mono HB.out.size))
  obtain ⟨x0, x1, x2⟩ := mcells_of (blkM HA0.out hb1)
  have HA1 := hid (blkM HA0.out hb1)
  clear hb1
  go_wp2_with fail
  refine (HL.out _ HB1.out).mono ?_
  rintro e w2 ⟨rfl, hb2⟩
  have HB2 := hid (HB1.out.trans (hb2.mono HB1.out.size))
  obtain ⟨x0, x1, x2⟩ := mcells_of (blkM HA1.out hb2)
  have HA2 := hid (blkM HA1.out hb2)
  clear hb2
  go_wp2_with fail
  go_loopw [15] (fun iv wr => ∃ k : Nat, k ≤ 1 ∧ iv = .int .i64 k ∧ Hid (Below w2.heap.size w2 wr)) (fun iv _ => 1 - (intOf iv).toNat)
  case atStart => exact ⟨0, by decide, rfl, Below.refl _ _⟩
  case round =>
    obtain ⟨k, hk, rfl, HW⟩ := hrel
    have HWB := hid (HB2.out.trans (HW.out.mono HB2.out.size))
    obtain ⟨x0, x1, x2⟩ := mcells_of (blkM HA2.out HW.out)
    by_cases hlt : k = 0
    · subst hlt
      go_wp2_with fail
      refine (HT.out _ HWB.out).mono ?_
      rintro e w3 ⟨rfl, hb⟩
      have HW2 := hid (HW.out.trans (hb.mono HW.out.size))
      clear hb
      go_wp2_with fail
      go_roundw
      case rel => exact ⟨1, by decide, rfl, HW2⟩
      case measure => decide
    · obtain rfl : k = 1 := by omega
      go_wp2_with fail
      go_ret
      exact ⟨rfl, HWB.out⟩
set_option maxRecDepth 4000 in
set_option maxHeartbeats 1000000 in
theorem cls_one (c : Nat) (w : World) (h : S1 w c 4616189618054758400) : Calls Try.prog 100 #[.slice (some ⟨c, 0, none⟩) 1 1, .int .i64 1] w fun e w' => e = .returned (.int .i64 0) ∧ Below w.heap.size w w' := by
  have HF := hid (FinM_any (some ⟨c, 0, none⟩) 1 1 [4616189618054758400] w h.fl (by decide))
  rw [fin_four] at HF
  clear h
  go_enter Try.func100, Try.ntmps100
  go_wp2_with fail
  refine HF.out.mono ?_
  rintro e w1 ⟨rfl, hb⟩
  have HB := hid hb
  clear hb
  go_wp2_with fail
  go_ret
  exact ⟨rfl, HB.out⟩
set_option maxRecDepth 4000 in
set_option maxHeartbeats 1000000 in
theorem csd_one (b c : Nat) (w : World) (h : S1 w b 4611686018427387904) (h2 : S1 w c 4616189618054758400) : Calls Try.prog 84 #[.agg #[.int .i64 1, .int .i64 1, .slice (some ⟨b, 0, none⟩) 1 1], .slice (some ⟨c, 0, none⟩) 1 1] w fun e w' => e = .returned (.int .i64 0) ∧ Below w.heap.size w w' := by
  have HC := hid (fun W (hW : Below w.heap.size w W) => ctri_one b W (h.below hW))
  have HL := hid (fun W (hW : Below w.heap.size w W) => cls_one c W (h2.below hW))
  have HA0 : Hid ((w.alloc (MBox 1 1 (some ⟨b, 0, none⟩) 1 1)).heap[w.heap.size]? = some (MBox 1 1 (some ⟨b, 0, none⟩) 1 1)) := nblkM _ _
  have HB : Hid (Below w.heap.size w (w.alloc (MBox 1 1 (some ⟨b, 0, none⟩) 1 1))) := (Below.refl _ _).alloc (Nat.le_refl _) _
  obtain ⟨V, hV⟩ : ∃ V, Hid (w.alloc (MBox 1 1 (some ⟨b, 0, none⟩) 1 1) = V) := ⟨_, rfl⟩
  rw [hV.out] at HA0 HB
  have hV' := hV.out
  obtain ⟨x0, x1, x2⟩ := mcells_of HA0.out
  unfold MBox at hV'
  clear h h2
  go_enter Try.func84, Try.ntmps84
  go_wp2_with fail
  refine (HC.out _ HB.out).mono ?_
  rintro e w1 ⟨rfl, hb1⟩
  have HB1 := hid (HB.out.trans (hb1.mono HB.out.size))
  obtain ⟨x0, x1, x2⟩ := mcells_of (blkM HA0.out hb1)
  have HA1 := hid (blkM HA0.out hb1)
  clear hb1
  go_wp2_with fail
  refine (HL.out _ HB1.out).mono ?_
  rintro e w2 ⟨rfl, hb2⟩
  have HB2 := hid (HB1.out.trans (hb2.mono HB1.out.size))
  obtain ⟨x0, x1, x2⟩ := mcells_of (blkM HA1.out hb2)
  have HA2 := hid (blkM HA1.out hb2)
  clear hb2
  go_wp2_with fail
  go_ret
  exact ⟨rfl, HB2.out⟩
set_option maxRecDepth 4000 in
set_option maxHeartbeats 1000000 in
theorem cfw_one (b c : Nat) (w : World) (h : S1 w b 4611686018427387904) (h2 : S1 w c 4616189618054758400) : Calls Try.prog 86 #[.agg #[.int .i64 1, .int .i64 1, .slice (some ⟨b, 0, none⟩) 1 1], .slice (some ⟨c, 0, none⟩) 1 1] w fun e w' => (∃ g, e = .returned (.slice (some ⟨g, 0, none⟩) 1 1) ∧ w.heap.size ≤ g ∧ S1 w' g 4611686018427387904) ∧ Below w.heap.size w w' := by
  have HT := hid (fun W (hW : Below w.heap.size w W) => cat_one b W (h.below hW))
  have r4 : ∀ W, (binOp .quo 28 (.float .f64 4616189618054758400) (.float .f64 4611686018427387904)).run Try.prog W = .ok (.float .f64 4611686018427387904) W := fun W => by have := qu_run 4616189618054758400 4611686018427387904 W; unfold quF quG at this; rw [quo_42] at this; exact this
  have hst := fstoreM
  have hmk := run_make_row' (P := Try.prog) 32 28 (.float .f64 0) 8 Try.underlying32 info_fM rfl .i64 .i64 1 (by decide) (by decide)
  rw [show ((1 : Nat) : Int) = 1 from rfl] at hmk
  have HA0 : Hid ((w.alloc (MBox 1 1 (some ⟨b, 0, none⟩) 1 1)).heap[w.heap.size]? = some (MBox 1 1 (some ⟨b, 0, none⟩) 1 1)) := nblkM _ _
  have HB : Hid (Below w.heap.size w (w.alloc (MBox 1 1 (some ⟨b, 0, none⟩) 1 1))) := (Below.refl _ _).alloc (Nat.le_refl _) _
  obtain ⟨V, hV⟩ : ∃ V, Hid (w.alloc (MBox 1 1 (some ⟨b, 0, none⟩) 1 1) = V) := ⟨_, rfl⟩
  rw [hV.out] at HA0 HB
  have hV' := hV.out
  obtain ⟨x0, x1, x2⟩ := mcells_of HA0.out
  unfold MBox at hV'
  have HH := hid h2
  have HR0 := hid (World.rowIs_made V (.float .f64 0) 1 28)
  have al : Below V.heap.size V (V.alloc (.cells (madeCells #[.float .f64 0] 1) 28)) := (Below.refl _ _).alloc (Nat.le_refl _) _
  obtain ⟨V1, hV1⟩ : ∃ t, Hid (V.alloc (.cells (madeCells #[.float .f64 0] 1) 28) = t) := ⟨_, rfl⟩
  obtain ⟨g, hg⟩ : ∃ t, Hid (V.heap.size = t) := ⟨_, rfl⟩
  rw [hV1.out] at HR0 al
  rw [hg.out] at HR0
  have hV1' := hV1.out
  have hg' := hg.out
  have HAL := hid al
  have hc := ((HB.out.trans (al.mono HB.out.size)).cell (p := ⟨c, 0, none⟩) HH.out.1).trans HH.out.2
  have HGB : Hid (w.heap.size ≤ g) := by show _ ≤ _; rw [← hg.out]; exact HB.out.size
  clear h h2 al
  go_enter Try.func86, Try.ntmps86
  go_wp2_with fail
  go_loopw [14] (fun iv wr => ∃ (k y : Nat), k ≤ 1 ∧ iv = .int .i64 k ∧ Hid (wr.rowIs g 28 1 (fun _ => .float .f64 y)) ∧ Hid (k = 1 → y = 4611686018427387904) ∧ Hid (Below V.heap.size V wr)) (fun iv _ => 1 - (intOf iv).toNat)
  case atStart => exact ⟨0, 0, by decide, rfl, HR0, fun h => absurd h (by decide), HAL.out⟩
  case round =>
    obtain ⟨k, y, hk, rfl, HR, HY, HW⟩ := hrel
    have HWB := hid (HB.out.trans (HW.out.mono HB.out.size))
    obtain ⟨x0, x1, x2⟩ := mcells_of (blkM HA0.out HW.out)
    have hc := (HWB.out.cell (p := ⟨c, 0, none⟩) HH.out.1).trans HH.out.2
    by_cases hlt : k = 0
    · subst hlt
      go_wp2_with fail
      go_loopw [7, 22] (fun t iv ww => t = .float .f64 4616189618054758400 ∧ iv = .int .i64 0 ∧ ww = wr) (fun _ _ _ => 0)
      case atStart => exact ⟨rfl, rfl, rfl⟩
      case round =>
        obtain ⟨rfl, rfl, rfl⟩ := hrel
        go_wp2_with fail
        refine (HT.out _ HWB.out).mono ?_
        rintro e w3 ⟨rfl, hb⟩
        have HR3 := hid (HR.out.of_block (hb.block _ HR.out.lt))
        have HW3 := hid (HW.out.trans (hb.mono HW.out.size))
        have c1 := HR3.out.cell (i := 0) (by decide)
        have f1 := HR3.out.frozen 0
        have HR4 := hid (HR3.out.set 0 (.float .f64 4611686018427387904))
        have HW4 := hid (HW3.out.setCell (p := ⟨g, 0, none⟩) (by rw [← hg.out]; exact Nat.le_refl _) (.float .f64 4611686018427387904))
        clear hb
        go_wp2_with fail
        refine ⟨⟨1, 4611686018427387904, by decide, rfl, HR4.out.congr (fun j hj => by rw [if_pos (by omega)]), fun _ => rfl, HW4.out⟩, ?_⟩
        decide
    · obtain rfl : k = 1 := by omega
      have hy := HY.out rfl
      subst hy
      go_wp2_with fail
      go_ret
      exact ⟨⟨g, rfl, HGB.out, HR.out.lt, HR.out.cell (by decide)⟩, HWB.out⟩
set_option maxRecDepth 4000 in
set_option maxHeartbeats 1000000 in
theorem can_one (c : Nat) (w : World) (h : S1 w c 4611686018427387904) : Calls Try.prog 85 #[.slice (some ⟨c, 0, none⟩) 1 1] w fun e w' => e = .returned (.tuple #[.slice (some ⟨c, 0, none⟩) 1 1, .int .i64 0]) ∧ Below w.heap.size w w' := by
  have HF := hid (FinM_any (some ⟨c, 0, none⟩) 1 1 [4611686018427387904] w h.fl (by decide))
  rw [fin_two] at HF
  clear h
  go_enter Try.func85, Try.ntmps85
  go_wp2_with fail
  refine HF.out.mono ?_
  rintro e w1 ⟨rfl, hb⟩
  have HB := hid hb
  clear hb
  go_wp2_with fail
  go_ret2
  exact ⟨rfl, HB.out⟩
set_option maxRecDepth 4000 in
set_option maxHeartbeats 1000000 in
theorem cLow_one (b c : Nat) (w : World) (h : S1 w b 4611686018427387904) (h2 : S1 w c 4616189618054758400) : Calls Try.prog 60 #[.agg #[.int .i64 1, .int .i64 1, .slice (some ⟨b, 0, none⟩) 1 1], .slice (some ⟨c, 0, none⟩) 1 1] w fun e w' => (∃ g, e = .returned (.tuple #[.slice (some ⟨g, 0, none⟩) 1 1, .int .i64 0]) ∧ S1 w' g 4611686018427387904) ∧ Below w.heap.size w w' := by
  have HC := hid (fun W (hW : Below w.heap.size w W) => csd_one b c W (h.below hW) (h2.below hW))
  have HL := hid (fun W (hW : Below w.heap.size w W) => cfw_one b c W (h.below hW) (h2.below hW))
  have HA0 : Hid ((w.alloc (MBox 1 1 (some ⟨b, 0, none⟩) 1 1)).heap[w.heap.size]? = some (MBox 1 1 (some ⟨b, 0, none⟩) 1 1)) := nblkM _ _
  have HB : Hid (Below w.heap.size w (w.alloc (MBox 1 1 (some ⟨b, 0, none⟩) 1 1))) := (Below.refl _ _).alloc (Nat.le_refl _) _
  obtain ⟨V, hV⟩ : ∃ V, Hid (w.alloc (MBox 1 1 (some ⟨b, 0, none⟩) 1 1) = V) := ⟨_, rfl⟩
  rw [hV.out] at HA0 HB
  have hV' := hV.out
  obtain ⟨x0, x1, x2⟩ := mcells_of HA0.out
  unfold MBox at hV'
  clear h h2
  go_enter Try.func60, Try.ntmps60
  go_wp2_with fail
  refine (HC.out _ HB.out).mono ?_
  rintro e w1 ⟨rfl, hb1⟩
  have HB1 := hid (HB.out.trans (hb1.mono HB.out.size))
  obtain ⟨x0, x1, x2⟩ := mcells_of (blkM HA0.out hb1)
  have HA1 := hid (blkM HA0.out hb1)
  clear hb1
  go_wp2_with fail
  refine (HL.out _ HB1.out).mono ?_
  rintro e w2 ⟨⟨g, rfl, hg, hs⟩, hb2⟩
  have HB2 := hid (HB1.out.trans (hb2.mono HB1.out.size))
  obtain ⟨x0, x1, x2⟩ := mcells_of (blkM HA1.out hb2)
  have HA2 := hid (blkM HA1.out hb2)
  have HS := hid hs
  clear hb2 hs hg
  go_wp2_with fail
  refine (can_one g w2 HS.out).mono ?_
  rintro e w3 ⟨rfl, hb⟩
  have HB3 := hid (HB2.out.trans (hb.mono HB2.out.size))
  have HS3 := hid (HS.out.below hb)
  clear hb
  go_wp2_with fail
  go_ret2
  exact ⟨⟨g, rfl, HS3.out⟩, HB3.out⟩
end Go.Proofs.Ythakhmnlpmfdgaa

namespace Go.Proofs.Ythakhmnlpmfdgaa
open Go.RowKit Go.IntWalk

theorem rootE_one : rootE [0] 1 1 1 1 [4611686018427387904] = 0 := by decide +kernel
theorem lsE_one : lsE 1 [4616189618054758400] ((1 : Nat) : Int) = 0 := by decide +kernel
theorem sub_40 : floatBits .sub .f64 4616189618054758400 0 = some 4616189618054758400 := by decide +kernel
theorem dotD_22 : dotD 1 [4611686018427387904] 1 [4611686018427387904] = 4616189618054758400 := by decide +kernel
theorem dotT_22 : dotT 1 [4611686018427387904] 1 [4611686018427387904] = 0 := by decide +kernel
set_option maxRecDepth 8000 in
set_option maxHeartbeats 4000000 in
theorem Dist_one (a b c : Nat) (w : World) (ha : S1 w a 0) (hb : S1 w b 4611686018427387904) (hc : S1 w c 4616189618054758400) : Calls Try.prog 30 #[.agg #[.slice (some ⟨a, 0, none⟩) 1 1, .int .i64 1, .int .i64 1, .slice (some ⟨b, 0, none⟩) 1 1], .slice (some ⟨c, 0, none⟩) 1 1] w fun e w' => e = .returned (.tuple #[.float .f64 4616189618054758400, .int .i64 0]) ∧ Below w.heap.size w w' := by
  have HA := hid ha
  have HBB := hid hb
  have HC := hid hc
  have HCK := hid (fun W (hW : Below w.heap.size w W) => rcheck_any (some ⟨a, 0, none⟩) 1 1 [0] 1 1 (some ⟨b, 0, none⟩) 1 1 [4611686018427387904] W (ha.below hW).fl (by decide) (hb.below hW).fl (by decide))
  rw [rootE_one] at HCK
  unfold RV at HCK
  have HLS := hid (fun W (hW : Below w.heap.size w W) => rls_any (some ⟨c, 0, none⟩) 1 1 [4616189618054758400] ((1 : Nat) : Int) W (hc.below hW).fl (by decide))
  rw [lsE_one, show ((1 : Nat) : Int) = 1 from rfl] at HLS
  have r2 : ∀ W, (binOp .sub 28 (.float .f64 4616189618054758400) (.float .f64 0)).run Try.prog W = .ok (.float .f64 4616189618054758400) W := fun W => by have := ar_run .sub ok_s 4616189618054758400 0 W; unfold arF arG at this; rw [sub_40] at this; exact this
  have hst := fstoreM
  have hmk := run_make_row' (P := Try.prog) 32 28 (.float .f64 0) 8 Try.underlying32 info_fM rfl .i64 .i64 1 (by decide) (by decide)
  rw [show ((1 : Nat) : Int) = 1 from rfl] at hmk
  have HA0 : Hid ((w.alloc (RBox (some ⟨a, 0, none⟩) 1 1 1 1 (some ⟨b, 0, none⟩) 1 1)).heap[w.heap.size]? = some (RBox (some ⟨a, 0, none⟩) 1 1 1 1 (some ⟨b, 0, none⟩) 1 1)) := nblkM _ _
  have HB : Hid (Below w.heap.size w (w.alloc (RBox (some ⟨a, 0, none⟩) 1 1 1 1 (some ⟨b, 0, none⟩) 1 1))) := (Below.refl _ _).alloc (Nat.le_refl _) _
  obtain ⟨V, hV⟩ : ∃ V, Hid (w.alloc (RBox (some ⟨a, 0, none⟩) 1 1 1 1 (some ⟨b, 0, none⟩) 1 1) = V) := ⟨_, rfl⟩
  obtain ⟨p0, hp0⟩ : ∃ t, Hid (w.heap.size = t) := ⟨_, rfl⟩
  rw [hV.out] at HA0 HB
  rw [hp0.out] at HA0
  have hV' := hV.out
  have hp0' := hp0.out
  obtain ⟨x0, x1, x2, x3⟩ := rcells_of HA0.out
  unfold RBox at hV'
  clear ha hb hc
  go_enter Try.func30, Try.ntmps30
  go_wp2_with fail
  refine (HCK.out V HB.out).mono ?_
  rintro e w1 ⟨rfl, hb1⟩
  have HB1 := hid (HB.out.trans (hb1.mono HB.out.size))
  obtain ⟨x0, x1, x2, x3⟩ := rcells_of (blkM HA0.out hb1)
  have HA1 := hid (blkM HA0.out hb1)
  clear hb1
  go_wp2_with fail
  refine (HLS.out w1 HB1.out).mono ?_
  rintro e w2 ⟨rfl, hb2⟩
  have HB2 := hid (HB1.out.trans (hb2.mono HB1.out.size))
  obtain ⟨x0, x1, x2, x3⟩ := rcells_of (blkM HA1.out hb2)
  have HA2 := hid (blkM HA1.out hb2)
  clear hb2
  have HR0 := hid (World.rowIs_made w2 (.float .f64 0) 1 28)
  have al : Below w2.heap.size w2 (w2.alloc (.cells (madeCells #[.float .f64 0] 1) 28)) := (Below.refl _ _).alloc (Nat.le_refl _) _
  obtain ⟨V1, hV1⟩ : ∃ t, Hid (w2.alloc (.cells (madeCells #[.float .f64 0] 1) 28) = t) := ⟨_, rfl⟩
  obtain ⟨g, hg⟩ : ∃ t, Hid (w2.heap.size = t) := ⟨_, rfl⟩
  rw [hV1.out] at HR0 al
  rw [hg.out] at HR0
  have hV1' := hV1.out
  have hg' := hg.out
  have HAL := hid al
  clear al
  go_wp2_with fail
  go_loopw [30] (fun iv wr => ∃ (k y : Nat), k ≤ 1 ∧ iv = .int .i64 k ∧ Hid (wr.rowIs g 28 1 (fun _ => .float .f64 y)) ∧ Hid (k = 1 → y = 4616189618054758400) ∧ Hid (Below w2.heap.size w2 wr)) (fun iv _ => 1 - (intOf iv).toNat)
  case atStart => exact ⟨0, 0, by decide, rfl, HR0, fun h => absurd h (by decide), HAL⟩
  case round =>
    obtain ⟨k, y, hk, rfl, HR, HY, HW⟩ := hrel
    by_cases hlt : k = 0
    · subst hlt
      have HKS : Hid (∀ W, Hid (Below w2.heap.size w2 W) → (W.cell? ⟨p0, 0, none⟩ = some (.slice (some ⟨a, 0, none⟩) 1 1) ∧ W.cell? ⟨a, 0, none⟩ = some (.float .f64 0) ∧ W.cell? ⟨c, 0, none⟩ = some (.float .f64 4616189618054758400)) ∧ Hid (Below w2.heap.size w2 W)) := fun W hW => by
        obtain ⟨x0, x1, x2, x3⟩ := rcells_of (blkM HA2.out hW.out)
        have hbb := HB2.out.trans (hW.out.mono HB2.out.size)
        exact ⟨⟨x0, (hbb.cell (p := ⟨a, 0, none⟩) HA.out.1).trans HA.out.2, (hbb.cell (p := ⟨c, 0, none⟩) HC.out.1).trans HC.out.2⟩, hW⟩
      have HQ0 : Hid (Below w2.heap.size w2 wr.drew) := HW.out.drew
      have HRD : Hid (wr.drew.rowIs g 28 1 (fun _ => .float .f64 y)) := HR.out
      have c1 := HRD.out.cell (i := 0) (by decide)
      have f1 := HRD.out.frozen 0
      have HRS := hid (HRD.out.set 0 (.float .f64 4616189618054758400))
      have HQ1 : Hid (Below w2.heap.size w2 (wr.drew.setCell ⟨g, 0, none⟩ (.float .f64 4616189618054758400))) := HQ0.out.setCell (p := ⟨g, 0, none⟩) (by rw [← hg.out]; exact Nat.le_refl _) _
      clear hmk
      go_wp2_with fail
      refine wp_region_held_drew (S := fun W => (W.cell? ⟨p0, 0, none⟩ = some (.slice (some ⟨a, 0, none⟩) 1 1) ∧ W.cell? ⟨a, 0, none⟩ = some (.float .f64 0) ∧ W.cell? ⟨c, 0, none⟩ = some (.float .f64 4616189618054758400)) ∧ Hid (Below w2.heap.size w2 W)) (by kernel_rfl) (HKS.out _ HQ0) (fun hHeld => ?_)
      refine take_at 0 33 (.slice (some ⟨g, 0, none⟩) 1 1) rfl rfl (by kernel_rfl) (by kernel_rfl) (by kernel_rfl) (fun _ _ _ h => h) (Or.inl ⟨by rfl, fun w hSw => by (try dsimp only at hSw); go_simp⟩) (by assumption) ?_
      simp only [Act.put, List.setIfInBounds_toArray, List.set_cons_zero, List.set_cons_succ]
      refine take_at 1 34 (.int .i64 0) rfl rfl (by kernel_rfl) (by kernel_rfl) (by kernel_rfl) (fun _ _ _ h => h) (Or.inl ⟨by rfl, fun w hSw => by (try dsimp only at hSw); go_simp⟩) (by assumption) ?_
      simp only [Act.put, List.setIfInBounds_toArray, List.set_cons_zero, List.set_cons_succ]
      refine take_at 2 35 (.slice (some ⟨c, 0, none⟩) 1 1) rfl rfl (by kernel_rfl) (by kernel_rfl) (by kernel_rfl) (fun _ _ _ h => h) (Or.inl ⟨by rfl, fun w hSw => by (try dsimp only at hSw); go_simp⟩) (by assumption) ?_
      simp only [Act.put, List.setIfInBounds_toArray, List.set_cons_zero, List.set_cons_succ]
      refine take_at 3 36 (.int .i64 0) rfl rfl (by kernel_rfl) (by kernel_rfl) (by kernel_rfl) (fun _ _ _ h => h) (Or.inl ⟨by rfl, fun w hSw => by (try dsimp only at hSw); go_simp⟩) (by assumption) ?_
      simp only [Act.put, List.setIfInBounds_toArray, List.set_cons_zero, List.set_cons_succ]
      refine take_at 4 37 (.pointer (some ⟨c, 0, none⟩)) rfl rfl (by kernel_rfl) (by kernel_rfl) (by kernel_rfl) (fun _ _ _ h => h) (Or.inl ⟨by rfl, fun w hSw => by (try dsimp only at hSw); go_simp⟩) (by assumption) ?_
      simp only [Act.put, List.setIfInBounds_toArray, List.set_cons_zero, List.set_cons_succ]
      refine take_at 5 38 (.float .f64 4616189618054758400) rfl rfl (by kernel_rfl) (by kernel_rfl) (by kernel_rfl) (fun _ _ _ h => h) (Or.inl ⟨by rfl, fun w hSw => by (try dsimp only at hSw); go_simp⟩) (by assumption) ?_
      simp only [Act.put, List.setIfInBounds_toArray, List.set_cons_zero, List.set_cons_succ]
      refine take_at 6 39 (.pointer (some ⟨p0, 0, none⟩)) rfl rfl (by kernel_rfl) (by kernel_rfl) (by kernel_rfl) (fun _ _ _ h => h) (Or.inl ⟨by rfl, fun w hSw => by (try dsimp only at hSw); go_simp⟩) (by assumption) ?_
      simp only [Act.put, List.setIfInBounds_toArray, List.set_cons_zero, List.set_cons_succ]
      refine take_at 7 40 (.slice (some ⟨a, 0, none⟩) 1 1) rfl rfl (by kernel_rfl) (by kernel_rfl) (by kernel_rfl) (fun _ _ _ h => h) (Or.inl ⟨by rfl, fun w hSw => by (try dsimp only at hSw); go_simp⟩) (by assumption) ?_
      simp only [Act.put, List.setIfInBounds_toArray, List.set_cons_zero, List.set_cons_succ]
      refine take_at 8 41 (.int .i64 0) rfl rfl (by kernel_rfl) (by kernel_rfl) (by kernel_rfl) (fun _ _ _ h => h) (Or.inl ⟨by rfl, fun w hSw => by (try dsimp only at hSw); go_simp⟩) (by assumption) ?_
      simp only [Act.put, List.setIfInBounds_toArray, List.set_cons_zero, List.set_cons_succ]
      refine take_at 9 42 (.pointer (some ⟨a, 0, none⟩)) rfl rfl (by kernel_rfl) (by kernel_rfl) (by kernel_rfl) (fun _ _ _ h => h) (Or.inl ⟨by rfl, fun w hSw => by (try dsimp only at hSw); go_simp⟩) (by assumption) ?_
      simp only [Act.put, List.setIfInBounds_toArray, List.set_cons_zero, List.set_cons_succ]
      refine take_at 10 43 (.float .f64 0) rfl rfl (by kernel_rfl) (by kernel_rfl) (by kernel_rfl) (fun _ _ _ h => h) (Or.inl ⟨by rfl, fun w hSw => by (try dsimp only at hSw); go_simp⟩) (by assumption) ?_
      simp only [Act.put, List.setIfInBounds_toArray, List.set_cons_zero, List.set_cons_succ]
      refine wpAnyH_ready (rs := [11]) (by kernel_rfl) (by simp) ?_
      refine AllReadyH.cons (o := _) rfl (fun K hK => ?_) AllReadyH.nil
      go_simp
      go_wp2_with fail
      refine hK.out _ _ (HKS.out _ HQ0) (fun hHeld1 => ?_)
      clear hK K
      try simp only [Act.put, List.setIfInBounds_toArray, List.set_cons_zero, List.set_cons_succ]
      refine take_at 12 45 (.pointer (some ⟨g, 0, none⟩)) rfl rfl (by kernel_rfl) (by kernel_rfl) (by kernel_rfl) (fun _ _ _ h => h) (Or.inl ⟨by rfl, fun w hSw => by (try dsimp only at hSw); go_simp⟩) (by assumption) ?_
      simp only [Act.put, List.setIfInBounds_toArray, List.set_cons_zero, List.set_cons_succ]
      refine wpAnyH_ready (rs := [13]) (by kernel_rfl) (by simp) ?_
      refine AllReadyH.cons (o := _) rfl (fun K hK => ?_) AllReadyH.nil
      go_simp
      go_wp2_with fail
      refine hK.out _ _ (HKS.out _ HQ1) (fun hHeld2 => ?_)
      clear hK K
      try simp only [Act.put, List.setIfInBounds_toArray, List.set_cons_zero, List.set_cons_succ]
      refine wpAnyH_done (by kernel_rfl) ?_ _
      go_wp2_with fail
      refine ⟨⟨1, 4616189618054758400, by decide, rfl, HRS.out.congr (fun j hj => by rw [if_pos (by omega)]), fun _ => rfl, HQ1.out⟩, ?_⟩
      decide
    · obtain rfl : k = 1 := by omega
      have hy := HY.out rfl
      subst hy
      have HSG : Hid (S1 wr g 4616189618054758400) := ⟨HR.out.lt, HR.out.cell (by decide)⟩
      have HB3 := hid (HB2.out.trans (HW.out.mono HB2.out.size))
      have HA3 := hid (blkM HA2.out HW.out)
      obtain ⟨x0, x1, x2, x3⟩ := rcells_of HA3.out
      have HFI := hid (FinM_any (some ⟨g, 0, none⟩) 1 1 [4616189618054758400] wr HSG.out.fl (by decide))
      rw [fin_four] at HFI
      clear hmk
      go_wp2_with fail
      refine (HFI.out).mono ?_
      rintro e w4 ⟨rfl, hb4⟩
      have HB4 := hid (HB3.out.trans (hb4.mono HB3.out.size))
      have HSG4 := hid (HSG.out.below hb4)
      obtain ⟨x0, x1, x2, x3⟩ := rcells_of (blkM HA3.out hb4)
      have HA4 := hid (blkM HA3.out hb4)
      clear hb4
      have HSB4 := hid (HBB.out.below HB4.out)
      go_wp2_with fail
      refine (cLow_one b g w4 HSB4.out HSG4.out).mono ?_
      rintro e w5 ⟨⟨g5, rfl, hs5⟩, hb5⟩
      have HB5 := hid (HB4.out.trans (hb5.mono HB4.out.size))
      have HS5 := hid hs5
      clear hb5 hs5
      go_wp2_with fail
      have HDT := Dot_tot 1 1 1 1 (some ⟨g5, 0, none⟩) (some ⟨g5, 0, none⟩) [4611686018427387904] [4611686018427387904] w5 HS5.out.fl HS5.out.fl (by decide) (by decide)
      rw [dotD_22, dotT_22] at HDT
      refine HDT.mono ?_
      rintro e w6 ⟨rfl, hb6⟩
      have HB6 := hid (HB5.out.trans (hb6.mono HB5.out.size))
      clear hb6 HDT
      go_wp2_with fail
      go_ret2
      exact ⟨rfl, HB6.out⟩
theorem s1_of {W : World} {b x : Nat} (h : W.heap[b]? = some (.cells #[.float .f64 x] 28)) : S1 W b x := ⟨(Array.getElem?_eq_some_iff.1 h).1, by unfold World.cell?; simp only []; rw [h]; rfl⟩
theorem set4 {W : World} {b : Nat} {a0 a1 a2 a3 x0 x1 x2 x3 : Value} {t : TypeId} (h : W.heap[b]? = some (.cells #[a0, a1, a2, a3] t)) : ((((W.setCell ⟨b, 0, none⟩ x0).setCell ⟨b, 1, none⟩ x1).setCell ⟨b, 2, none⟩ x2).setCell ⟨b, 3, none⟩ x3).heap[b]? = some (.cells #[x0, x1, x2, x3] t) := by
  simp [World.setCell, Array.getElem?_modify, h]
theorem canon_inv {y c d : Nat} (h : canonOf y = c) (hn : d ≠ 9221120237041090561) (hc : c = d) : y = d := by
  have h2 : canonOf y = d := h.trans hc
  unfold canonOf at h2
  by_cases q : 9218868437227405312 < y % 9223372036854775808
  · rw [if_pos q] at h2; exact absurd h2.symm hn
  · rw [if_neg q] at h2; exact h2
theorem rootE_one1 : rootE [0] 1 ((1 : Nat) : Int) ((1 : Nat) : Int) 1 [4611686018427387904] = 0 := by decide +kernel
theorem upd_one : updE (fun j => [4611686018427387904].getD j 0) [4607182418800017408] [0] 1 4607182418800017408 4617315517961601024 = 0 := by decide +kernel
theorem y_one : yU [4607182418800017408] [0] 1 4617315517961601024 = 4617315517961601024 := by decide +kernel
theorem s_one : sU (fun j => [4611686018427387904].getD j 0) [4607182418800017408] 1 4607182418800017408 0 = 4617315517961601024 := by decide +kernel
theorem x_one : xU (fun j => [4611686018427387904].getD j 0) [4607182418800017408] [0] 1 4607182418800017408 4617315517961601024 0 = 4616189618054758400 := by decide +kernel
set_option maxRecDepth 8000 in
set_option maxHeartbeats 8000000 in
/-- The chapter's first examples. -/
theorem awake16_any (w : World) : Calls Try.prog 11 #[] w fun e w' => e = .returned (.bool true) ∧ Below w.heap.size w w' := by
  obtain ⟨t1, t2, t3, t4, t5⟩ := three_b w (.cells #[.float .f64 0] 28) (.cells #[.float .f64 4611686018427387904] 28) (RBox (some ⟨w.heap.size, 0, none⟩) 1 1 1 1 (some ⟨w.heap.size + 1, 0, none⟩) 1 1)
  obtain ⟨V, hV⟩ : ∃ t, Hid (((w.alloc (.cells #[.float .f64 0] 28)).alloc (.cells #[.float .f64 4611686018427387904] 28)).alloc (RBox (some ⟨w.heap.size, 0, none⟩) 1 1 1 1 (some ⟨w.heap.size + 1, 0, none⟩) 1 1) = t) := ⟨_, rfl⟩
  rw [hV.out] at t1 t2 t3 t4 t5
  obtain ⟨a, ha⟩ : ∃ t, Hid (w.heap.size = t) := ⟨_, rfl⟩
  obtain ⟨b, hb⟩ : ∃ t, Hid (a + 1 = t) := ⟨_, rfl⟩
  obtain ⟨p, hp⟩ : ∃ t, Hid (b + 1 = t) := ⟨_, rfl⟩
  have hV0 := hV.out
  rw [ha.out] at t1 t2 t3 hV0
  rw [hb.out] at t2 t3 hV0
  rw [hp.out] at t3
  unfold RBox at hV0
  have ea := ha.out
  have eb := hb.out
  have ep := hp.out
  have HA := hid (s1_of t1)
  have HBB := hid (s1_of t2)
  have HP := hid t3
  have HB := hid t4
  obtain ⟨x0, x1, x2, x3⟩ := rcells_of t3
  clear t1 t2 t3 t4 t5
  have o1 : (FloatKind.f64.format.order 4616189618054758400 4616189618054758400 == some .eq) = true := by decide +kernel
  have o2 : (FloatKind.f64.format.order 4617315517961601024 4617315517961601024 == some .eq) = true := by decide +kernel
  have hst := fstoreM
  go_enter Try.func11, Try.ntmps11
  have alc : Below V.heap.size V (V.alloc (.cells #[.float .f64 4607182418800017408] 28)) := (Below.refl _ _).alloc (Nat.le_refl _) _
  have HSc := hid (s1_of (nblkM V (.cells #[.float .f64 4607182418800017408] 28)))
  obtain ⟨V1, hV1⟩ : ∃ t, Hid (V.alloc (.cells #[.float .f64 4607182418800017408] 28) = t) := ⟨_, rfl⟩
  obtain ⟨c, hc⟩ : ∃ t, Hid (V.heap.size = t) := ⟨_, rfl⟩
  rw [hV1.out] at alc HSc
  rw [hc.out] at HSc
  have hV1' := hV1.out
  have hc' := hc.out
  have HA1 := hid (HA.out.below alc)
  have HB1 := hid (HBB.out.below alc)
  have HP1 := hid (blkM HP.out alc)
  have HW1 := hid (HB.out.trans (alc.mono HB.out.size))
  have HUP := hid (Update_fine 1 1 1 1 1 4607182418800017408 4617315517961601024 (some ⟨a, 0, none⟩) (some ⟨b, 0, none⟩) (some ⟨c, 0, none⟩) [0] [4607182418800017408] [4611686018427387904] V1 HA1.out.fl HB1.out.fl (HSc.out.fl) (by decide) rootE_one1 (by decide) (by decide +kernel) (by decide +kernel) (by decide +kernel) (by decide) (by decide) (by decide +kernel) (by decide +kernel))
  rw [upd_one] at HUP
  clear alc
  go_wp2_with fail
  refine HUP.out.mono ?_
  rintro e w2 ⟨hU, hb2⟩
  have HW2 := hid (HW1.out.trans (hb2.mono HW1.out.size))
  have HA2 := hid (HA1.out.below hb2)
  have HB2 := hid (HB1.out.below hb2)
  have HP2 := hid (blkM HP1.out hb2)
  obtain ⟨_, gx, gl, gg, Y, A, S, xo, lo, go, rfl, _, _, _, hx1, _, _, k1, _, _, k4, k5, _⟩ | ⟨h, _⟩ := hU
  rotate_left
  · exact absurd rfl h
  have ky : Y = 4617315517961601024 := canon_inv k4 (by decide +kernel) y_one
  have kA : A = 4617315517961601024 := k5.trans s_one
  have kx : xo 0 = 4616189618054758400 := canon_inv (k1 0 (by decide)) (by decide +kernel) x_one
  obtain ⟨bx, ox, ex, hbx, hxc⟩ := fn_some hx1 (by decide)
  cases ex
  have hx0 := hxc 0 (by decide)
  rw [kx] at hx0
  have HX2 : Hid (S1 w2 gx 4616189618054758400) := ⟨hbx, hx0.1⟩
  subst ky
  subst kA
  clear hb2 hbx hxc hx0 kx k1 k4 k5 hx1
  obtain ⟨x0, x1, x2, x3⟩ := rcells_of HP2.out
  obtain ⟨z1, z2, z3, z4⟩ := two_b w2 (RBox none 0 0 0 0 none 0 0) (StBox 0 0 0 none 0 0)
  obtain ⟨VZ, hVZ⟩ : ∃ t, Hid ((w2.alloc (RBox none 0 0 0 0 none 0 0)).alloc (StBox 0 0 0 none 0 0) = t) := ⟨_, rfl⟩
  obtain ⟨q2, hq2⟩ : ∃ t, Hid (w2.heap.size = t) := ⟨_, rfl⟩
  obtain ⟨q3, hq3⟩ : ∃ t, Hid (q2 + 1 = t) := ⟨_, rfl⟩
  rw [hVZ.out] at z1 z2 z3
  rw [hq2.out] at z1 z2
  rw [hq3.out] at z2
  have hVZ' := hVZ.out
  unfold RBox StBox at hVZ'
  have hq2' := hq2.out
  have hq3' := hq3.out
  obtain ⟨c0, c1, c2, c3⟩ := rcells_of z1
  have fz1 := rfrz z1
  have hq23 : q2 ≠ q3 := by have := hq3.out; omega
  obtain ⟨VY, hVY⟩ : ∃ t, Hid (((((VZ.setCell ⟨q2, 0, none⟩ (.slice (some ⟨gx, 0, none⟩) 1 1)).setCell ⟨q2, 1, none⟩ (.int .i64 1)).setCell ⟨q2, 2, none⟩ (.int .i64 1)).setCell ⟨q2, 3, none⟩ (.slice (some ⟨gl, 0, none⟩) 1 1)) = t) := ⟨_, rfl⟩
  have y1 : VY.heap[q2]? = some (RBox (some ⟨gx, 0, none⟩) 1 1 1 1 (some ⟨gl, 0, none⟩) 1 1) := by rw [← hVY.out]; exact set4 z1
  have y2 : VY.heap[q3]? = some (StBox 0 0 0 none 0 0) := by rw [← hVY.out, set_keepM hq23.symm, set_keepM hq23.symm, set_keepM hq23.symm, set_keepM hq23.symm]; exact z2
  have y3 : Below w2.heap.size w2 VY := by rw [← hVY.out]; exact rsto_below z3 (by rw [hq2.out]; exact Nat.le_refl _) _ _ _ _
  have hVY' := hVY.out
  obtain ⟨d0, d1, d2, d3⟩ := scells_of y2
  have fz2 := sfrz y2
  obtain ⟨V3, hV3⟩ : ∃ t, Hid (((((VY.setCell ⟨q3, 0, none⟩ (.float .f64 4617315517961601024)).setCell ⟨q3, 1, none⟩ (.float .f64 4617315517961601024)).setCell ⟨q3, 2, none⟩ (.float .f64 S)).setCell ⟨q3, 3, none⟩ (.slice (some ⟨gg, 0, none⟩) 1 1)) = t) := ⟨_, rfl⟩
  have HQ3 : Hid (V3.heap[q3]? = some (StBox 4617315517961601024 4617315517961601024 S (some ⟨gg, 0, none⟩) 1 1)) := by show _ = _; rw [← hV3.out]; exact set4 y2
  have HQ2 : Hid (V3.heap[q2]? = some (RBox (some ⟨gx, 0, none⟩) 1 1 1 1 (some ⟨gl, 0, none⟩) 1 1)) := by show _ = _; rw [← hV3.out, set_keepM hq23, set_keepM hq23, set_keepM hq23, set_keepM hq23]; exact y1
  have al23 : Below w2.heap.size w2 V3 := by rw [← hV3.out]; exact ssto_below y3 (by have := hq2.out; have := hq3.out; omega) _ _ _ _
  have hV3' := hV3.out
  clear z1 z2 z3 z4 y1 y2 y3
  have ald : Below V3.heap.size V3 (V3.alloc (.cells #[.float .f64 4616189618054758400] 28)) := (Below.refl _ _).alloc (Nat.le_refl _) _
  have HSd := hid (s1_of (nblkM V3 (.cells #[.float .f64 4616189618054758400] 28)))
  obtain ⟨V4, hV4⟩ : ∃ t, Hid (V3.alloc (.cells #[.float .f64 4616189618054758400] 28) = t) := ⟨_, rfl⟩
  obtain ⟨d, hd⟩ : ∃ t, Hid (V3.heap.size = t) := ⟨_, rfl⟩
  rw [hV4.out] at ald HSd
  rw [hd.out] at HSd
  have hV4' := hV4.out
  have hd' := hd.out
  have al4 := al23.trans (ald.mono al23.size)
  have HA4 := hid (HA2.out.below al4)
  have HB4 := hid (HB2.out.below al4)
  have HP4 := hid (blkM HP2.out al4)
  have HX4 := hid (HX2.out.below al4)
  have HW4 := hid (HW2.out.trans (al4.mono HW2.out.size))
  have HQ2b := hid (blkM HQ2.out ald)
  have HQ3b := hid (blkM HQ3.out ald)
  obtain ⟨x0, x1, x2, x3⟩ := rcells_of (blkM HP2.out al23)
  clear al23 ald al4
  go_wp2_with fail
  refine (Dist_one a b d V4 HA4.out HB4.out HSd.out).mono ?_
  rintro e w5 ⟨rfl, hb5⟩
  have HW5 := hid (HW4.out.trans (hb5.mono HW4.out.size))
  have HX5 := HX4.out.below hb5
  have cx := HX5.2
  obtain ⟨x0, x1, x2, x3⟩ := rcells_of (blkM HP4.out hb5)
  obtain ⟨c0, c1, c2, c3⟩ := rcells_of (blkM HQ2b.out hb5)
  obtain ⟨d0, d1, d2, d3⟩ := scells_of (blkM HQ3b.out hb5)
  have HCK := hid (rcheck_any (some ⟨a, 0, none⟩) 1 1 [0] 1 1 (some ⟨b, 0, none⟩) 1 1 [4611686018427387904] w5 (HA4.out.below hb5).fl (by decide) (HB4.out.below hb5).fl (by decide))
  rw [rootE_one] at HCK
  unfold RV at HCK
  clear hb5 HX5
  go_wp2_with fail
  refine HCK.out.mono ?_
  rintro e w6 ⟨rfl, hb6⟩
  have HW6 := hid (HW5.out.trans (hb6.mono HW5.out.size))
  clear hb6
  go_wp2_with fail
  go_ret
  first | exact ⟨rfl, HW6.out⟩ | exact ⟨rfl, ha.out ▸ HW6.out⟩
end Go.Proofs.Ythakhmnlpmfdgaa
