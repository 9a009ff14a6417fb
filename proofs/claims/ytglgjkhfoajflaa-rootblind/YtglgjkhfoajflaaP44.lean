
/- chol's Lower at chapter 16's first example. (Written by mkrth.py.) -/
import Derived.Test.YtglgjkhfoajflaaP43
namespace Go.Proofs.Ytglgjkhfoajflaa
open Go.RowKit Go.IntWalk

/-- A row of one number. -/
def S1 (W : World) (b x : Nat) : Prop := b < W.heap.size ∧ W.cell? ⟨b, 0, none⟩ = some (.float .f64 x)
theorem S1.below {W W' : World} {b x : Nat} (h : S1 W b x) (hb : Below W.heap.size W W') : S1 W' b x := ⟨Nat.lt_of_lt_of_le h.1 hb.size, (hb.cell (p := ⟨b, 0, none⟩) h.1).trans h.2⟩
theorem S1.fl2 {W : World} {b x : Nat} (h : S1 W b x) (hx : x < 18446744073709551616) : FlM W (some ⟨b, 0, none⟩) 1 1 [x] := one_fl hx h.2 h.1
theorem S1.fl {W : World} {b : Nat} {x : Nat} (h : S1 W b x) (hx : x < 18446744073709551616 := by decide) : FlM W (some ⟨b, 0, none⟩) 1 1 [x] := one_fl hx h.2 h.1
theorem chk_one : chkM 1 1 1 [4611686018427387904] = 0 := by decide +kernel
theorem low_one : lowT 1 1 1 [4611686018427387904] = true := by decide +kernel
theorem fin_four : finM [4616189618054758400] = true := by decide +kernel
theorem fin_two : finM [4611686018427387904] = true := by decide +kernel
theorem quo_42 : floatBits .quo .f64 4616189618054758400 4611686018427387904 = some 4611686018427387904 := by decide +kernel
set_option maxRecDepth 4000 in
set_option maxHeartbeats 1000000 in
theorem cat_one (b : Nat) (w : World) (h : S1 w b 4611686018427387904) : Calls Try.prog 104 #[.agg #[.int .i64 1, .int .i64 1, .slice (some ⟨b, 0, none⟩) 1 1], .int .i64 0, .int .i64 0] w fun e w' => e = .returned (.float .f64 4611686018427387904) ∧ Below w.heap.size w w' := by
  have HA0 : Hid ((w.alloc (MBox 1 1 (some ⟨b, 0, none⟩) 1 1)).heap[w.heap.size]? = some (MBox 1 1 (some ⟨b, 0, none⟩) 1 1)) := nblkM _ _
  have HB : Hid (Below w.heap.size w (w.alloc (MBox 1 1 (some ⟨b, 0, none⟩) 1 1))) := (Below.refl _ _).alloc (Nat.le_refl _) _
  obtain ⟨V, hV⟩ : ∃ V, Hid (w.alloc (MBox 1 1 (some ⟨b, 0, none⟩) 1 1) = V) := ⟨_, rfl⟩
  rw [hV.out] at HA0 HB
  have hV' := hV.out
  obtain ⟨x0, x1, x2⟩ := mcells_of HA0.out
  unfold MBox at hV'
  have hc := (HB.out.cell (p := ⟨b, 0, none⟩) h.1).trans h.2
  clear h
  go_enter Try.func104, Try.ntmps104
  go_wp2_with fail
  go_ret
  exact ⟨rfl, HB.out⟩
set_option maxRecDepth 4000 in
set_option maxHeartbeats 1000000 in
theorem csq_one (b : Nat) (w : World) (h : S1 w b 4611686018427387904) : Calls Try.prog 107 #[.agg #[.int .i64 1, .int .i64 1, .slice (some ⟨b, 0, none⟩) 1 1]] w fun e w' => e = .returned (.int .i64 0) ∧ Below w.heap.size w w' := by
  have HC := hid (fun W (hW : Below w.heap.size w W) => Check_any 1 1 (some ⟨b, 0, none⟩) 1 1 [4611686018427387904] W (h.below hW).fl (by decide))
  rw [chk_one] at HC
  have HA0 : Hid ((w.alloc (MBox 1 1 (some ⟨b, 0, none⟩) 1 1)).heap[w.heap.size]? = some (MBox 1 1 (some ⟨b, 0, none⟩) 1 1)) := nblkM _ _
  have HB : Hid (Below w.heap.size w (w.alloc (MBox 1 1 (some ⟨b, 0, none⟩) 1 1))) := (Below.refl _ _).alloc (Nat.le_refl _) _
  obtain ⟨V, hV⟩ : ∃ V, Hid (w.alloc (MBox 1 1 (some ⟨b, 0, none⟩) 1 1) = V) := ⟨_, rfl⟩
  rw [hV.out] at HA0 HB
  have hV' := hV.out
  obtain ⟨x0, x1, x2⟩ := mcells_of HA0.out
  unfold MBox at hV'
  unfold MV at HC
  clear h
  go_enter Try.func107, Try.ntmps107
  go_wp2_with fail
  refine (HC.out _ HB.out).mono ?_
  rintro e w1 ⟨rfl, hb1⟩
  have HB1 := hid (HB.out.trans (hb1.mono HB.out.size))
  obtain ⟨x0, x1, x2⟩ := mcells_of (blkM HA0.out hb1)
  have HA1 := hid (blkM HA0.out hb1)
  clear hb1
  go_wp2_with fail
  go_ret
  exact ⟨rfl, HB1.out⟩
set_option maxRecDepth 4000 in
set_option maxHeartbeats 1000000 in
theorem ctri_one (b : Nat) (w : World) (h : S1 w b 4611686018427387904) : Calls Try.prog 102 #[.agg #[.int .i64 1, .int .i64 1, .slice (some ⟨b, 0, none⟩) 1 1]] w fun e w' => e = .returned (.int .i64 0) ∧ Below w.heap.size w w' := by
  have HC := hid (fun W (hW : Below w.heap.size w W) => csq_one b W (h.below hW))
  have HT := hid (fun W (hW : Below w.heap.size w W) => cat_one b W (h.below hW))
  have HL := hid (fun W (hW : Below w.heap.size w W) => Lower_tot 1 1 (some ⟨b, 0, none⟩) 1 1 [4611686018427387904] W (h.below hW).fl (by decide))
  rw [low_one] at HL
  have o1 : (FloatKind.f64.format.order 4611686018427387904 0 == some .lt) = false := by decide +kernel
  have o2 : (FloatKind.f64.format.order 4611686018427387904 0 == some .eq) = false := by decide +kernel
  have HA0 : Hid ((w.alloc (MBox 1 1 (some ⟨b, 0, none⟩) 1 1)).heap[w.heap.size]? = some (MBox 1 1 (some ⟨b, 0, none⟩) 1 1)) := nblkM _ _
  have HB : Hid (Below w.heap.size w (w.alloc (MBox 1 1 (some ⟨b, 0, none⟩) 1 1))) := (Below.refl _ _).alloc (Nat.le_refl _) _
  obtain ⟨V, hV⟩ : ∃ V, Hid (w.alloc (MBox 1 1 (some ⟨b, 0, none⟩) 1 1) = V) := ⟨_, rfl⟩
  rw [hV.out] at HA0 HB
  have hV' := hV.out
  obtain ⟨x0, x1, x2⟩ := mcells_of HA0.out
  unfold MBox at hV'
  clear h
  go_enter Try.func102, Try.ntmps102
  go_wp2_with fail
  refine (HC.out _ HB.out).mono ?_
  rintro e w1 ⟨rfl, hb1⟩
  have HB1 := hid (HB.out.trans (hb1.mono HB.out.size))
  obtain ⟨x0, x1, x2⟩ := mcells_of (blkM HA0.out hb1)
  have HA1 := hid (blkM HA0.out hb1)
  clear hb1
  go_wp2_with fail
  refine (HL.out _ HB1.out).mono ?_
  rintro e w2 ⟨rfl, hb2⟩
  have HB2 := hid (HB1.out.trans (hb2.mono HB1.out.size))
  obtain ⟨x0, x1, x2⟩ := mcells_of (blkM HA1.out hb2)
  have HA2 := hid (blkM HA1.out hb2)
  clear hb2
  go_wp2_with fail
  go_loopw [15] (fun iv wr => ∃ k : Nat, k ≤ 1 ∧ iv = .int .i64 k ∧ Hid (Below w2.heap.size w2 wr)) (fun iv _ => 1 - (intOf iv).toNat)
  case atStart => exact ⟨0, by decide, rfl, Below.refl _ _⟩
  case round =>
    obtain ⟨k, hk, rfl, HW⟩ := hrel
    have HWB := hid (HB2.out.trans (HW.out.mono HB2.out.size))
    obtain ⟨x0, x1, x2⟩ := mcells_of (blkM HA2.out HW.out)
    by_cases hlt : k = 0
    · subst hlt
      go_wp2_with fail
      refine (HT.out _ HWB.out).mono ?_
      rintro e w3 ⟨rfl, hb⟩
      have HW2 := hid (HW.out.trans (hb.mono HW.out.size))
      clear hb
      go_wp2_with fail
      go_roundw
      case rel => exact ⟨1, by decide, rfl, HW2⟩
      case measure => decide
    · obtain rfl : k = 1 := by omega
      go_wp2_with fail
      go_ret
      exact ⟨rfl, HWB.out⟩
set_option maxRecDepth 4000 in
set_option maxHeartbeats 1000000 in
theorem cls_one (c : Nat) (w : World) (h : S1 w c 4616189618054758400) : Calls Try.prog 103 #[.slice (some ⟨c, 0, none⟩) 1 1, .int .i64 1] w fun e w' => e = .returned (.int .i64 0) ∧ Below w.heap.size w w' := by
  have HF := hid (FinM_any (some ⟨c, 0, none⟩) 1 1 [4616189618054758400] w h.fl (by decide))
  rw [fin_four] at HF
  clear h
  go_enter Try.func103, Try.ntmps103
  go_wp2_with fail
  refine HF.out.mono ?_
  rintro e w1 ⟨rfl, hb⟩
  have HB := hid hb
  clear hb
  go_wp2_with fail
  go_ret
  exact ⟨rfl, HB.out⟩
set_option maxRecDepth 4000 in
set_option maxHeartbeats 1000000 in
theorem csd_one (b c : Nat) (w : World) (h : S1 w b 4611686018427387904) (h2 : S1 w c 4616189618054758400) : Calls Try.prog 89 #[.agg #[.int .i64 1, .int .i64 1, .slice (some ⟨b, 0, none⟩) 1 1], .slice (some ⟨c, 0, none⟩) 1 1] w fun e w' => e = .returned (.int .i64 0) ∧ Below w.heap.size w w' := by
  have HC := hid (fun W (hW : Below w.heap.size w W) => ctri_one b W (h.below hW))
  have HL := hid (fun W (hW : Below w.heap.size w W) => cls_one c W (h2.below hW))
  have HA0 : Hid ((w.alloc (MBox 1 1 (some ⟨b, 0, none⟩) 1 1)).heap[w.heap.size]? = some (MBox 1 1 (some ⟨b, 0, none⟩) 1 1)) := nblkM _ _
  have HB : Hid (Below w.heap.size w (w.alloc (MBox 1 1 (some ⟨b, 0, none⟩) 1 1))) := (Below.refl _ _).alloc (Nat.le_refl _) _
  obtain ⟨V, hV⟩ : ∃ V, Hid (w.alloc (MBox 1 1 (some ⟨b, 0, none⟩) 1 1) = V) := ⟨_, rfl⟩
  rw [hV.out] at HA0 HB
  have hV' := hV.out
  obtain ⟨x0, x1, x2⟩ := mcells_of HA0.out
  unfold MBox at hV'
  clear h h2
  go_enter Try.func89, Try.ntmps89
  go_wp2_with fail
  refine (HC.out _ HB.out).mono ?_
  rintro e w1 ⟨rfl, hb1⟩
  have HB1 := hid (HB.out.trans (hb1.mono HB.out.size))
  obtain ⟨x0, x1, x2⟩ := mcells_of (blkM HA0.out hb1)
  have HA1 := hid (blkM HA0.out hb1)
  clear hb1
  go_wp2_with fail
  refine (HL.out _ HB1.out).mono ?_
  rintro e w2 ⟨rfl, hb2⟩
  have HB2 := hid (HB1.out.trans (hb2.mono HB1.out.size))
  obtain ⟨x0, x1, x2⟩ := mcells_of (blkM HA1.out hb2)
  have HA2 := hid (blkM HA1.out hb2)
  clear hb2
  go_wp2_with fail
  go_ret
  exact ⟨rfl, HB2.out⟩
set_option maxRecDepth 4000 in
set_option maxHeartbeats 1000000 in
theorem cfw_one (b c : Nat) (w : World) (h : S1 w b 4611686018427387904) (h2 : S1 w c 4616189618054758400) : Calls Try.prog 91 #[.agg #[.int .i64 1, .int .i64 1, .slice (some ⟨b, 0, none⟩) 1 1], .slice (some ⟨c, 0, none⟩) 1 1] w fun e w' => (∃ g, e = .returned (.slice (some ⟨g, 0, none⟩) 1 1) ∧ w.heap.size ≤ g ∧ S1 w' g 4611686018427387904) ∧ Below w.heap.size w w' := by
  have HT := hid (fun W (hW : Below w.heap.size w W) => cat_one b W (h.below hW))
  have r4 : ∀ W, (binOp .quo 28 (.float .f64 4616189618054758400) (.float .f64 4611686018427387904)).run Try.prog W = .ok (.float .f64 4611686018427387904) W := fun W => by have := qu_run 4616189618054758400 4611686018427387904 W; unfold quF quG at this; rw [quo_42] at this; exact this
  have hst := fstoreM
  have hmk := run_make_row' (P := Try.prog) 32 28 (.float .f64 0) 8 Try.underlying32 info_fM rfl .i64 .i64 1 (by decide) (by decide)
  rw [show ((1 : Nat) : Int) = 1 from rfl] at hmk
  have HA0 : Hid ((w.alloc (MBox 1 1 (some ⟨b, 0, none⟩) 1 1)).heap[w.heap.size]? = some (MBox 1 1 (some ⟨b, 0, none⟩) 1 1)) := nblkM _ _
  have HB : Hid (Below w.heap.size w (w.alloc (MBox 1 1 (some ⟨b, 0, none⟩) 1 1))) := (Below.refl _ _).alloc (Nat.le_refl _) _
  obtain ⟨V, hV⟩ : ∃ V, Hid (w.alloc (MBox 1 1 (some ⟨b, 0, none⟩) 1 1) = V) := ⟨_, rfl⟩
  rw [hV.out] at HA0 HB
  have hV' := hV.out
  obtain ⟨x0, x1, x2⟩ := mcells_of HA0.out
  unfold MBox at hV'
  have HH := hid h2
  have HR0 := hid (World.rowIs_made V (.float .f64 0) 1 28)
  have al : Below V.heap.size V (V.alloc (.cells (madeCells #[.float .f64 0] 1) 28)) := (Below.refl _ _).alloc (Nat.le_refl _) _
  obtain ⟨V1, hV1⟩ : ∃ t, Hid (V.alloc (.cells (madeCells #[.float .f64 0] 1) 28) = t) := ⟨_, rfl⟩
  obtain ⟨g, hg⟩ : ∃ t, Hid (V.heap.size = t) := ⟨_, rfl⟩
  rw [hV1.out] at HR0 al
  rw [hg.out] at HR0
  have hV1' := hV1.out
  have hg' := hg.out
  have HAL := hid al
  have hc := ((HB.out.trans (al.mono HB.out.size)).cell (p := ⟨c, 0, none⟩) HH.out.1).trans HH.out.2
  have HGB : Hid (w.heap.size ≤ g) := by show _ ≤ _; rw [← hg.out]; exact HB.out.size
  clear h h2 al
  go_enter Try.func91, Try.ntmps91
  go_wp2_with fail
  go_loopw [14] (fun iv wr => ∃ (k y : Nat), k ≤ 1 ∧ iv = .int .i64 k ∧ Hid (wr.rowIs g 28 1 (fun _ => .float .f64 y)) ∧ Hid (k = 1 → y = 4611686018427387904) ∧ Hid (Below V.heap.size V wr)) (fun iv _ => 1 - (intOf iv).toNat)
  case atStart => exact ⟨0, 0, by decide, rfl, HR0, fun h => absurd h (by decide), HAL.out⟩
  case round =>
    obtain ⟨k, y, hk, rfl, HR, HY, HW⟩ := hrel
    have HWB := hid (HB.out.trans (HW.out.mono HB.out.size))
    obtain ⟨x0, x1, x2⟩ := mcells_of (blkM HA0.out HW.out)
    have hc := (HWB.out.cell (p := ⟨c, 0, none⟩) HH.out.1).trans HH.out.2
    by_cases hlt : k = 0
    · subst hlt
      go_wp2_with fail
      go_loopw [7, 22] (fun t iv ww => t = .float .f64 4616189618054758400 ∧ iv = .int .i64 0 ∧ ww = wr) (fun _ _ _ => 0)
      case atStart => exact ⟨rfl, rfl, rfl⟩
      case round =>
        obtain ⟨rfl, rfl, rfl⟩ := hrel
        go_wp2_with fail
        refine (HT.out _ HWB.out).mono ?_
        rintro e w3 ⟨rfl, hb⟩
        have HR3 := hid (HR.out.of_block (hb.block _ HR.out.lt))
        have HW3 := hid (HW.out.trans (hb.mono HW.out.size))
        have c1 := HR3.out.cell (i := 0) (by decide)
        have f1 := HR3.out.frozen 0
        have HR4 := hid (HR3.out.set 0 (.float .f64 4611686018427387904))
        have HW4 := hid (HW3.out.setCell (p := ⟨g, 0, none⟩) (by rw [← hg.out]; exact Nat.le_refl _) (.float .f64 4611686018427387904))
        clear hb
        go_wp2_with fail
        refine ⟨⟨1, 4611686018427387904, by decide, rfl, HR4.out.congr (fun j hj => by rw [if_pos (by omega)]), fun _ => rfl, HW4.out⟩, ?_⟩
        decide
    · obtain rfl : k = 1 := by omega
      have hy := HY.out rfl
      subst hy
      go_wp2_with fail
      go_ret
      exact ⟨⟨g, rfl, HGB.out, HR.out.lt, HR.out.cell (by decide)⟩, HWB.out⟩
set_option maxRecDepth 4000 in
set_option maxHeartbeats 1000000 in
theorem can_one (c : Nat) (w : World) (h : S1 w c 4611686018427387904) : Calls Try.prog 90 #[.slice (some ⟨c, 0, none⟩) 1 1] w fun e w' => e = .returned (.tuple #[.slice (some ⟨c, 0, none⟩) 1 1, .int .i64 0]) ∧ Below w.heap.size w w' := by
  have HF := hid (FinM_any (some ⟨c, 0, none⟩) 1 1 [4611686018427387904] w h.fl (by decide))
  rw [fin_two] at HF
  clear h
  go_enter Try.func90, Try.ntmps90
  go_wp2_with fail
  refine HF.out.mono ?_
  rintro e w1 ⟨rfl, hb⟩
  have HB := hid hb
  clear hb
  go_wp2_with fail
  go_ret2
  exact ⟨rfl, HB.out⟩
set_option maxRecDepth 4000 in
set_option maxHeartbeats 1000000 in
theorem cLow_one (b c : Nat) (w : World) (h : S1 w b 4611686018427387904) (h2 : S1 w c 4616189618054758400) : Calls Try.prog 64 #[.agg #[.int .i64 1, .int .i64 1, .slice (some ⟨b, 0, none⟩) 1 1], .slice (some ⟨c, 0, none⟩) 1 1] w fun e w' => (∃ g, e = .returned (.tuple #[.slice (some ⟨g, 0, none⟩) 1 1, .int .i64 0]) ∧ S1 w' g 4611686018427387904) ∧ Below w.heap.size w w' := by
  have HC := hid (fun W (hW : Below w.heap.size w W) => csd_one b c W (h.below hW) (h2.below hW))
  have HL := hid (fun W (hW : Below w.heap.size w W) => cfw_one b c W (h.below hW) (h2.below hW))
  have HA0 : Hid ((w.alloc (MBox 1 1 (some ⟨b, 0, none⟩) 1 1)).heap[w.heap.size]? = some (MBox 1 1 (some ⟨b, 0, none⟩) 1 1)) := nblkM _ _
  have HB : Hid (Below w.heap.size w (w.alloc (MBox 1 1 (some ⟨b, 0, none⟩) 1 1))) := (Below.refl _ _).alloc (Nat.le_refl _) _
  obtain ⟨V, hV⟩ : ∃ V, Hid (w.alloc (MBox 1 1 (some ⟨b, 0, none⟩) 1 1) = V) := ⟨_, rfl⟩
  rw [hV.out] at HA0 HB
  have hV' := hV.out
  obtain ⟨x0, x1, x2⟩ := mcells_of HA0.out
  unfold MBox at hV'
  clear h h2
  go_enter Try.func64, Try.ntmps64
  go_wp2_with fail
  refine (HC.out _ HB.out).mono ?_
  rintro e w1 ⟨rfl, hb1⟩
  have HB1 := hid (HB.out.trans (hb1.mono HB.out.size))
  obtain ⟨x0, x1, x2⟩ := mcells_of (blkM HA0.out hb1)
  have HA1 := hid (blkM HA0.out hb1)
  clear hb1
  go_wp2_with fail
  refine (HL.out _ HB1.out).mono ?_
  rintro e w2 ⟨⟨g, rfl, hg, hs⟩, hb2⟩
  have HB2 := hid (HB1.out.trans (hb2.mono HB1.out.size))
  obtain ⟨x0, x1, x2⟩ := mcells_of (blkM HA1.out hb2)
  have HA2 := hid (blkM HA1.out hb2)
  have HS := hid hs
  clear hb2 hs hg
  go_wp2_with fail
  refine (can_one g w2 HS.out).mono ?_
  rintro e w3 ⟨rfl, hb⟩
  have HB3 := hid (HB2.out.trans (hb.mono HB2.out.size))
  have HS3 := hid (HS.out.below hb)
  clear hb
  go_wp2_with fail
  go_ret2
  exact ⟨⟨g, rfl, HS3.out⟩, HB3.out⟩
end Go.Proofs.Ytglgjkhfoajflaa
