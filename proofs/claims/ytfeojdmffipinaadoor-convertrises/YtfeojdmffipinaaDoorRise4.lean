
/- What the law ConvertRises answers. -/
import Derived.Test.YtfeojdmffipinaaDoorLaw2
import Derived.Test.YtfeojdmffipinaaDoorRise3
namespace Go.Proofs.YtfeojdmffipinaaDoor
open Go.RowKit Go.IntWalk

set_option maxRecDepth 4000 in
set_option maxHeartbeats 1000000 in
theorem rises_keep8 (x y PA PB CA CB SA SB : Nat) (k mode  iA iB uA uB : Int) (w : World) (hm1 : 0 ≤ mode) (hm2 : mode ≤ 4) (hT : Tab w) (hs : 1 < w.heap.size)
    (hox : (FloatKind.f64.format.order x x != some .eq) = false) (hoy : (FloatKind.f64.format.order y y != some .eq) = false) (hg : (FloatKind.f64.format.order x y == some .gt) = false)
    (hp : (FloatKind.f32.format.order PA PB == some .lt || FloatKind.f32.format.order PA PB == some .eq) = true) (hc : (FloatKind.f64.format.order CA CB == some .lt || FloatKind.f64.format.order CA CB == some .eq) = true) (hsc : (FloatKind.f64.format.order SA SB == some .lt || FloatKind.f64.format.order SA SB == some .eq) = true) (hi : iA ≤ iB) (hu : uA ≤ uB)
    
    (hNA : ∀ w, Tab w → 1 < w.heap.size → ∃ Y : Int, Calls Tryd.prog 51 #[.float .f64 x, .int .i64 mode] w fun r w' => r = .returned (.tuple #[.float .f32 PA, .int .i64 Y, .int .i64 0]) ∧ Below w.heap.size w w')
    (hWA : ∀ w, Tab w → 1 < w.heap.size → ∃ Y : Int, Calls Tryd.prog 61 #[.float .f64 x, .int .i64 mode] w fun r w' => r = .returned (.tuple #[.float .f64 CA, .int .i64 Y, .int .i64 0]) ∧ Below w.heap.size w w')
    (hSA : ∀ w, Tab w → 1 < w.heap.size → ∃ Y : Int, Calls Tryd.prog 62 #[.float .f64 x, .int .i64 k, .int .i64 mode] w fun r w' => r = .returned (.tuple #[.float .f64 SA, .int .i64 Y, .int .i64 0]) ∧ Below w.heap.size w w')
    (hIA : ∀ w, Tab w → 1 < w.heap.size → ∃ Y : Int, Calls Tryd.prog 60 #[.float .f64 x, .int .i64 8, .int .i64 mode] w fun r w' => r = .returned (.tuple #[.int .i64 iA, .int .i64 Y, .int .i64 0]) ∧ Below w.heap.size w w')
    (hUA : ∀ w, Tab w → 1 < w.heap.size → ∃ Y : Int, Calls Tryd.prog 63 #[.float .f64 x, .int .i64 8, .int .i64 mode] w fun r w' => r = .returned (.tuple #[.int .u64 uA, .int .i64 Y, .int .i64 0]) ∧ Below w.heap.size w w')
    (hNB : ∀ w, Tab w → 1 < w.heap.size → ∃ Y : Int, Calls Tryd.prog 51 #[.float .f64 y, .int .i64 mode] w fun r w' => r = .returned (.tuple #[.float .f32 PB, .int .i64 Y, .int .i64 0]) ∧ Below w.heap.size w w')
    (hWB : ∀ w, Tab w → 1 < w.heap.size → ∃ Y : Int, Calls Tryd.prog 61 #[.float .f64 y, .int .i64 mode] w fun r w' => r = .returned (.tuple #[.float .f64 CB, .int .i64 Y, .int .i64 0]) ∧ Below w.heap.size w w')
    (hSB : ∀ w, Tab w → 1 < w.heap.size → ∃ Y : Int, Calls Tryd.prog 62 #[.float .f64 y, .int .i64 k, .int .i64 mode] w fun r w' => r = .returned (.tuple #[.float .f64 SB, .int .i64 Y, .int .i64 0]) ∧ Below w.heap.size w w')
    (hIB : ∀ w, Tab w → 1 < w.heap.size → ∃ Y : Int, Calls Tryd.prog 60 #[.float .f64 y, .int .i64 8, .int .i64 mode] w fun r w' => r = .returned (.tuple #[.int .i64 iB, .int .i64 Y, .int .i64 0]) ∧ Below w.heap.size w w')
    (hUB : ∀ w, Tab w → 1 < w.heap.size → ∃ Y : Int, Calls Tryd.prog 63 #[.float .f64 y, .int .i64 8, .int .i64 mode] w fun r w' => r = .returned (.tuple #[.int .u64 uB, .int .i64 Y, .int .i64 0]) ∧ Below w.heap.size w w') :
    Calls Tryd.prog 8 #[.int .u64 x, .int .u64 y, .int .i64 k, .int .i64 8, .int .i64 mode] w fun r w' => r = .returned (.bool true) ∧ Below w.heap.size w w' := by
  have HNA := hid hNA
  have HNB := hid hNB
  have HWA := hid hWA
  have HWB := hid hWB
  have HSA := hid hSA
  have HSB := hid hSB
  have HIA := hid hIA
  have HIB := hid hIB
  have HUA := hid hUA
  have HUB := hid hUB
  clear hNA hNB hWA hWB hSA hSB hIA hIB hUA hUB
  go_enter Tryd.func8, Tryd.ntmps8
  go_wp2_with fail
  refine (awake2_any _ hT hs).mono ?_
  rintro r w1 ⟨rfl, hb⟩
  have hB0 := hid hb
  clear hb
  go_wp2_with fail
  refine (f02_any x _).mono ?_
  rintro r w2 ⟨rfl, rfl⟩
  go_wp2_with fail
  refine (f02_any y _).mono ?_
  rintro r w2 ⟨rfl, rfl⟩
  go_wp2_with fail
  refine (HNA.out _ (hT.below hs hB0.out) (Nat.lt_of_lt_of_le hs hB0.out.size)).elim fun Y0 HY => HY.mono ?_
  rintro r v0 ⟨rfl, hb⟩
  have hB1 := hid (bl_then hB0.out hb)
  clear hb
  go_wp2_with fail
  refine (HNB.out _ (hT.below hs hB1.out) (Nat.lt_of_lt_of_le hs hB1.out.size)).elim fun Y1 HY => HY.mono ?_
  rintro r v1 ⟨rfl, hb⟩
  have hB2 := hid (bl_then hB1.out hb)
  clear hb
  go_wp2_with fail
  refine (HWA.out _ (hT.below hs hB2.out) (Nat.lt_of_lt_of_le hs hB2.out.size)).elim fun Y2 HY => HY.mono ?_
  rintro r v2 ⟨rfl, hb⟩
  have hB3 := hid (bl_then hB2.out hb)
  clear hb
  go_wp2_with fail
  refine (HWB.out _ (hT.below hs hB3.out) (Nat.lt_of_lt_of_le hs hB3.out.size)).elim fun Y3 HY => HY.mono ?_
  rintro r v3 ⟨rfl, hb⟩
  have hB4 := hid (bl_then hB3.out hb)
  clear hb
  go_wp2_with fail
  refine (HSA.out _ (hT.below hs hB4.out) (Nat.lt_of_lt_of_le hs hB4.out.size)).elim fun Y4 HY => HY.mono ?_
  rintro r v4 ⟨rfl, hb⟩
  have hB5 := hid (bl_then hB4.out hb)
  clear hb
  go_wp2_with fail
  refine (HSB.out _ (hT.below hs hB5.out) (Nat.lt_of_lt_of_le hs hB5.out.size)).elim fun Y5 HY => HY.mono ?_
  rintro r v5 ⟨rfl, hb⟩
  have hB6 := hid (bl_then hB5.out hb)
  clear hb
  go_wp2_with fail
  refine (HIA.out _ (hT.below hs hB6.out) (Nat.lt_of_lt_of_le hs hB6.out.size)).elim fun Y6 HY => HY.mono ?_
  rintro r v6 ⟨rfl, hb⟩
  have hB7 := hid (bl_then hB6.out hb)
  clear hb
  go_wp2_with fail
  refine (HIB.out _ (hT.below hs hB7.out) (Nat.lt_of_lt_of_le hs hB7.out.size)).elim fun Y7 HY => HY.mono ?_
  rintro r v7 ⟨rfl, hb⟩
  have hB8 := hid (bl_then hB7.out hb)
  clear hb
  go_wp2_with fail
  refine (HUA.out _ (hT.below hs hB8.out) (Nat.lt_of_lt_of_le hs hB8.out.size)).elim fun Y8 HY => HY.mono ?_
  rintro r v8 ⟨rfl, hb⟩
  have hB9 := hid (bl_then hB8.out hb)
  clear hb
  go_wp2_with fail
  refine (HUB.out _ (hT.below hs hB9.out) (Nat.lt_of_lt_of_le hs hB9.out.size)).elim fun Y9 HY => HY.mono ?_
  rintro r v9 ⟨rfl, hb⟩
  have hB10 := hid (bl_then hB9.out hb)
  clear hb
  go_wp2
  go_ret
  exact ⟨rfl, hB10.out⟩
set_option maxRecDepth 4000 in
set_option maxHeartbeats 1000000 in
theorem rises_keep16 (x y PA PB CA CB SA SB : Nat) (k mode  iA iB uA uB : Int) (w : World) (hm1 : 0 ≤ mode) (hm2 : mode ≤ 4) (hT : Tab w) (hs : 1 < w.heap.size)
    (hox : (FloatKind.f64.format.order x x != some .eq) = false) (hoy : (FloatKind.f64.format.order y y != some .eq) = false) (hg : (FloatKind.f64.format.order x y == some .gt) = false)
    (hp : (FloatKind.f32.format.order PA PB == some .lt || FloatKind.f32.format.order PA PB == some .eq) = true) (hc : (FloatKind.f64.format.order CA CB == some .lt || FloatKind.f64.format.order CA CB == some .eq) = true) (hsc : (FloatKind.f64.format.order SA SB == some .lt || FloatKind.f64.format.order SA SB == some .eq) = true) (hi : iA ≤ iB) (hu : uA ≤ uB)
    
    (hNA : ∀ w, Tab w → 1 < w.heap.size → ∃ Y : Int, Calls Tryd.prog 51 #[.float .f64 x, .int .i64 mode] w fun r w' => r = .returned (.tuple #[.float .f32 PA, .int .i64 Y, .int .i64 0]) ∧ Below w.heap.size w w')
    (hWA : ∀ w, Tab w → 1 < w.heap.size → ∃ Y : Int, Calls Tryd.prog 61 #[.float .f64 x, .int .i64 mode] w fun r w' => r = .returned (.tuple #[.float .f64 CA, .int .i64 Y, .int .i64 0]) ∧ Below w.heap.size w w')
    (hSA : ∀ w, Tab w → 1 < w.heap.size → ∃ Y : Int, Calls Tryd.prog 62 #[.float .f64 x, .int .i64 k, .int .i64 mode] w fun r w' => r = .returned (.tuple #[.float .f64 SA, .int .i64 Y, .int .i64 0]) ∧ Below w.heap.size w w')
    (hIA : ∀ w, Tab w → 1 < w.heap.size → ∃ Y : Int, Calls Tryd.prog 60 #[.float .f64 x, .int .i64 16, .int .i64 mode] w fun r w' => r = .returned (.tuple #[.int .i64 iA, .int .i64 Y, .int .i64 0]) ∧ Below w.heap.size w w')
    (hUA : ∀ w, Tab w → 1 < w.heap.size → ∃ Y : Int, Calls Tryd.prog 63 #[.float .f64 x, .int .i64 16, .int .i64 mode] w fun r w' => r = .returned (.tuple #[.int .u64 uA, .int .i64 Y, .int .i64 0]) ∧ Below w.heap.size w w')
    (hNB : ∀ w, Tab w → 1 < w.heap.size → ∃ Y : Int, Calls Tryd.prog 51 #[.float .f64 y, .int .i64 mode] w fun r w' => r = .returned (.tuple #[.float .f32 PB, .int .i64 Y, .int .i64 0]) ∧ Below w.heap.size w w')
    (hWB : ∀ w, Tab w → 1 < w.heap.size → ∃ Y : Int, Calls Tryd.prog 61 #[.float .f64 y, .int .i64 mode] w fun r w' => r = .returned (.tuple #[.float .f64 CB, .int .i64 Y, .int .i64 0]) ∧ Below w.heap.size w w')
    (hSB : ∀ w, Tab w → 1 < w.heap.size → ∃ Y : Int, Calls Tryd.prog 62 #[.float .f64 y, .int .i64 k, .int .i64 mode] w fun r w' => r = .returned (.tuple #[.float .f64 SB, .int .i64 Y, .int .i64 0]) ∧ Below w.heap.size w w')
    (hIB : ∀ w, Tab w → 1 < w.heap.size → ∃ Y : Int, Calls Tryd.prog 60 #[.float .f64 y, .int .i64 16, .int .i64 mode] w fun r w' => r = .returned (.tuple #[.int .i64 iB, .int .i64 Y, .int .i64 0]) ∧ Below w.heap.size w w')
    (hUB : ∀ w, Tab w → 1 < w.heap.size → ∃ Y : Int, Calls Tryd.prog 63 #[.float .f64 y, .int .i64 16, .int .i64 mode] w fun r w' => r = .returned (.tuple #[.int .u64 uB, .int .i64 Y, .int .i64 0]) ∧ Below w.heap.size w w') :
    Calls Tryd.prog 8 #[.int .u64 x, .int .u64 y, .int .i64 k, .int .i64 16, .int .i64 mode] w fun r w' => r = .returned (.bool true) ∧ Below w.heap.size w w' := by
  have HNA := hid hNA
  have HNB := hid hNB
  have HWA := hid hWA
  have HWB := hid hWB
  have HSA := hid hSA
  have HSB := hid hSB
  have HIA := hid hIA
  have HIB := hid hIB
  have HUA := hid hUA
  have HUB := hid hUB
  clear hNA hNB hWA hWB hSA hSB hIA hIB hUA hUB
  go_enter Tryd.func8, Tryd.ntmps8
  go_wp2_with fail
  refine (awake2_any _ hT hs).mono ?_
  rintro r w1 ⟨rfl, hb⟩
  have hB0 := hid hb
  clear hb
  go_wp2_with fail
  refine (f02_any x _).mono ?_
  rintro r w2 ⟨rfl, rfl⟩
  go_wp2_with fail
  refine (f02_any y _).mono ?_
  rintro r w2 ⟨rfl, rfl⟩
  go_wp2_with fail
  refine (HNA.out _ (hT.below hs hB0.out) (Nat.lt_of_lt_of_le hs hB0.out.size)).elim fun Y0 HY => HY.mono ?_
  rintro r v0 ⟨rfl, hb⟩
  have hB1 := hid (bl_then hB0.out hb)
  clear hb
  go_wp2_with fail
  refine (HNB.out _ (hT.below hs hB1.out) (Nat.lt_of_lt_of_le hs hB1.out.size)).elim fun Y1 HY => HY.mono ?_
  rintro r v1 ⟨rfl, hb⟩
  have hB2 := hid (bl_then hB1.out hb)
  clear hb
  go_wp2_with fail
  refine (HWA.out _ (hT.below hs hB2.out) (Nat.lt_of_lt_of_le hs hB2.out.size)).elim fun Y2 HY => HY.mono ?_
  rintro r v2 ⟨rfl, hb⟩
  have hB3 := hid (bl_then hB2.out hb)
  clear hb
  go_wp2_with fail
  refine (HWB.out _ (hT.below hs hB3.out) (Nat.lt_of_lt_of_le hs hB3.out.size)).elim fun Y3 HY => HY.mono ?_
  rintro r v3 ⟨rfl, hb⟩
  have hB4 := hid (bl_then hB3.out hb)
  clear hb
  go_wp2_with fail
  refine (HSA.out _ (hT.below hs hB4.out) (Nat.lt_of_lt_of_le hs hB4.out.size)).elim fun Y4 HY => HY.mono ?_
  rintro r v4 ⟨rfl, hb⟩
  have hB5 := hid (bl_then hB4.out hb)
  clear hb
  go_wp2_with fail
  refine (HSB.out _ (hT.below hs hB5.out) (Nat.lt_of_lt_of_le hs hB5.out.size)).elim fun Y5 HY => HY.mono ?_
  rintro r v5 ⟨rfl, hb⟩
  have hB6 := hid (bl_then hB5.out hb)
  clear hb
  go_wp2_with fail
  refine (HIA.out _ (hT.below hs hB6.out) (Nat.lt_of_lt_of_le hs hB6.out.size)).elim fun Y6 HY => HY.mono ?_
  rintro r v6 ⟨rfl, hb⟩
  have hB7 := hid (bl_then hB6.out hb)
  clear hb
  go_wp2_with fail
  refine (HIB.out _ (hT.below hs hB7.out) (Nat.lt_of_lt_of_le hs hB7.out.size)).elim fun Y7 HY => HY.mono ?_
  rintro r v7 ⟨rfl, hb⟩
  have hB8 := hid (bl_then hB7.out hb)
  clear hb
  go_wp2_with fail
  refine (HUA.out _ (hT.below hs hB8.out) (Nat.lt_of_lt_of_le hs hB8.out.size)).elim fun Y8 HY => HY.mono ?_
  rintro r v8 ⟨rfl, hb⟩
  have hB9 := hid (bl_then hB8.out hb)
  clear hb
  go_wp2_with fail
  refine (HUB.out _ (hT.below hs hB9.out) (Nat.lt_of_lt_of_le hs hB9.out.size)).elim fun Y9 HY => HY.mono ?_
  rintro r v9 ⟨rfl, hb⟩
  have hB10 := hid (bl_then hB9.out hb)
  clear hb
  go_wp2
  go_ret
  exact ⟨rfl, hB10.out⟩
set_option maxRecDepth 4000 in
set_option maxHeartbeats 1000000 in
theorem rises_keep32 (x y PA PB CA CB SA SB : Nat) (k mode  iA iB uA uB : Int) (w : World) (hm1 : 0 ≤ mode) (hm2 : mode ≤ 4) (hT : Tab w) (hs : 1 < w.heap.size)
    (hox : (FloatKind.f64.format.order x x != some .eq) = false) (hoy : (FloatKind.f64.format.order y y != some .eq) = false) (hg : (FloatKind.f64.format.order x y == some .gt) = false)
    (hp : (FloatKind.f32.format.order PA PB == some .lt || FloatKind.f32.format.order PA PB == some .eq) = true) (hc : (FloatKind.f64.format.order CA CB == some .lt || FloatKind.f64.format.order CA CB == some .eq) = true) (hsc : (FloatKind.f64.format.order SA SB == some .lt || FloatKind.f64.format.order SA SB == some .eq) = true) (hi : iA ≤ iB) (hu : uA ≤ uB)
    
    (hNA : ∀ w, Tab w → 1 < w.heap.size → ∃ Y : Int, Calls Tryd.prog 51 #[.float .f64 x, .int .i64 mode] w fun r w' => r = .returned (.tuple #[.float .f32 PA, .int .i64 Y, .int .i64 0]) ∧ Below w.heap.size w w')
    (hWA : ∀ w, Tab w → 1 < w.heap.size → ∃ Y : Int, Calls Tryd.prog 61 #[.float .f64 x, .int .i64 mode] w fun r w' => r = .returned (.tuple #[.float .f64 CA, .int .i64 Y, .int .i64 0]) ∧ Below w.heap.size w w')
    (hSA : ∀ w, Tab w → 1 < w.heap.size → ∃ Y : Int, Calls Tryd.prog 62 #[.float .f64 x, .int .i64 k, .int .i64 mode] w fun r w' => r = .returned (.tuple #[.float .f64 SA, .int .i64 Y, .int .i64 0]) ∧ Below w.heap.size w w')
    (hIA : ∀ w, Tab w → 1 < w.heap.size → ∃ Y : Int, Calls Tryd.prog 60 #[.float .f64 x, .int .i64 32, .int .i64 mode] w fun r w' => r = .returned (.tuple #[.int .i64 iA, .int .i64 Y, .int .i64 0]) ∧ Below w.heap.size w w')
    (hUA : ∀ w, Tab w → 1 < w.heap.size → ∃ Y : Int, Calls Tryd.prog 63 #[.float .f64 x, .int .i64 32, .int .i64 mode] w fun r w' => r = .returned (.tuple #[.int .u64 uA, .int .i64 Y, .int .i64 0]) ∧ Below w.heap.size w w')
    (hNB : ∀ w, Tab w → 1 < w.heap.size → ∃ Y : Int, Calls Tryd.prog 51 #[.float .f64 y, .int .i64 mode] w fun r w' => r = .returned (.tuple #[.float .f32 PB, .int .i64 Y, .int .i64 0]) ∧ Below w.heap.size w w')
    (hWB : ∀ w, Tab w → 1 < w.heap.size → ∃ Y : Int, Calls Tryd.prog 61 #[.float .f64 y, .int .i64 mode] w fun r w' => r = .returned (.tuple #[.float .f64 CB, .int .i64 Y, .int .i64 0]) ∧ Below w.heap.size w w')
    (hSB : ∀ w, Tab w → 1 < w.heap.size → ∃ Y : Int, Calls Tryd.prog 62 #[.float .f64 y, .int .i64 k, .int .i64 mode] w fun r w' => r = .returned (.tuple #[.float .f64 SB, .int .i64 Y, .int .i64 0]) ∧ Below w.heap.size w w')
    (hIB : ∀ w, Tab w → 1 < w.heap.size → ∃ Y : Int, Calls Tryd.prog 60 #[.float .f64 y, .int .i64 32, .int .i64 mode] w fun r w' => r = .returned (.tuple #[.int .i64 iB, .int .i64 Y, .int .i64 0]) ∧ Below w.heap.size w w')
    (hUB : ∀ w, Tab w → 1 < w.heap.size → ∃ Y : Int, Calls Tryd.prog 63 #[.float .f64 y, .int .i64 32, .int .i64 mode] w fun r w' => r = .returned (.tuple #[.int .u64 uB, .int .i64 Y, .int .i64 0]) ∧ Below w.heap.size w w') :
    Calls Tryd.prog 8 #[.int .u64 x, .int .u64 y, .int .i64 k, .int .i64 32, .int .i64 mode] w fun r w' => r = .returned (.bool true) ∧ Below w.heap.size w w' := by
  have HNA := hid hNA
  have HNB := hid hNB
  have HWA := hid hWA
  have HWB := hid hWB
  have HSA := hid hSA
  have HSB := hid hSB
  have HIA := hid hIA
  have HIB := hid hIB
  have HUA := hid hUA
  have HUB := hid hUB
  clear hNA hNB hWA hWB hSA hSB hIA hIB hUA hUB
  go_enter Tryd.func8, Tryd.ntmps8
  go_wp2_with fail
  refine (awake2_any _ hT hs).mono ?_
  rintro r w1 ⟨rfl, hb⟩
  have hB0 := hid hb
  clear hb
  go_wp2_with fail
  refine (f02_any x _).mono ?_
  rintro r w2 ⟨rfl, rfl⟩
  go_wp2_with fail
  refine (f02_any y _).mono ?_
  rintro r w2 ⟨rfl, rfl⟩
  go_wp2_with fail
  refine (HNA.out _ (hT.below hs hB0.out) (Nat.lt_of_lt_of_le hs hB0.out.size)).elim fun Y0 HY => HY.mono ?_
  rintro r v0 ⟨rfl, hb⟩
  have hB1 := hid (bl_then hB0.out hb)
  clear hb
  go_wp2_with fail
  refine (HNB.out _ (hT.below hs hB1.out) (Nat.lt_of_lt_of_le hs hB1.out.size)).elim fun Y1 HY => HY.mono ?_
  rintro r v1 ⟨rfl, hb⟩
  have hB2 := hid (bl_then hB1.out hb)
  clear hb
  go_wp2_with fail
  refine (HWA.out _ (hT.below hs hB2.out) (Nat.lt_of_lt_of_le hs hB2.out.size)).elim fun Y2 HY => HY.mono ?_
  rintro r v2 ⟨rfl, hb⟩
  have hB3 := hid (bl_then hB2.out hb)
  clear hb
  go_wp2_with fail
  refine (HWB.out _ (hT.below hs hB3.out) (Nat.lt_of_lt_of_le hs hB3.out.size)).elim fun Y3 HY => HY.mono ?_
  rintro r v3 ⟨rfl, hb⟩
  have hB4 := hid (bl_then hB3.out hb)
  clear hb
  go_wp2_with fail
  refine (HSA.out _ (hT.below hs hB4.out) (Nat.lt_of_lt_of_le hs hB4.out.size)).elim fun Y4 HY => HY.mono ?_
  rintro r v4 ⟨rfl, hb⟩
  have hB5 := hid (bl_then hB4.out hb)
  clear hb
  go_wp2_with fail
  refine (HSB.out _ (hT.below hs hB5.out) (Nat.lt_of_lt_of_le hs hB5.out.size)).elim fun Y5 HY => HY.mono ?_
  rintro r v5 ⟨rfl, hb⟩
  have hB6 := hid (bl_then hB5.out hb)
  clear hb
  go_wp2_with fail
  refine (HIA.out _ (hT.below hs hB6.out) (Nat.lt_of_lt_of_le hs hB6.out.size)).elim fun Y6 HY => HY.mono ?_
  rintro r v6 ⟨rfl, hb⟩
  have hB7 := hid (bl_then hB6.out hb)
  clear hb
  go_wp2_with fail
  refine (HIB.out _ (hT.below hs hB7.out) (Nat.lt_of_lt_of_le hs hB7.out.size)).elim fun Y7 HY => HY.mono ?_
  rintro r v7 ⟨rfl, hb⟩
  have hB8 := hid (bl_then hB7.out hb)
  clear hb
  go_wp2_with fail
  refine (HUA.out _ (hT.below hs hB8.out) (Nat.lt_of_lt_of_le hs hB8.out.size)).elim fun Y8 HY => HY.mono ?_
  rintro r v8 ⟨rfl, hb⟩
  have hB9 := hid (bl_then hB8.out hb)
  clear hb
  go_wp2_with fail
  refine (HUB.out _ (hT.below hs hB9.out) (Nat.lt_of_lt_of_le hs hB9.out.size)).elim fun Y9 HY => HY.mono ?_
  rintro r v9 ⟨rfl, hb⟩
  have hB10 := hid (bl_then hB9.out hb)
  clear hb
  go_wp2
  go_ret
  exact ⟨rfl, hB10.out⟩
set_option maxRecDepth 4000 in
set_option maxHeartbeats 1000000 in
theorem rises_keep64 (x y PA PB CA CB SA SB : Nat) (k mode  iA iB uA uB : Int) (w : World) (hm1 : 0 ≤ mode) (hm2 : mode ≤ 4) (hT : Tab w) (hs : 1 < w.heap.size)
    (hox : (FloatKind.f64.format.order x x != some .eq) = false) (hoy : (FloatKind.f64.format.order y y != some .eq) = false) (hg : (FloatKind.f64.format.order x y == some .gt) = false)
    (hp : (FloatKind.f32.format.order PA PB == some .lt || FloatKind.f32.format.order PA PB == some .eq) = true) (hc : (FloatKind.f64.format.order CA CB == some .lt || FloatKind.f64.format.order CA CB == some .eq) = true) (hsc : (FloatKind.f64.format.order SA SB == some .lt || FloatKind.f64.format.order SA SB == some .eq) = true) (hi : iA ≤ iB) (hu : uA ≤ uB)
    
    (hNA : ∀ w, Tab w → 1 < w.heap.size → ∃ Y : Int, Calls Tryd.prog 51 #[.float .f64 x, .int .i64 mode] w fun r w' => r = .returned (.tuple #[.float .f32 PA, .int .i64 Y, .int .i64 0]) ∧ Below w.heap.size w w')
    (hWA : ∀ w, Tab w → 1 < w.heap.size → ∃ Y : Int, Calls Tryd.prog 61 #[.float .f64 x, .int .i64 mode] w fun r w' => r = .returned (.tuple #[.float .f64 CA, .int .i64 Y, .int .i64 0]) ∧ Below w.heap.size w w')
    (hSA : ∀ w, Tab w → 1 < w.heap.size → ∃ Y : Int, Calls Tryd.prog 62 #[.float .f64 x, .int .i64 k, .int .i64 mode] w fun r w' => r = .returned (.tuple #[.float .f64 SA, .int .i64 Y, .int .i64 0]) ∧ Below w.heap.size w w')
    (hIA : ∀ w, Tab w → 1 < w.heap.size → ∃ Y : Int, Calls Tryd.prog 60 #[.float .f64 x, .int .i64 64, .int .i64 mode] w fun r w' => r = .returned (.tuple #[.int .i64 iA, .int .i64 Y, .int .i64 0]) ∧ Below w.heap.size w w')
    (hUA : ∀ w, Tab w → 1 < w.heap.size → ∃ Y : Int, Calls Tryd.prog 63 #[.float .f64 x, .int .i64 64, .int .i64 mode] w fun r w' => r = .returned (.tuple #[.int .u64 uA, .int .i64 Y, .int .i64 0]) ∧ Below w.heap.size w w')
    (hNB : ∀ w, Tab w → 1 < w.heap.size → ∃ Y : Int, Calls Tryd.prog 51 #[.float .f64 y, .int .i64 mode] w fun r w' => r = .returned (.tuple #[.float .f32 PB, .int .i64 Y, .int .i64 0]) ∧ Below w.heap.size w w')
    (hWB : ∀ w, Tab w → 1 < w.heap.size → ∃ Y : Int, Calls Tryd.prog 61 #[.float .f64 y, .int .i64 mode] w fun r w' => r = .returned (.tuple #[.float .f64 CB, .int .i64 Y, .int .i64 0]) ∧ Below w.heap.size w w')
    (hSB : ∀ w, Tab w → 1 < w.heap.size → ∃ Y : Int, Calls Tryd.prog 62 #[.float .f64 y, .int .i64 k, .int .i64 mode] w fun r w' => r = .returned (.tuple #[.float .f64 SB, .int .i64 Y, .int .i64 0]) ∧ Below w.heap.size w w')
    (hIB : ∀ w, Tab w → 1 < w.heap.size → ∃ Y : Int, Calls Tryd.prog 60 #[.float .f64 y, .int .i64 64, .int .i64 mode] w fun r w' => r = .returned (.tuple #[.int .i64 iB, .int .i64 Y, .int .i64 0]) ∧ Below w.heap.size w w')
    (hUB : ∀ w, Tab w → 1 < w.heap.size → ∃ Y : Int, Calls Tryd.prog 63 #[.float .f64 y, .int .i64 64, .int .i64 mode] w fun r w' => r = .returned (.tuple #[.int .u64 uB, .int .i64 Y, .int .i64 0]) ∧ Below w.heap.size w w') :
    Calls Tryd.prog 8 #[.int .u64 x, .int .u64 y, .int .i64 k, .int .i64 64, .int .i64 mode] w fun r w' => r = .returned (.bool true) ∧ Below w.heap.size w w' := by
  have HNA := hid hNA
  have HNB := hid hNB
  have HWA := hid hWA
  have HWB := hid hWB
  have HSA := hid hSA
  have HSB := hid hSB
  have HIA := hid hIA
  have HIB := hid hIB
  have HUA := hid hUA
  have HUB := hid hUB
  clear hNA hNB hWA hWB hSA hSB hIA hIB hUA hUB
  go_enter Tryd.func8, Tryd.ntmps8
  go_wp2_with fail
  refine (awake2_any _ hT hs).mono ?_
  rintro r w1 ⟨rfl, hb⟩
  have hB0 := hid hb
  clear hb
  go_wp2_with fail
  refine (f02_any x _).mono ?_
  rintro r w2 ⟨rfl, rfl⟩
  go_wp2_with fail
  refine (f02_any y _).mono ?_
  rintro r w2 ⟨rfl, rfl⟩
  go_wp2_with fail
  refine (HNA.out _ (hT.below hs hB0.out) (Nat.lt_of_lt_of_le hs hB0.out.size)).elim fun Y0 HY => HY.mono ?_
  rintro r v0 ⟨rfl, hb⟩
  have hB1 := hid (bl_then hB0.out hb)
  clear hb
  go_wp2_with fail
  refine (HNB.out _ (hT.below hs hB1.out) (Nat.lt_of_lt_of_le hs hB1.out.size)).elim fun Y1 HY => HY.mono ?_
  rintro r v1 ⟨rfl, hb⟩
  have hB2 := hid (bl_then hB1.out hb)
  clear hb
  go_wp2_with fail
  refine (HWA.out _ (hT.below hs hB2.out) (Nat.lt_of_lt_of_le hs hB2.out.size)).elim fun Y2 HY => HY.mono ?_
  rintro r v2 ⟨rfl, hb⟩
  have hB3 := hid (bl_then hB2.out hb)
  clear hb
  go_wp2_with fail
  refine (HWB.out _ (hT.below hs hB3.out) (Nat.lt_of_lt_of_le hs hB3.out.size)).elim fun Y3 HY => HY.mono ?_
  rintro r v3 ⟨rfl, hb⟩
  have hB4 := hid (bl_then hB3.out hb)
  clear hb
  go_wp2_with fail
  refine (HSA.out _ (hT.below hs hB4.out) (Nat.lt_of_lt_of_le hs hB4.out.size)).elim fun Y4 HY => HY.mono ?_
  rintro r v4 ⟨rfl, hb⟩
  have hB5 := hid (bl_then hB4.out hb)
  clear hb
  go_wp2_with fail
  refine (HSB.out _ (hT.below hs hB5.out) (Nat.lt_of_lt_of_le hs hB5.out.size)).elim fun Y5 HY => HY.mono ?_
  rintro r v5 ⟨rfl, hb⟩
  have hB6 := hid (bl_then hB5.out hb)
  clear hb
  go_wp2_with fail
  refine (HIA.out _ (hT.below hs hB6.out) (Nat.lt_of_lt_of_le hs hB6.out.size)).elim fun Y6 HY => HY.mono ?_
  rintro r v6 ⟨rfl, hb⟩
  have hB7 := hid (bl_then hB6.out hb)
  clear hb
  go_wp2_with fail
  refine (HIB.out _ (hT.below hs hB7.out) (Nat.lt_of_lt_of_le hs hB7.out.size)).elim fun Y7 HY => HY.mono ?_
  rintro r v7 ⟨rfl, hb⟩
  have hB8 := hid (bl_then hB7.out hb)
  clear hb
  go_wp2_with fail
  refine (HUA.out _ (hT.below hs hB8.out) (Nat.lt_of_lt_of_le hs hB8.out.size)).elim fun Y8 HY => HY.mono ?_
  rintro r v8 ⟨rfl, hb⟩
  have hB9 := hid (bl_then hB8.out hb)
  clear hb
  go_wp2_with fail
  refine (HUB.out _ (hT.below hs hB9.out) (Nat.lt_of_lt_of_le hs hB9.out.size)).elim fun Y9 HY => HY.mono ?_
  rintro r v9 ⟨rfl, hb⟩
  have hB10 := hid (bl_then hB9.out hb)
  clear hb
  go_wp2
  go_ret
  exact ⟨rfl, hB10.out⟩
set_option maxRecDepth 4000 in
set_option maxHeartbeats 1000000 in
theorem rises_keepBad (x y PA PB CA CB SA SB : Nat) (k mode width iA iB uA uB : Int) (w : World) (hm1 : 0 ≤ mode) (hm2 : mode ≤ 4) (hT : Tab w) (hs : 1 < w.heap.size)
    (hox : (FloatKind.f64.format.order x x != some .eq) = false) (hoy : (FloatKind.f64.format.order y y != some .eq) = false) (hg : (FloatKind.f64.format.order x y == some .gt) = false)
    (hp : (FloatKind.f32.format.order PA PB == some .lt || FloatKind.f32.format.order PA PB == some .eq) = true) (hc : (FloatKind.f64.format.order CA CB == some .lt || FloatKind.f64.format.order CA CB == some .eq) = true) (hsc : (FloatKind.f64.format.order SA SB == some .lt || FloatKind.f64.format.order SA SB == some .eq) = true) (hi : iA ≤ iB) (hu : uA ≤ uB)
    (h8 : (width == 8) = false) (h16 : (width == 16) = false) (h32 : (width == 32) = false) (h64 : (width == 64) = false)
    (hNA : ∀ w, Tab w → 1 < w.heap.size → ∃ Y : Int, Calls Tryd.prog 51 #[.float .f64 x, .int .i64 mode] w fun r w' => r = .returned (.tuple #[.float .f32 PA, .int .i64 Y, .int .i64 0]) ∧ Below w.heap.size w w')
    (hWA : ∀ w, Tab w → 1 < w.heap.size → ∃ Y : Int, Calls Tryd.prog 61 #[.float .f64 x, .int .i64 mode] w fun r w' => r = .returned (.tuple #[.float .f64 CA, .int .i64 Y, .int .i64 0]) ∧ Below w.heap.size w w')
    (hSA : ∀ w, Tab w → 1 < w.heap.size → ∃ Y : Int, Calls Tryd.prog 62 #[.float .f64 x, .int .i64 k, .int .i64 mode] w fun r w' => r = .returned (.tuple #[.float .f64 SA, .int .i64 Y, .int .i64 0]) ∧ Below w.heap.size w w')
    (hIA : ∀ w, Tab w → 1 < w.heap.size → ∃ Y : Int, Calls Tryd.prog 60 #[.float .f64 x, .int .i64 width, .int .i64 mode] w fun r w' => r = .returned (.tuple #[.int .i64 iA, .int .i64 Y, .int .i64 21]) ∧ Below w.heap.size w w')
    (hUA : ∀ w, Tab w → 1 < w.heap.size → ∃ Y : Int, Calls Tryd.prog 63 #[.float .f64 x, .int .i64 width, .int .i64 mode] w fun r w' => r = .returned (.tuple #[.int .u64 uA, .int .i64 Y, .int .i64 21]) ∧ Below w.heap.size w w')
    (hNB : ∀ w, Tab w → 1 < w.heap.size → ∃ Y : Int, Calls Tryd.prog 51 #[.float .f64 y, .int .i64 mode] w fun r w' => r = .returned (.tuple #[.float .f32 PB, .int .i64 Y, .int .i64 0]) ∧ Below w.heap.size w w')
    (hWB : ∀ w, Tab w → 1 < w.heap.size → ∃ Y : Int, Calls Tryd.prog 61 #[.float .f64 y, .int .i64 mode] w fun r w' => r = .returned (.tuple #[.float .f64 CB, .int .i64 Y, .int .i64 0]) ∧ Below w.heap.size w w')
    (hSB : ∀ w, Tab w → 1 < w.heap.size → ∃ Y : Int, Calls Tryd.prog 62 #[.float .f64 y, .int .i64 k, .int .i64 mode] w fun r w' => r = .returned (.tuple #[.float .f64 SB, .int .i64 Y, .int .i64 0]) ∧ Below w.heap.size w w')
    (hIB : ∀ w, Tab w → 1 < w.heap.size → ∃ Y : Int, Calls Tryd.prog 60 #[.float .f64 y, .int .i64 width, .int .i64 mode] w fun r w' => r = .returned (.tuple #[.int .i64 iB, .int .i64 Y, .int .i64 21]) ∧ Below w.heap.size w w')
    (hUB : ∀ w, Tab w → 1 < w.heap.size → ∃ Y : Int, Calls Tryd.prog 63 #[.float .f64 y, .int .i64 width, .int .i64 mode] w fun r w' => r = .returned (.tuple #[.int .u64 uB, .int .i64 Y, .int .i64 21]) ∧ Below w.heap.size w w') :
    Calls Tryd.prog 8 #[.int .u64 x, .int .u64 y, .int .i64 k, .int .i64 width, .int .i64 mode] w fun r w' => r = .returned (.bool true) ∧ Below w.heap.size w w' := by
  have HNA := hid hNA
  have HNB := hid hNB
  have HWA := hid hWA
  have HWB := hid hWB
  have HSA := hid hSA
  have HSB := hid hSB
  have HIA := hid hIA
  have HIB := hid hIB
  have HUA := hid hUA
  have HUB := hid hUB
  clear hNA hNB hWA hWB hSA hSB hIA hIB hUA hUB
  go_enter Tryd.func8, Tryd.ntmps8
  go_wp2_with fail
  refine (awake2_any _ hT hs).mono ?_
  rintro r w1 ⟨rfl, hb⟩
  have hB0 := hid hb
  clear hb
  go_wp2_with fail
  refine (f02_any x _).mono ?_
  rintro r w2 ⟨rfl, rfl⟩
  go_wp2_with fail
  refine (f02_any y _).mono ?_
  rintro r w2 ⟨rfl, rfl⟩
  go_wp2_with fail
  refine (HNA.out _ (hT.below hs hB0.out) (Nat.lt_of_lt_of_le hs hB0.out.size)).elim fun Y0 HY => HY.mono ?_
  rintro r v0 ⟨rfl, hb⟩
  have hB1 := hid (bl_then hB0.out hb)
  clear hb
  go_wp2_with fail
  refine (HNB.out _ (hT.below hs hB1.out) (Nat.lt_of_lt_of_le hs hB1.out.size)).elim fun Y1 HY => HY.mono ?_
  rintro r v1 ⟨rfl, hb⟩
  have hB2 := hid (bl_then hB1.out hb)
  clear hb
  go_wp2_with fail
  refine (HWA.out _ (hT.below hs hB2.out) (Nat.lt_of_lt_of_le hs hB2.out.size)).elim fun Y2 HY => HY.mono ?_
  rintro r v2 ⟨rfl, hb⟩
  have hB3 := hid (bl_then hB2.out hb)
  clear hb
  go_wp2_with fail
  refine (HWB.out _ (hT.below hs hB3.out) (Nat.lt_of_lt_of_le hs hB3.out.size)).elim fun Y3 HY => HY.mono ?_
  rintro r v3 ⟨rfl, hb⟩
  have hB4 := hid (bl_then hB3.out hb)
  clear hb
  go_wp2_with fail
  refine (HSA.out _ (hT.below hs hB4.out) (Nat.lt_of_lt_of_le hs hB4.out.size)).elim fun Y4 HY => HY.mono ?_
  rintro r v4 ⟨rfl, hb⟩
  have hB5 := hid (bl_then hB4.out hb)
  clear hb
  go_wp2_with fail
  refine (HSB.out _ (hT.below hs hB5.out) (Nat.lt_of_lt_of_le hs hB5.out.size)).elim fun Y5 HY => HY.mono ?_
  rintro r v5 ⟨rfl, hb⟩
  have hB6 := hid (bl_then hB5.out hb)
  clear hb
  go_wp2_with fail
  refine (HIA.out _ (hT.below hs hB6.out) (Nat.lt_of_lt_of_le hs hB6.out.size)).elim fun Y6 HY => HY.mono ?_
  rintro r v6 ⟨rfl, hb⟩
  have hB7 := hid (bl_then hB6.out hb)
  clear hb
  go_wp2_with fail
  refine (HIB.out _ (hT.below hs hB7.out) (Nat.lt_of_lt_of_le hs hB7.out.size)).elim fun Y7 HY => HY.mono ?_
  rintro r v7 ⟨rfl, hb⟩
  have hB8 := hid (bl_then hB7.out hb)
  clear hb
  go_wp2_with fail
  refine (HUA.out _ (hT.below hs hB8.out) (Nat.lt_of_lt_of_le hs hB8.out.size)).elim fun Y8 HY => HY.mono ?_
  rintro r v8 ⟨rfl, hb⟩
  have hB9 := hid (bl_then hB8.out hb)
  clear hb
  go_wp2_with fail
  refine (HUB.out _ (hT.below hs hB9.out) (Nat.lt_of_lt_of_le hs hB9.out.size)).elim fun Y9 HY => HY.mono ?_
  rintro r v9 ⟨rfl, hb⟩
  have hB10 := hid (bl_then hB9.out hb)
  clear hb
  go_wp2
  go_ret
  exact ⟨rfl, hB10.out⟩
set_option maxRecDepth 4000 in
set_option maxHeartbeats 1000000 in
theorem rises_swap8 (x y PA PB CA CB SA SB : Nat) (k mode  iA iB uA uB : Int) (w : World) (hm1 : 0 ≤ mode) (hm2 : mode ≤ 4) (hT : Tab w) (hs : 1 < w.heap.size)
    (hox : (FloatKind.f64.format.order x x != some .eq) = false) (hoy : (FloatKind.f64.format.order y y != some .eq) = false) (hg : (FloatKind.f64.format.order x y == some .gt) = true)
    (hp : (FloatKind.f32.format.order PA PB == some .lt || FloatKind.f32.format.order PA PB == some .eq) = true) (hc : (FloatKind.f64.format.order CA CB == some .lt || FloatKind.f64.format.order CA CB == some .eq) = true) (hsc : (FloatKind.f64.format.order SA SB == some .lt || FloatKind.f64.format.order SA SB == some .eq) = true) (hi : iA ≤ iB) (hu : uA ≤ uB)
    
    (hNA : ∀ w, Tab w → 1 < w.heap.size → ∃ Y : Int, Calls Tryd.prog 51 #[.float .f64 y, .int .i64 mode] w fun r w' => r = .returned (.tuple #[.float .f32 PA, .int .i64 Y, .int .i64 0]) ∧ Below w.heap.size w w')
    (hWA : ∀ w, Tab w → 1 < w.heap.size → ∃ Y : Int, Calls Tryd.prog 61 #[.float .f64 y, .int .i64 mode] w fun r w' => r = .returned (.tuple #[.float .f64 CA, .int .i64 Y, .int .i64 0]) ∧ Below w.heap.size w w')
    (hSA : ∀ w, Tab w → 1 < w.heap.size → ∃ Y : Int, Calls Tryd.prog 62 #[.float .f64 y, .int .i64 k, .int .i64 mode] w fun r w' => r = .returned (.tuple #[.float .f64 SA, .int .i64 Y, .int .i64 0]) ∧ Below w.heap.size w w')
    (hIA : ∀ w, Tab w → 1 < w.heap.size → ∃ Y : Int, Calls Tryd.prog 60 #[.float .f64 y, .int .i64 8, .int .i64 mode] w fun r w' => r = .returned (.tuple #[.int .i64 iA, .int .i64 Y, .int .i64 0]) ∧ Below w.heap.size w w')
    (hUA : ∀ w, Tab w → 1 < w.heap.size → ∃ Y : Int, Calls Tryd.prog 63 #[.float .f64 y, .int .i64 8, .int .i64 mode] w fun r w' => r = .returned (.tuple #[.int .u64 uA, .int .i64 Y, .int .i64 0]) ∧ Below w.heap.size w w')
    (hNB : ∀ w, Tab w → 1 < w.heap.size → ∃ Y : Int, Calls Tryd.prog 51 #[.float .f64 x, .int .i64 mode] w fun r w' => r = .returned (.tuple #[.float .f32 PB, .int .i64 Y, .int .i64 0]) ∧ Below w.heap.size w w')
    (hWB : ∀ w, Tab w → 1 < w.heap.size → ∃ Y : Int, Calls Tryd.prog 61 #[.float .f64 x, .int .i64 mode] w fun r w' => r = .returned (.tuple #[.float .f64 CB, .int .i64 Y, .int .i64 0]) ∧ Below w.heap.size w w')
    (hSB : ∀ w, Tab w → 1 < w.heap.size → ∃ Y : Int, Calls Tryd.prog 62 #[.float .f64 x, .int .i64 k, .int .i64 mode] w fun r w' => r = .returned (.tuple #[.float .f64 SB, .int .i64 Y, .int .i64 0]) ∧ Below w.heap.size w w')
    (hIB : ∀ w, Tab w → 1 < w.heap.size → ∃ Y : Int, Calls Tryd.prog 60 #[.float .f64 x, .int .i64 8, .int .i64 mode] w fun r w' => r = .returned (.tuple #[.int .i64 iB, .int .i64 Y, .int .i64 0]) ∧ Below w.heap.size w w')
    (hUB : ∀ w, Tab w → 1 < w.heap.size → ∃ Y : Int, Calls Tryd.prog 63 #[.float .f64 x, .int .i64 8, .int .i64 mode] w fun r w' => r = .returned (.tuple #[.int .u64 uB, .int .i64 Y, .int .i64 0]) ∧ Below w.heap.size w w') :
    Calls Tryd.prog 8 #[.int .u64 x, .int .u64 y, .int .i64 k, .int .i64 8, .int .i64 mode] w fun r w' => r = .returned (.bool true) ∧ Below w.heap.size w w' := by
  have HNA := hid hNA
  have HNB := hid hNB
  have HWA := hid hWA
  have HWB := hid hWB
  have HSA := hid hSA
  have HSB := hid hSB
  have HIA := hid hIA
  have HIB := hid hIB
  have HUA := hid hUA
  have HUB := hid hUB
  clear hNA hNB hWA hWB hSA hSB hIA hIB hUA hUB
  go_enter Tryd.func8, Tryd.ntmps8
  go_wp2_with fail
  refine (awake2_any _ hT hs).mono ?_
  rintro r w1 ⟨rfl, hb⟩
  have hB0 := hid hb
  clear hb
  go_wp2_with fail
  refine (f02_any x _).mono ?_
  rintro r w2 ⟨rfl, rfl⟩
  go_wp2_with fail
  refine (f02_any y _).mono ?_
  rintro r w2 ⟨rfl, rfl⟩
  go_wp2_with fail
  refine (HNA.out _ (hT.below hs hB0.out) (Nat.lt_of_lt_of_le hs hB0.out.size)).elim fun Y0 HY => HY.mono ?_
  rintro r v0 ⟨rfl, hb⟩
  have hB1 := hid (bl_then hB0.out hb)
  clear hb
  go_wp2_with fail
  refine (HNB.out _ (hT.below hs hB1.out) (Nat.lt_of_lt_of_le hs hB1.out.size)).elim fun Y1 HY => HY.mono ?_
  rintro r v1 ⟨rfl, hb⟩
  have hB2 := hid (bl_then hB1.out hb)
  clear hb
  go_wp2_with fail
  refine (HWA.out _ (hT.below hs hB2.out) (Nat.lt_of_lt_of_le hs hB2.out.size)).elim fun Y2 HY => HY.mono ?_
  rintro r v2 ⟨rfl, hb⟩
  have hB3 := hid (bl_then hB2.out hb)
  clear hb
  go_wp2_with fail
  refine (HWB.out _ (hT.below hs hB3.out) (Nat.lt_of_lt_of_le hs hB3.out.size)).elim fun Y3 HY => HY.mono ?_
  rintro r v3 ⟨rfl, hb⟩
  have hB4 := hid (bl_then hB3.out hb)
  clear hb
  go_wp2_with fail
  refine (HSA.out _ (hT.below hs hB4.out) (Nat.lt_of_lt_of_le hs hB4.out.size)).elim fun Y4 HY => HY.mono ?_
  rintro r v4 ⟨rfl, hb⟩
  have hB5 := hid (bl_then hB4.out hb)
  clear hb
  go_wp2_with fail
  refine (HSB.out _ (hT.below hs hB5.out) (Nat.lt_of_lt_of_le hs hB5.out.size)).elim fun Y5 HY => HY.mono ?_
  rintro r v5 ⟨rfl, hb⟩
  have hB6 := hid (bl_then hB5.out hb)
  clear hb
  go_wp2_with fail
  refine (HIA.out _ (hT.below hs hB6.out) (Nat.lt_of_lt_of_le hs hB6.out.size)).elim fun Y6 HY => HY.mono ?_
  rintro r v6 ⟨rfl, hb⟩
  have hB7 := hid (bl_then hB6.out hb)
  clear hb
  go_wp2_with fail
  refine (HIB.out _ (hT.below hs hB7.out) (Nat.lt_of_lt_of_le hs hB7.out.size)).elim fun Y7 HY => HY.mono ?_
  rintro r v7 ⟨rfl, hb⟩
  have hB8 := hid (bl_then hB7.out hb)
  clear hb
  go_wp2_with fail
  refine (HUA.out _ (hT.below hs hB8.out) (Nat.lt_of_lt_of_le hs hB8.out.size)).elim fun Y8 HY => HY.mono ?_
  rintro r v8 ⟨rfl, hb⟩
  have hB9 := hid (bl_then hB8.out hb)
  clear hb
  go_wp2_with fail
  refine (HUB.out _ (hT.below hs hB9.out) (Nat.lt_of_lt_of_le hs hB9.out.size)).elim fun Y9 HY => HY.mono ?_
  rintro r v9 ⟨rfl, hb⟩
  have hB10 := hid (bl_then hB9.out hb)
  clear hb
  go_wp2
  go_ret
  exact ⟨rfl, hB10.out⟩
set_option maxRecDepth 4000 in
set_option maxHeartbeats 1000000 in
theorem rises_swap16 (x y PA PB CA CB SA SB : Nat) (k mode  iA iB uA uB : Int) (w : World) (hm1 : 0 ≤ mode) (hm2 : mode ≤ 4) (hT : Tab w) (hs : 1 < w.heap.size)
    (hox : (FloatKind.f64.format.order x x != some .eq) = false) (hoy : (FloatKind.f64.format.order y y != some .eq) = false) (hg : (FloatKind.f64.format.order x y == some .gt) = true)
    (hp : (FloatKind.f32.format.order PA PB == some .lt || FloatKind.f32.format.order PA PB == some .eq) = true) (hc : (FloatKind.f64.format.order CA CB == some .lt || FloatKind.f64.format.order CA CB == some .eq) = true) (hsc : (FloatKind.f64.format.order SA SB == some .lt || FloatKind.f64.format.order SA SB == some .eq) = true) (hi : iA ≤ iB) (hu : uA ≤ uB)
    
    (hNA : ∀ w, Tab w → 1 < w.heap.size → ∃ Y : Int, Calls Tryd.prog 51 #[.float .f64 y, .int .i64 mode] w fun r w' => r = .returned (.tuple #[.float .f32 PA, .int .i64 Y, .int .i64 0]) ∧ Below w.heap.size w w')
    (hWA : ∀ w, Tab w → 1 < w.heap.size → ∃ Y : Int, Calls Tryd.prog 61 #[.float .f64 y, .int .i64 mode] w fun r w' => r = .returned (.tuple #[.float .f64 CA, .int .i64 Y, .int .i64 0]) ∧ Below w.heap.size w w')
    (hSA : ∀ w, Tab w → 1 < w.heap.size → ∃ Y : Int, Calls Tryd.prog 62 #[.float .f64 y, .int .i64 k, .int .i64 mode] w fun r w' => r = .returned (.tuple #[.float .f64 SA, .int .i64 Y, .int .i64 0]) ∧ Below w.heap.size w w')
    (hIA : ∀ w, Tab w → 1 < w.heap.size → ∃ Y : Int, Calls Tryd.prog 60 #[.float .f64 y, .int .i64 16, .int .i64 mode] w fun r w' => r = .returned (.tuple #[.int .i64 iA, .int .i64 Y, .int .i64 0]) ∧ Below w.heap.size w w')
    (hUA : ∀ w, Tab w → 1 < w.heap.size → ∃ Y : Int, Calls Tryd.prog 63 #[.float .f64 y, .int .i64 16, .int .i64 mode] w fun r w' => r = .returned (.tuple #[.int .u64 uA, .int .i64 Y, .int .i64 0]) ∧ Below w.heap.size w w')
    (hNB : ∀ w, Tab w → 1 < w.heap.size → ∃ Y : Int, Calls Tryd.prog 51 #[.float .f64 x, .int .i64 mode] w fun r w' => r = .returned (.tuple #[.float .f32 PB, .int .i64 Y, .int .i64 0]) ∧ Below w.heap.size w w')
    (hWB : ∀ w, Tab w → 1 < w.heap.size → ∃ Y : Int, Calls Tryd.prog 61 #[.float .f64 x, .int .i64 mode] w fun r w' => r = .returned (.tuple #[.float .f64 CB, .int .i64 Y, .int .i64 0]) ∧ Below w.heap.size w w')
    (hSB : ∀ w, Tab w → 1 < w.heap.size → ∃ Y : Int, Calls Tryd.prog 62 #[.float .f64 x, .int .i64 k, .int .i64 mode] w fun r w' => r = .returned (.tuple #[.float .f64 SB, .int .i64 Y, .int .i64 0]) ∧ Below w.heap.size w w')
    (hIB : ∀ w, Tab w → 1 < w.heap.size → ∃ Y : Int, Calls Tryd.prog 60 #[.float .f64 x, .int .i64 16, .int .i64 mode] w fun r w' => r = .returned (.tuple #[.int .i64 iB, .int .i64 Y, .int .i64 0]) ∧ Below w.heap.size w w')
    (hUB : ∀ w, Tab w → 1 < w.heap.size → ∃ Y : Int, Calls Tryd.prog 63 #[.float .f64 x, .int .i64 16, .int .i64 mode] w fun r w' => r = .returned (.tuple #[.int .u64 uB, .int .i64 Y, .int .i64 0]) ∧ Below w.heap.size w w') :
    Calls Tryd.prog 8 #[.int .u64 x, .int .u64 y, .int .i64 k, .int .i64 16, .int .i64 mode] w fun r w' => r = .returned (.bool true) ∧ Below w.heap.size w w' := by
  have HNA := hid hNA
  have HNB := hid hNB
  have HWA := hid hWA
  have HWB := hid hWB
  have HSA := hid hSA
  have HSB := hid hSB
  have HIA := hid hIA
  have HIB := hid hIB
  have HUA := hid hUA
  have HUB := hid hUB
  clear hNA hNB hWA hWB hSA hSB hIA hIB hUA hUB
  go_enter Tryd.func8, Tryd.ntmps8
  go_wp2_with fail
  refine (awake2_any _ hT hs).mono ?_
  rintro r w1 ⟨rfl, hb⟩
  have hB0 := hid hb
  clear hb
  go_wp2_with fail
  refine (f02_any x _).mono ?_
  rintro r w2 ⟨rfl, rfl⟩
  go_wp2_with fail
  refine (f02_any y _).mono ?_
  rintro r w2 ⟨rfl, rfl⟩
  go_wp2_with fail
  refine (HNA.out _ (hT.below hs hB0.out) (Nat.lt_of_lt_of_le hs hB0.out.size)).elim fun Y0 HY => HY.mono ?_
  rintro r v0 ⟨rfl, hb⟩
  have hB1 := hid (bl_then hB0.out hb)
  clear hb
  go_wp2_with fail
  refine (HNB.out _ (hT.below hs hB1.out) (Nat.lt_of_lt_of_le hs hB1.out.size)).elim fun Y1 HY => HY.mono ?_
  rintro r v1 ⟨rfl, hb⟩
  have hB2 := hid (bl_then hB1.out hb)
  clear hb
  go_wp2_with fail
  refine (HWA.out _ (hT.below hs hB2.out) (Nat.lt_of_lt_of_le hs hB2.out.size)).elim fun Y2 HY => HY.mono ?_
  rintro r v2 ⟨rfl, hb⟩
  have hB3 := hid (bl_then hB2.out hb)
  clear hb
  go_wp2_with fail
  refine (HWB.out _ (hT.below hs hB3.out) (Nat.lt_of_lt_of_le hs hB3.out.size)).elim fun Y3 HY => HY.mono ?_
  rintro r v3 ⟨rfl, hb⟩
  have hB4 := hid (bl_then hB3.out hb)
  clear hb
  go_wp2_with fail
  refine (HSA.out _ (hT.below hs hB4.out) (Nat.lt_of_lt_of_le hs hB4.out.size)).elim fun Y4 HY => HY.mono ?_
  rintro r v4 ⟨rfl, hb⟩
  have hB5 := hid (bl_then hB4.out hb)
  clear hb
  go_wp2_with fail
  refine (HSB.out _ (hT.below hs hB5.out) (Nat.lt_of_lt_of_le hs hB5.out.size)).elim fun Y5 HY => HY.mono ?_
  rintro r v5 ⟨rfl, hb⟩
  have hB6 := hid (bl_then hB5.out hb)
  clear hb
  go_wp2_with fail
  refine (HIA.out _ (hT.below hs hB6.out) (Nat.lt_of_lt_of_le hs hB6.out.size)).elim fun Y6 HY => HY.mono ?_
  rintro r v6 ⟨rfl, hb⟩
  have hB7 := hid (bl_then hB6.out hb)
  clear hb
  go_wp2_with fail
  refine (HIB.out _ (hT.below hs hB7.out) (Nat.lt_of_lt_of_le hs hB7.out.size)).elim fun Y7 HY => HY.mono ?_
  rintro r v7 ⟨rfl, hb⟩
  have hB8 := hid (bl_then hB7.out hb)
  clear hb
  go_wp2_with fail
  refine (HUA.out _ (hT.below hs hB8.out) (Nat.lt_of_lt_of_le hs hB8.out.size)).elim fun Y8 HY => HY.mono ?_
  rintro r v8 ⟨rfl, hb⟩
  have hB9 := hid (bl_then hB8.out hb)
  clear hb
  go_wp2_with fail
  refine (HUB.out _ (hT.below hs hB9.out) (Nat.lt_of_lt_of_le hs hB9.out.size)).elim fun Y9 HY => HY.mono ?_
  rintro r v9 ⟨rfl, hb⟩
  have hB10 := hid (bl_then hB9.out hb)
  clear hb
  go_wp2
  go_ret
  exact ⟨rfl, hB10.out⟩
set_option maxRecDepth 4000 in
set_option maxHeartbeats 1000000 in
theorem rises_swap32 (x y PA PB CA CB SA SB : Nat) (k mode  iA iB uA uB : Int) (w : World) (hm1 : 0 ≤ mode) (hm2 : mode ≤ 4) (hT : Tab w) (hs : 1 < w.heap.size)
    (hox : (FloatKind.f64.format.order x x != some .eq) = false) (hoy : (FloatKind.f64.format.order y y != some .eq) = false) (hg : (FloatKind.f64.format.order x y == some .gt) = true)
    (hp : (FloatKind.f32.format.order PA PB == some .lt || FloatKind.f32.format.order PA PB == some .eq) = true) (hc : (FloatKind.f64.format.order CA CB == some .lt || FloatKind.f64.format.order CA CB == some .eq) = true) (hsc : (FloatKind.f64.format.order SA SB == some .lt || FloatKind.f64.format.order SA SB == some .eq) = true) (hi : iA ≤ iB) (hu : uA ≤ uB)
    
    (hNA : ∀ w, Tab w → 1 < w.heap.size → ∃ Y : Int, Calls Tryd.prog 51 #[.float .f64 y, .int .i64 mode] w fun r w' => r = .returned (.tuple #[.float .f32 PA, .int .i64 Y, .int .i64 0]) ∧ Below w.heap.size w w')
    (hWA : ∀ w, Tab w → 1 < w.heap.size → ∃ Y : Int, Calls Tryd.prog 61 #[.float .f64 y, .int .i64 mode] w fun r w' => r = .returned (.tuple #[.float .f64 CA, .int .i64 Y, .int .i64 0]) ∧ Below w.heap.size w w')
    (hSA : ∀ w, Tab w → 1 < w.heap.size → ∃ Y : Int, Calls Tryd.prog 62 #[.float .f64 y, .int .i64 k, .int .i64 mode] w fun r w' => r = .returned (.tuple #[.float .f64 SA, .int .i64 Y, .int .i64 0]) ∧ Below w.heap.size w w')
    (hIA : ∀ w, Tab w → 1 < w.heap.size → ∃ Y : Int, Calls Tryd.prog 60 #[.float .f64 y, .int .i64 32, .int .i64 mode] w fun r w' => r = .returned (.tuple #[.int .i64 iA, .int .i64 Y, .int .i64 0]) ∧ Below w.heap.size w w')
    (hUA : ∀ w, Tab w → 1 < w.heap.size → ∃ Y : Int, Calls Tryd.prog 63 #[.float .f64 y, .int .i64 32, .int .i64 mode] w fun r w' => r = .returned (.tuple #[.int .u64 uA, .int .i64 Y, .int .i64 0]) ∧ Below w.heap.size w w')
    (hNB : ∀ w, Tab w → 1 < w.heap.size → ∃ Y : Int, Calls Tryd.prog 51 #[.float .f64 x, .int .i64 mode] w fun r w' => r = .returned (.tuple #[.float .f32 PB, .int .i64 Y, .int .i64 0]) ∧ Below w.heap.size w w')
    (hWB : ∀ w, Tab w → 1 < w.heap.size → ∃ Y : Int, Calls Tryd.prog 61 #[.float .f64 x, .int .i64 mode] w fun r w' => r = .returned (.tuple #[.float .f64 CB, .int .i64 Y, .int .i64 0]) ∧ Below w.heap.size w w')
    (hSB : ∀ w, Tab w → 1 < w.heap.size → ∃ Y : Int, Calls Tryd.prog 62 #[.float .f64 x, .int .i64 k, .int .i64 mode] w fun r w' => r = .returned (.tuple #[.float .f64 SB, .int .i64 Y, .int .i64 0]) ∧ Below w.heap.size w w')
    (hIB : ∀ w, Tab w → 1 < w.heap.size → ∃ Y : Int, Calls Tryd.prog 60 #[.float .f64 x, .int .i64 32, .int .i64 mode] w fun r w' => r = .returned (.tuple #[.int .i64 iB, .int .i64 Y, .int .i64 0]) ∧ Below w.heap.size w w')
    (hUB : ∀ w, Tab w → 1 < w.heap.size → ∃ Y : Int, Calls Tryd.prog 63 #[.float .f64 x, .int .i64 32, .int .i64 mode] w fun r w' => r = .returned (.tuple #[.int .u64 uB, .int .i64 Y, .int .i64 0]) ∧ Below w.heap.size w w') :
    Calls Tryd.prog 8 #[.int .u64 x, .int .u64 y, .int .i64 k, .int .i64 32, .int .i64 mode] w fun r w' => r = .returned (.bool true) ∧ Below w.heap.size w w' := by
  have HNA := hid hNA
  have HNB := hid hNB
  have HWA := hid hWA
  have HWB := hid hWB
  have HSA := hid hSA
  have HSB := hid hSB
  have HIA := hid hIA
  have HIB := hid hIB
  have HUA := hid hUA
  have HUB := hid hUB
  clear hNA hNB hWA hWB hSA hSB hIA hIB hUA hUB
  go_enter Tryd.func8, Tryd.ntmps8
  go_wp2_with fail
  refine (awake2_any _ hT hs).mono ?_
  rintro r w1 ⟨rfl, hb⟩
  have hB0 := hid hb
  clear hb
  go_wp2_with fail
  refine (f02_any x _).mono ?_
  rintro r w2 ⟨rfl, rfl⟩
  go_wp2_with fail
  refine (f02_any y _).mono ?_
  rintro r w2 ⟨rfl, rfl⟩
  go_wp2_with fail
  refine (HNA.out _ (hT.below hs hB0.out) (Nat.lt_of_lt_of_le hs hB0.out.size)).elim fun Y0 HY => HY.mono ?_
  rintro r v0 ⟨rfl, hb⟩
  have hB1 := hid (bl_then hB0.out hb)
  clear hb
  go_wp2_with fail
  refine (HNB.out _ (hT.below hs hB1.out) (Nat.lt_of_lt_of_le hs hB1.out.size)).elim fun Y1 HY => HY.mono ?_
  rintro r v1 ⟨rfl, hb⟩
  have hB2 := hid (bl_then hB1.out hb)
  clear hb
  go_wp2_with fail
  refine (HWA.out _ (hT.below hs hB2.out) (Nat.lt_of_lt_of_le hs hB2.out.size)).elim fun Y2 HY => HY.mono ?_
  rintro r v2 ⟨rfl, hb⟩
  have hB3 := hid (bl_then hB2.out hb)
  clear hb
  go_wp2_with fail
  refine (HWB.out _ (hT.below hs hB3.out) (Nat.lt_of_lt_of_le hs hB3.out.size)).elim fun Y3 HY => HY.mono ?_
  rintro r v3 ⟨rfl, hb⟩
  have hB4 := hid (bl_then hB3.out hb)
  clear hb
  go_wp2_with fail
  refine (HSA.out _ (hT.below hs hB4.out) (Nat.lt_of_lt_of_le hs hB4.out.size)).elim fun Y4 HY => HY.mono ?_
  rintro r v4 ⟨rfl, hb⟩
  have hB5 := hid (bl_then hB4.out hb)
  clear hb
  go_wp2_with fail
  refine (HSB.out _ (hT.below hs hB5.out) (Nat.lt_of_lt_of_le hs hB5.out.size)).elim fun Y5 HY => HY.mono ?_
  rintro r v5 ⟨rfl, hb⟩
  have hB6 := hid (bl_then hB5.out hb)
  clear hb
  go_wp2_with fail
  refine (HIA.out _ (hT.below hs hB6.out) (Nat.lt_of_lt_of_le hs hB6.out.size)).elim fun Y6 HY => HY.mono ?_
  rintro r v6 ⟨rfl, hb⟩
  have hB7 := hid (bl_then hB6.out hb)
  clear hb
  go_wp2_with fail
  refine (HIB.out _ (hT.below hs hB7.out) (Nat.lt_of_lt_of_le hs hB7.out.size)).elim fun Y7 HY => HY.mono ?_
  rintro r v7 ⟨rfl, hb⟩
  have hB8 := hid (bl_then hB7.out hb)
  clear hb
  go_wp2_with fail
  refine (HUA.out _ (hT.below hs hB8.out) (Nat.lt_of_lt_of_le hs hB8.out.size)).elim fun Y8 HY => HY.mono ?_
  rintro r v8 ⟨rfl, hb⟩
  have hB9 := hid (bl_then hB8.out hb)
  clear hb
  go_wp2_with fail
  refine (HUB.out _ (hT.below hs hB9.out) (Nat.lt_of_lt_of_le hs hB9.out.size)).elim fun Y9 HY => HY.mono ?_
  rintro r v9 ⟨rfl, hb⟩
  have hB10 := hid (bl_then hB9.out hb)
  clear hb
  go_wp2
  go_ret
  exact ⟨rfl, hB10.out⟩
set_option maxRecDepth 4000 in
set_option maxHeartbeats 1000000 in
theorem rises_swap64 (x y PA PB CA CB SA SB : Nat) (k mode  iA iB uA uB : Int) (w : World) (hm1 : 0 ≤ mode) (hm2 : mode ≤ 4) (hT : Tab w) (hs : 1 < w.heap.size)
    (hox : (FloatKind.f64.format.order x x != some .eq) = false) (hoy : (FloatKind.f64.format.order y y != some .eq) = false) (hg : (FloatKind.f64.format.order x y == some .gt) = true)
    (hp : (FloatKind.f32.format.order PA PB == some .lt || FloatKind.f32.format.order PA PB == some .eq) = true) (hc : (FloatKind.f64.format.order CA CB == some .lt || FloatKind.f64.format.order CA CB == some .eq) = true) (hsc : (FloatKind.f64.format.order SA SB == some .lt || FloatKind.f64.format.order SA SB == some .eq) = true) (hi : iA ≤ iB) (hu : uA ≤ uB)
    
    (hNA : ∀ w, Tab w → 1 < w.heap.size → ∃ Y : Int, Calls Tryd.prog 51 #[.float .f64 y, .int .i64 mode] w fun r w' => r = .returned (.tuple #[.float .f32 PA, .int .i64 Y, .int .i64 0]) ∧ Below w.heap.size w w')
    (hWA : ∀ w, Tab w → 1 < w.heap.size → ∃ Y : Int, Calls Tryd.prog 61 #[.float .f64 y, .int .i64 mode] w fun r w' => r = .returned (.tuple #[.float .f64 CA, .int .i64 Y, .int .i64 0]) ∧ Below w.heap.size w w')
    (hSA : ∀ w, Tab w → 1 < w.heap.size → ∃ Y : Int, Calls Tryd.prog 62 #[.float .f64 y, .int .i64 k, .int .i64 mode] w fun r w' => r = .returned (.tuple #[.float .f64 SA, .int .i64 Y, .int .i64 0]) ∧ Below w.heap.size w w')
    (hIA : ∀ w, Tab w → 1 < w.heap.size → ∃ Y : Int, Calls Tryd.prog 60 #[.float .f64 y, .int .i64 64, .int .i64 mode] w fun r w' => r = .returned (.tuple #[.int .i64 iA, .int .i64 Y, .int .i64 0]) ∧ Below w.heap.size w w')
    (hUA : ∀ w, Tab w → 1 < w.heap.size → ∃ Y : Int, Calls Tryd.prog 63 #[.float .f64 y, .int .i64 64, .int .i64 mode] w fun r w' => r = .returned (.tuple #[.int .u64 uA, .int .i64 Y, .int .i64 0]) ∧ Below w.heap.size w w')
    (hNB : ∀ w, Tab w → 1 < w.heap.size → ∃ Y : Int, Calls Tryd.prog 51 #[.float .f64 x, .int .i64 mode] w fun r w' => r = .returned (.tuple #[.float .f32 PB, .int .i64 Y, .int .i64 0]) ∧ Below w.heap.size w w')
    (hWB : ∀ w, Tab w → 1 < w.heap.size → ∃ Y : Int, Calls Tryd.prog 61 #[.float .f64 x, .int .i64 mode] w fun r w' => r = .returned (.tuple #[.float .f64 CB, .int .i64 Y, .int .i64 0]) ∧ Below w.heap.size w w')
    (hSB : ∀ w, Tab w → 1 < w.heap.size → ∃ Y : Int, Calls Tryd.prog 62 #[.float .f64 x, .int .i64 k, .int .i64 mode] w fun r w' => r = .returned (.tuple #[.float .f64 SB, .int .i64 Y, .int .i64 0]) ∧ Below w.heap.size w w')
    (hIB : ∀ w, Tab w → 1 < w.heap.size → ∃ Y : Int, Calls Tryd.prog 60 #[.float .f64 x, .int .i64 64, .int .i64 mode] w fun r w' => r = .returned (.tuple #[.int .i64 iB, .int .i64 Y, .int .i64 0]) ∧ Below w.heap.size w w')
    (hUB : ∀ w, Tab w → 1 < w.heap.size → ∃ Y : Int, Calls Tryd.prog 63 #[.float .f64 x, .int .i64 64, .int .i64 mode] w fun r w' => r = .returned (.tuple #[.int .u64 uB, .int .i64 Y, .int .i64 0]) ∧ Below w.heap.size w w') :
    Calls Tryd.prog 8 #[.int .u64 x, .int .u64 y, .int .i64 k, .int .i64 64, .int .i64 mode] w fun r w' => r = .returned (.bool true) ∧ Below w.heap.size w w' := by
  have HNA := hid hNA
  have HNB := hid hNB
  have HWA := hid hWA
  have HWB := hid hWB
  have HSA := hid hSA
  have HSB := hid hSB
  have HIA := hid hIA
  have HIB := hid hIB
  have HUA := hid hUA
  have HUB := hid hUB
  clear hNA hNB hWA hWB hSA hSB hIA hIB hUA hUB
  go_enter Tryd.func8, Tryd.ntmps8
  go_wp2_with fail
  refine (awake2_any _ hT hs).mono ?_
  rintro r w1 ⟨rfl, hb⟩
  have hB0 := hid hb
  clear hb
  go_wp2_with fail
  refine (f02_any x _).mono ?_
  rintro r w2 ⟨rfl, rfl⟩
  go_wp2_with fail
  refine (f02_any y _).mono ?_
  rintro r w2 ⟨rfl, rfl⟩
  go_wp2_with fail
  refine (HNA.out _ (hT.below hs hB0.out) (Nat.lt_of_lt_of_le hs hB0.out.size)).elim fun Y0 HY => HY.mono ?_
  rintro r v0 ⟨rfl, hb⟩
  have hB1 := hid (bl_then hB0.out hb)
  clear hb
  go_wp2_with fail
  refine (HNB.out _ (hT.below hs hB1.out) (Nat.lt_of_lt_of_le hs hB1.out.size)).elim fun Y1 HY => HY.mono ?_
  rintro r v1 ⟨rfl, hb⟩
  have hB2 := hid (bl_then hB1.out hb)
  clear hb
  go_wp2_with fail
  refine (HWA.out _ (hT.below hs hB2.out) (Nat.lt_of_lt_of_le hs hB2.out.size)).elim fun Y2 HY => HY.mono ?_
  rintro r v2 ⟨rfl, hb⟩
  have hB3 := hid (bl_then hB2.out hb)
  clear hb
  go_wp2_with fail
  refine (HWB.out _ (hT.below hs hB3.out) (Nat.lt_of_lt_of_le hs hB3.out.size)).elim fun Y3 HY => HY.mono ?_
  rintro r v3 ⟨rfl, hb⟩
  have hB4 := hid (bl_then hB3.out hb)
  clear hb
  go_wp2_with fail
  refine (HSA.out _ (hT.below hs hB4.out) (Nat.lt_of_lt_of_le hs hB4.out.size)).elim fun Y4 HY => HY.mono ?_
  rintro r v4 ⟨rfl, hb⟩
  have hB5 := hid (bl_then hB4.out hb)
  clear hb
  go_wp2_with fail
  refine (HSB.out _ (hT.below hs hB5.out) (Nat.lt_of_lt_of_le hs hB5.out.size)).elim fun Y5 HY => HY.mono ?_
  rintro r v5 ⟨rfl, hb⟩
  have hB6 := hid (bl_then hB5.out hb)
  clear hb
  go_wp2_with fail
  refine (HIA.out _ (hT.below hs hB6.out) (Nat.lt_of_lt_of_le hs hB6.out.size)).elim fun Y6 HY => HY.mono ?_
  rintro r v6 ⟨rfl, hb⟩
  have hB7 := hid (bl_then hB6.out hb)
  clear hb
  go_wp2_with fail
  refine (HIB.out _ (hT.below hs hB7.out) (Nat.lt_of_lt_of_le hs hB7.out.size)).elim fun Y7 HY => HY.mono ?_
  rintro r v7 ⟨rfl, hb⟩
  have hB8 := hid (bl_then hB7.out hb)
  clear hb
  go_wp2_with fail
  refine (HUA.out _ (hT.below hs hB8.out) (Nat.lt_of_lt_of_le hs hB8.out.size)).elim fun Y8 HY => HY.mono ?_
  rintro r v8 ⟨rfl, hb⟩
  have hB9 := hid (bl_then hB8.out hb)
  clear hb
  go_wp2_with fail
  refine (HUB.out _ (hT.below hs hB9.out) (Nat.lt_of_lt_of_le hs hB9.out.size)).elim fun Y9 HY => HY.mono ?_
  rintro r v9 ⟨rfl, hb⟩
  have hB10 := hid (bl_then hB9.out hb)
  clear hb
  go_wp2
  go_ret
  exact ⟨rfl, hB10.out⟩
set_option maxRecDepth 4000 in
set_option maxHeartbeats 1000000 in
theorem rises_swapBad (x y PA PB CA CB SA SB : Nat) (k mode width iA iB uA uB : Int) (w : World) (hm1 : 0 ≤ mode) (hm2 : mode ≤ 4) (hT : Tab w) (hs : 1 < w.heap.size)
    (hox : (FloatKind.f64.format.order x x != some .eq) = false) (hoy : (FloatKind.f64.format.order y y != some .eq) = false) (hg : (FloatKind.f64.format.order x y == some .gt) = true)
    (hp : (FloatKind.f32.format.order PA PB == some .lt || FloatKind.f32.format.order PA PB == some .eq) = true) (hc : (FloatKind.f64.format.order CA CB == some .lt || FloatKind.f64.format.order CA CB == some .eq) = true) (hsc : (FloatKind.f64.format.order SA SB == some .lt || FloatKind.f64.format.order SA SB == some .eq) = true) (hi : iA ≤ iB) (hu : uA ≤ uB)
    (h8 : (width == 8) = false) (h16 : (width == 16) = false) (h32 : (width == 32) = false) (h64 : (width == 64) = false)
    (hNA : ∀ w, Tab w → 1 < w.heap.size → ∃ Y : Int, Calls Tryd.prog 51 #[.float .f64 y, .int .i64 mode] w fun r w' => r = .returned (.tuple #[.float .f32 PA, .int .i64 Y, .int .i64 0]) ∧ Below w.heap.size w w')
    (hWA : ∀ w, Tab w → 1 < w.heap.size → ∃ Y : Int, Calls Tryd.prog 61 #[.float .f64 y, .int .i64 mode] w fun r w' => r = .returned (.tuple #[.float .f64 CA, .int .i64 Y, .int .i64 0]) ∧ Below w.heap.size w w')
    (hSA : ∀ w, Tab w → 1 < w.heap.size → ∃ Y : Int, Calls Tryd.prog 62 #[.float .f64 y, .int .i64 k, .int .i64 mode] w fun r w' => r = .returned (.tuple #[.float .f64 SA, .int .i64 Y, .int .i64 0]) ∧ Below w.heap.size w w')
    (hIA : ∀ w, Tab w → 1 < w.heap.size → ∃ Y : Int, Calls Tryd.prog 60 #[.float .f64 y, .int .i64 width, .int .i64 mode] w fun r w' => r = .returned (.tuple #[.int .i64 iA, .int .i64 Y, .int .i64 21]) ∧ Below w.heap.size w w')
    (hUA : ∀ w, Tab w → 1 < w.heap.size → ∃ Y : Int, Calls Tryd.prog 63 #[.float .f64 y, .int .i64 width, .int .i64 mode] w fun r w' => r = .returned (.tuple #[.int .u64 uA, .int .i64 Y, .int .i64 21]) ∧ Below w.heap.size w w')
    (hNB : ∀ w, Tab w → 1 < w.heap.size → ∃ Y : Int, Calls Tryd.prog 51 #[.float .f64 x, .int .i64 mode] w fun r w' => r = .returned (.tuple #[.float .f32 PB, .int .i64 Y, .int .i64 0]) ∧ Below w.heap.size w w')
    (hWB : ∀ w, Tab w → 1 < w.heap.size → ∃ Y : Int, Calls Tryd.prog 61 #[.float .f64 x, .int .i64 mode] w fun r w' => r = .returned (.tuple #[.float .f64 CB, .int .i64 Y, .int .i64 0]) ∧ Below w.heap.size w w')
    (hSB : ∀ w, Tab w → 1 < w.heap.size → ∃ Y : Int, Calls Tryd.prog 62 #[.float .f64 x, .int .i64 k, .int .i64 mode] w fun r w' => r = .returned (.tuple #[.float .f64 SB, .int .i64 Y, .int .i64 0]) ∧ Below w.heap.size w w')
    (hIB : ∀ w, Tab w → 1 < w.heap.size → ∃ Y : Int, Calls Tryd.prog 60 #[.float .f64 x, .int .i64 width, .int .i64 mode] w fun r w' => r = .returned (.tuple #[.int .i64 iB, .int .i64 Y, .int .i64 21]) ∧ Below w.heap.size w w')
    (hUB : ∀ w, Tab w → 1 < w.heap.size → ∃ Y : Int, Calls Tryd.prog 63 #[.float .f64 x, .int .i64 width, .int .i64 mode] w fun r w' => r = .returned (.tuple #[.int .u64 uB, .int .i64 Y, .int .i64 21]) ∧ Below w.heap.size w w') :
    Calls Tryd.prog 8 #[.int .u64 x, .int .u64 y, .int .i64 k, .int .i64 width, .int .i64 mode] w fun r w' => r = .returned (.bool true) ∧ Below w.heap.size w w' := by
  have HNA := hid hNA
  have HNB := hid hNB
  have HWA := hid hWA
  have HWB := hid hWB
  have HSA := hid hSA
  have HSB := hid hSB
  have HIA := hid hIA
  have HIB := hid hIB
  have HUA := hid hUA
  have HUB := hid hUB
  clear hNA hNB hWA hWB hSA hSB hIA hIB hUA hUB
  go_enter Tryd.func8, Tryd.ntmps8
  go_wp2_with fail
  refine (awake2_any _ hT hs).mono ?_
  rintro r w1 ⟨rfl, hb⟩
  have hB0 := hid hb
  clear hb
  go_wp2_with fail
  refine (f02_any x _).mono ?_
  rintro r w2 ⟨rfl, rfl⟩
  go_wp2_with fail
  refine (f02_any y _).mono ?_
  rintro r w2 ⟨rfl, rfl⟩
  go_wp2_with fail
  refine (HNA.out _ (hT.below hs hB0.out) (Nat.lt_of_lt_of_le hs hB0.out.size)).elim fun Y0 HY => HY.mono ?_
  rintro r v0 ⟨rfl, hb⟩
  have hB1 := hid (bl_then hB0.out hb)
  clear hb
  go_wp2_with fail
  refine (HNB.out _ (hT.below hs hB1.out) (Nat.lt_of_lt_of_le hs hB1.out.size)).elim fun Y1 HY => HY.mono ?_
  rintro r v1 ⟨rfl, hb⟩
  have hB2 := hid (bl_then hB1.out hb)
  clear hb
  go_wp2_with fail
  refine (HWA.out _ (hT.below hs hB2.out) (Nat.lt_of_lt_of_le hs hB2.out.size)).elim fun Y2 HY => HY.mono ?_
  rintro r v2 ⟨rfl, hb⟩
  have hB3 := hid (bl_then hB2.out hb)
  clear hb
  go_wp2_with fail
  refine (HWB.out _ (hT.below hs hB3.out) (Nat.lt_of_lt_of_le hs hB3.out.size)).elim fun Y3 HY => HY.mono ?_
  rintro r v3 ⟨rfl, hb⟩
  have hB4 := hid (bl_then hB3.out hb)
  clear hb
  go_wp2_with fail
  refine (HSA.out _ (hT.below hs hB4.out) (Nat.lt_of_lt_of_le hs hB4.out.size)).elim fun Y4 HY => HY.mono ?_
  rintro r v4 ⟨rfl, hb⟩
  have hB5 := hid (bl_then hB4.out hb)
  clear hb
  go_wp2_with fail
  refine (HSB.out _ (hT.below hs hB5.out) (Nat.lt_of_lt_of_le hs hB5.out.size)).elim fun Y5 HY => HY.mono ?_
  rintro r v5 ⟨rfl, hb⟩
  have hB6 := hid (bl_then hB5.out hb)
  clear hb
  go_wp2_with fail
  refine (HIA.out _ (hT.below hs hB6.out) (Nat.lt_of_lt_of_le hs hB6.out.size)).elim fun Y6 HY => HY.mono ?_
  rintro r v6 ⟨rfl, hb⟩
  have hB7 := hid (bl_then hB6.out hb)
  clear hb
  go_wp2_with fail
  refine (HIB.out _ (hT.below hs hB7.out) (Nat.lt_of_lt_of_le hs hB7.out.size)).elim fun Y7 HY => HY.mono ?_
  rintro r v7 ⟨rfl, hb⟩
  have hB8 := hid (bl_then hB7.out hb)
  clear hb
  go_wp2_with fail
  refine (HUA.out _ (hT.below hs hB8.out) (Nat.lt_of_lt_of_le hs hB8.out.size)).elim fun Y8 HY => HY.mono ?_
  rintro r v8 ⟨rfl, hb⟩
  have hB9 := hid (bl_then hB8.out hb)
  clear hb
  go_wp2_with fail
  refine (HUB.out _ (hT.below hs hB9.out) (Nat.lt_of_lt_of_le hs hB9.out.size)).elim fun Y9 HY => HY.mono ?_
  rintro r v9 ⟨rfl, hb⟩
  have hB10 := hid (bl_then hB9.out hb)
  clear hb
  go_wp2
  go_ret
  exact ⟨rfl, hB10.out⟩
end Go.Proofs.YtfeojdmffipinaaDoor
