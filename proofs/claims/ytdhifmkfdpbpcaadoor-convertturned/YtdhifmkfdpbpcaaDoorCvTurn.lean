
/- What the law ConvertTurned answers. -/
import Derived.Test.YtdhifmkfdpbpcaaDoorLaw2
import Derived.Test.YtdhifmkfdpbpcaaDoorCvAddP
namespace Go.Proofs.YtdhifmkfdpbpcaaDoor
open Go.RowKit Go.IntWalk

set_option maxRecDepth 4000 in
set_option maxHeartbeats 1000000 in
theorem turned_mir (x y z N N' M M' D D' A A' : Nat) (mode other k1 k2 k3 k4 : Int) (w : World) (hx : x < 18446744073709551616) (hy : y < 4294967296) (hz : z < 4294967296) (hm1 : 0 ≤ mode) (hm2 : mode ≤ 4) (hT : Tab w) (hs : 1 < w.heap.size) (htm : turnM mode = other)
    (hN1 : ∀ w, Tab w → 1 < w.heap.size → Calls Tryd.prog 8 #[.float .f64 x, .int .i64 mode] w fun e w' => e = .returned (.tuple #[.float .f32 N, .int .i64 k1, .int .i64 0]) ∧ Below w.heap.size w w')
    (hN2 : ∀ w, Tab w → 1 < w.heap.size → Calls Tryd.prog 8 #[.float .f64 (flipOf x), .int .i64 other] w fun e w' => e = .returned (.tuple #[.float .f32 N', .int .i64 k1, .int .i64 0]) ∧ Below w.heap.size w w')
    (hM1 : ∀ w, Tab w → 1 < w.heap.size → Calls Tryd.prog 11 #[.float .f32 y, .float .f32 z, .int .i64 mode] w fun e w' => e = .returned (.tuple #[.float .f32 M, .int .i64 k2, .int .i64 0]) ∧ Below w.heap.size w w')
    (hM2 : ∀ w, Tab w → 1 < w.heap.size → Calls Tryd.prog 11 #[.float .f32 (flip32 y), .float .f32 z, .int .i64 other] w fun e w' => e = .returned (.tuple #[.float .f32 M', .int .i64 k2, .int .i64 0]) ∧ Below w.heap.size w w')
    (hD1 : ∀ w, Tab w → 1 < w.heap.size → Calls Tryd.prog 13 #[.float .f32 y, .float .f32 z, .int .i64 mode] w fun e w' => e = .returned (.tuple #[.float .f32 D, .int .i64 k3, .int .i64 0]) ∧ Below w.heap.size w w')
    (hD2 : ∀ w, Tab w → 1 < w.heap.size → Calls Tryd.prog 13 #[.float .f32 y, .float .f32 (flip32 z), .int .i64 other] w fun e w' => e = .returned (.tuple #[.float .f32 D', .int .i64 k3, .int .i64 0]) ∧ Below w.heap.size w w')
    (hA1 : ∀ w, Tab w → 1 < w.heap.size → Calls Tryd.prog 14 #[.float .f32 y, .float .f32 z, .int .i64 mode] w fun e w' => e = .returned (.tuple #[.float .f32 A, .int .i64 k4, .int .i64 0]) ∧ Below w.heap.size w w')
    (hA2 : ∀ w, Tab w → 1 < w.heap.size → Calls Tryd.prog 14 #[.float .f32 (flip32 y), .float .f32 (flip32 z), .int .i64 other] w fun e w' => e = .returned (.tuple #[.float .f32 A', .int .i64 k4, .int .i64 0]) ∧ Below w.heap.size w w')
    (hMN : ∀ w, Calls Tryd.prog 10 #[.float .f32 N, .float .f32 N'] w fun r w' => r = .returned (.bool true) ∧ w' = w)
    (hMM : ∀ w, Calls Tryd.prog 10 #[.float .f32 M, .float .f32 M'] w fun r w' => r = .returned (.bool true) ∧ w' = w)
    (hMD : ∀ w, Calls Tryd.prog 10 #[.float .f32 D, .float .f32 D'] w fun r w' => r = .returned (.bool true) ∧ w' = w)
    (hMA : ∀ w, Calls Tryd.prog 10 #[.float .f32 A, .float .f32 A'] w fun r w' => r = .returned (.bool true) ∧ w' = w) :
    Calls Tryd.prog 3 #[.int .u64 x, .int .u32 y, .int .u32 z, .int .i64 mode] w fun r w' => r = .returned (.bool true) ∧ Below w.heap.size w w' := by
  have hTM := hid htm
  have HN1 := hid hN1
  have HN2 := hid hN2
  have HM1 := hid hM1
  have HM2 := hid hM2
  have HD1 := hid hD1
  have HD2 := hid hD2
  have HA1 := hid hA1
  have HA2 := hid hA2
  have HMN := hid hMN
  have HMM := hid hMM
  have HMD := hid hMD
  have HMA := hid hMA
  have g1 := neg64_run x hx
  have g2 := neg32_run y hy
  have g3 := neg32_run z hz
  clear hx hy hz htm hMA hN1 hN2 hM1 hM2 hD1 hD2 hA1 hA2 hMN hMM hMD
  go_enter Tryd.func3, Tryd.ntmps3
  go_wp2_with fail
  refine (awake2_any _ hT hs).mono ?_
  rintro r w1 ⟨rfl, hb⟩
  have hB0 := hid hb
  clear hb
  go_wp2_with fail
  refine (turned_any mode _).mono ?_
  rintro r w2 ⟨rfl, rfl⟩
  rw [hTM.out]
  go_wp2_with fail
  refine (f02_any x _).mono ?_
  rintro r v101 ⟨rfl, rfl⟩
  go_wp2_with fail
  refine (HN1.out _ (hT.below hs hB0.out) (Nat.lt_of_lt_of_le hs hB0.out.size)).mono ?_
  rintro r u1 ⟨rfl, hb⟩
  have hB1 := hid (bl_then hB0.out hb)
  clear hb
  go_wp2_with fail
  refine (f02_any x _).mono ?_
  rintro r v102 ⟨rfl, rfl⟩
  go_wp2_with fail
  refine (HN2.out _ (hT.below hs hB1.out) (Nat.lt_of_lt_of_le hs hB1.out.size)).mono ?_
  rintro r u2 ⟨rfl, hb⟩
  have hB2 := hid (bl_then hB1.out hb)
  clear hb
  go_wp2_with fail
  refine (HMN.out _).mono ?_
  rintro r v103 ⟨rfl, rfl⟩
  go_wp2_with fail
  refine (g02_any y _).mono ?_
  rintro r v104 ⟨rfl, rfl⟩
  go_wp2_with fail
  refine (g02_any z _).mono ?_
  rintro r v105 ⟨rfl, rfl⟩
  go_wp2_with fail
  refine (HM1.out _ (hT.below hs hB2.out) (Nat.lt_of_lt_of_le hs hB2.out.size)).mono ?_
  rintro r u3 ⟨rfl, hb⟩
  have hB3 := hid (bl_then hB2.out hb)
  clear hb
  go_wp2_with fail
  refine (g02_any y _).mono ?_
  rintro r v106 ⟨rfl, rfl⟩
  go_wp2_with fail
  refine (g02_any z _).mono ?_
  rintro r v107 ⟨rfl, rfl⟩
  go_wp2_with fail
  refine (HM2.out _ (hT.below hs hB3.out) (Nat.lt_of_lt_of_le hs hB3.out.size)).mono ?_
  rintro r u4 ⟨rfl, hb⟩
  have hB4 := hid (bl_then hB3.out hb)
  clear hb
  go_wp2_with fail
  refine (HMM.out _).mono ?_
  rintro r v108 ⟨rfl, rfl⟩
  go_wp2_with fail
  refine (g02_any y _).mono ?_
  rintro r v109 ⟨rfl, rfl⟩
  go_wp2_with fail
  refine (g02_any z _).mono ?_
  rintro r v110 ⟨rfl, rfl⟩
  go_wp2_with fail
  refine (HD1.out _ (hT.below hs hB4.out) (Nat.lt_of_lt_of_le hs hB4.out.size)).mono ?_
  rintro r u5 ⟨rfl, hb⟩
  have hB5 := hid (bl_then hB4.out hb)
  clear hb
  go_wp2_with fail
  refine (g02_any y _).mono ?_
  rintro r v111 ⟨rfl, rfl⟩
  go_wp2_with fail
  refine (g02_any z _).mono ?_
  rintro r v112 ⟨rfl, rfl⟩
  go_wp2_with fail
  refine (HD2.out _ (hT.below hs hB5.out) (Nat.lt_of_lt_of_le hs hB5.out.size)).mono ?_
  rintro r u6 ⟨rfl, hb⟩
  have hB6 := hid (bl_then hB5.out hb)
  clear hb
  go_wp2_with fail
  refine (HMD.out _).mono ?_
  rintro r v113 ⟨rfl, rfl⟩
  go_wp2_with fail
  refine (g02_any y _).mono ?_
  rintro r v114 ⟨rfl, rfl⟩
  go_wp2_with fail
  refine (g02_any z _).mono ?_
  rintro r v115 ⟨rfl, rfl⟩
  go_wp2_with fail
  refine (HA1.out _ (hT.below hs hB6.out) (Nat.lt_of_lt_of_le hs hB6.out.size)).mono ?_
  rintro r u7 ⟨rfl, hb⟩
  have hB7 := hid (bl_then hB6.out hb)
  clear hb
  go_wp2_with fail
  refine (g02_any y _).mono ?_
  rintro r v116 ⟨rfl, rfl⟩
  go_wp2_with fail
  refine (g02_any z _).mono ?_
  rintro r v117 ⟨rfl, rfl⟩
  go_wp2_with fail
  refine (HA2.out _ (hT.below hs hB7.out) (Nat.lt_of_lt_of_le hs hB7.out.size)).mono ?_
  rintro r u8 ⟨rfl, hb⟩
  have hB8 := hid (bl_then hB7.out hb)
  clear hb
  go_wp2_with fail
  refine (HMA.out _).mono ?_
  rintro r v118 ⟨rfl, rfl⟩
  go_wp2
  go_ret
  exact ⟨rfl, hB8.out⟩
set_option maxRecDepth 4000 in
set_option maxHeartbeats 1000000 in
theorem turned_zer (bm : Bool) (x y z N N' M M' D D' A A' : Nat) (mode other k1 k2 k3 k4 : Int) (w : World) (hx : x < 18446744073709551616) (hy : y < 4294967296) (hz : z < 4294967296) (hm1 : 0 ≤ mode) (hm2 : mode ≤ 4) (hT : Tab w) (hs : 1 < w.heap.size) (htm : turnM mode = other)
    (hN1 : ∀ w, Tab w → 1 < w.heap.size → Calls Tryd.prog 8 #[.float .f64 x, .int .i64 mode] w fun e w' => e = .returned (.tuple #[.float .f32 N, .int .i64 k1, .int .i64 0]) ∧ Below w.heap.size w w')
    (hN2 : ∀ w, Tab w → 1 < w.heap.size → Calls Tryd.prog 8 #[.float .f64 (flipOf x), .int .i64 other] w fun e w' => e = .returned (.tuple #[.float .f32 N', .int .i64 k1, .int .i64 0]) ∧ Below w.heap.size w w')
    (hM1 : ∀ w, Tab w → 1 < w.heap.size → Calls Tryd.prog 11 #[.float .f32 y, .float .f32 z, .int .i64 mode] w fun e w' => e = .returned (.tuple #[.float .f32 M, .int .i64 k2, .int .i64 0]) ∧ Below w.heap.size w w')
    (hM2 : ∀ w, Tab w → 1 < w.heap.size → Calls Tryd.prog 11 #[.float .f32 (flip32 y), .float .f32 z, .int .i64 other] w fun e w' => e = .returned (.tuple #[.float .f32 M', .int .i64 k2, .int .i64 0]) ∧ Below w.heap.size w w')
    (hD1 : ∀ w, Tab w → 1 < w.heap.size → Calls Tryd.prog 13 #[.float .f32 y, .float .f32 z, .int .i64 mode] w fun e w' => e = .returned (.tuple #[.float .f32 D, .int .i64 k3, .int .i64 0]) ∧ Below w.heap.size w w')
    (hD2 : ∀ w, Tab w → 1 < w.heap.size → Calls Tryd.prog 13 #[.float .f32 y, .float .f32 (flip32 z), .int .i64 other] w fun e w' => e = .returned (.tuple #[.float .f32 D', .int .i64 k3, .int .i64 0]) ∧ Below w.heap.size w w')
    (hA1 : ∀ w, Tab w → 1 < w.heap.size → Calls Tryd.prog 14 #[.float .f32 y, .float .f32 z, .int .i64 mode] w fun e w' => e = .returned (.tuple #[.float .f32 A, .int .i64 k4, .int .i64 0]) ∧ Below w.heap.size w w')
    (hA2 : ∀ w, Tab w → 1 < w.heap.size → Calls Tryd.prog 14 #[.float .f32 (flip32 y), .float .f32 (flip32 z), .int .i64 other] w fun e w' => e = .returned (.tuple #[.float .f32 A', .int .i64 k4, .int .i64 0]) ∧ Below w.heap.size w w')
    (hMN : ∀ w, Calls Tryd.prog 10 #[.float .f32 N, .float .f32 N'] w fun r w' => r = .returned (.bool true) ∧ w' = w)
    (hMM : ∀ w, Calls Tryd.prog 10 #[.float .f32 M, .float .f32 M'] w fun r w' => r = .returned (.bool true) ∧ w' = w)
    (hMD : ∀ w, Calls Tryd.prog 10 #[.float .f32 D, .float .f32 D'] w fun r w' => r = .returned (.bool true) ∧ w' = w)
    (hMA : ∀ w, Calls Tryd.prog 10 #[.float .f32 A, .float .f32 A'] w fun r w' => r = .returned (.bool bm) ∧ w' = w)  (z1 : (FloatKind.f32.format.order A 0 == some .eq) = true) (z2 : (FloatKind.f32.format.order A' 0 == some .eq) = true) :
    Calls Tryd.prog 3 #[.int .u64 x, .int .u32 y, .int .u32 z, .int .i64 mode] w fun r w' => r = .returned (.bool true) ∧ Below w.heap.size w w' := by
  have hTM := hid htm
  have HN1 := hid hN1
  have HN2 := hid hN2
  have HM1 := hid hM1
  have HM2 := hid hM2
  have HD1 := hid hD1
  have HD2 := hid hD2
  have HA1 := hid hA1
  have HA2 := hid hA2
  have HMN := hid hMN
  have HMM := hid hMM
  have HMD := hid hMD
  have HMA := hid hMA
  have g1 := neg64_run x hx
  have g2 := neg32_run y hy
  have g3 := neg32_run z hz
  clear hx hy hz htm hMA hN1 hN2 hM1 hM2 hD1 hD2 hA1 hA2 hMN hMM hMD
  cases bm
  all_goals
    go_enter Tryd.func3, Tryd.ntmps3
    go_wp2_with fail
    refine (awake2_any _ hT hs).mono ?_
    rintro r w1 ⟨rfl, hb⟩
    have hB0 := hid hb
    clear hb
    go_wp2_with fail
    refine (turned_any mode _).mono ?_
    rintro r w2 ⟨rfl, rfl⟩
    rw [hTM.out]
    go_wp2_with fail
    refine (f02_any x _).mono ?_
    rintro r v101 ⟨rfl, rfl⟩
    go_wp2_with fail
    refine (HN1.out _ (hT.below hs hB0.out) (Nat.lt_of_lt_of_le hs hB0.out.size)).mono ?_
    rintro r u1 ⟨rfl, hb⟩
    have hB1 := hid (bl_then hB0.out hb)
    clear hb
    go_wp2_with fail
    refine (f02_any x _).mono ?_
    rintro r v102 ⟨rfl, rfl⟩
    go_wp2_with fail
    refine (HN2.out _ (hT.below hs hB1.out) (Nat.lt_of_lt_of_le hs hB1.out.size)).mono ?_
    rintro r u2 ⟨rfl, hb⟩
    have hB2 := hid (bl_then hB1.out hb)
    clear hb
    go_wp2_with fail
    refine (HMN.out _).mono ?_
    rintro r v103 ⟨rfl, rfl⟩
    go_wp2_with fail
    refine (g02_any y _).mono ?_
    rintro r v104 ⟨rfl, rfl⟩
    go_wp2_with fail
    refine (g02_any z _).mono ?_
    rintro r v105 ⟨rfl, rfl⟩
    go_wp2_with fail
    refine (HM1.out _ (hT.below hs hB2.out) (Nat.lt_of_lt_of_le hs hB2.out.size)).mono ?_
    rintro r u3 ⟨rfl, hb⟩
    have hB3 := hid (bl_then hB2.out hb)
    clear hb
    go_wp2_with fail
    refine (g02_any y _).mono ?_
    rintro r v106 ⟨rfl, rfl⟩
    go_wp2_with fail
    refine (g02_any z _).mono ?_
    rintro r v107 ⟨rfl, rfl⟩
    go_wp2_with fail
    refine (HM2.out _ (hT.below hs hB3.out) (Nat.lt_of_lt_of_le hs hB3.out.size)).mono ?_
    rintro r u4 ⟨rfl, hb⟩
    have hB4 := hid (bl_then hB3.out hb)
    clear hb
    go_wp2_with fail
    refine (HMM.out _).mono ?_
    rintro r v108 ⟨rfl, rfl⟩
    go_wp2_with fail
    refine (g02_any y _).mono ?_
    rintro r v109 ⟨rfl, rfl⟩
    go_wp2_with fail
    refine (g02_any z _).mono ?_
    rintro r v110 ⟨rfl, rfl⟩
    go_wp2_with fail
    refine (HD1.out _ (hT.below hs hB4.out) (Nat.lt_of_lt_of_le hs hB4.out.size)).mono ?_
    rintro r u5 ⟨rfl, hb⟩
    have hB5 := hid (bl_then hB4.out hb)
    clear hb
    go_wp2_with fail
    refine (g02_any y _).mono ?_
    rintro r v111 ⟨rfl, rfl⟩
    go_wp2_with fail
    refine (g02_any z _).mono ?_
    rintro r v112 ⟨rfl, rfl⟩
    go_wp2_with fail
    refine (HD2.out _ (hT.below hs hB5.out) (Nat.lt_of_lt_of_le hs hB5.out.size)).mono ?_
    rintro r u6 ⟨rfl, hb⟩
    have hB6 := hid (bl_then hB5.out hb)
    clear hb
    go_wp2_with fail
    refine (HMD.out _).mono ?_
    rintro r v113 ⟨rfl, rfl⟩
    go_wp2_with fail
    refine (g02_any y _).mono ?_
    rintro r v114 ⟨rfl, rfl⟩
    go_wp2_with fail
    refine (g02_any z _).mono ?_
    rintro r v115 ⟨rfl, rfl⟩
    go_wp2_with fail
    refine (HA1.out _ (hT.below hs hB6.out) (Nat.lt_of_lt_of_le hs hB6.out.size)).mono ?_
    rintro r u7 ⟨rfl, hb⟩
    have hB7 := hid (bl_then hB6.out hb)
    clear hb
    go_wp2_with fail
    refine (g02_any y _).mono ?_
    rintro r v116 ⟨rfl, rfl⟩
    go_wp2_with fail
    refine (g02_any z _).mono ?_
    rintro r v117 ⟨rfl, rfl⟩
    go_wp2_with fail
    refine (HA2.out _ (hT.below hs hB7.out) (Nat.lt_of_lt_of_le hs hB7.out.size)).mono ?_
    rintro r u8 ⟨rfl, hb⟩
    have hB8 := hid (bl_then hB7.out hb)
    clear hb
    go_wp2_with fail
    refine (HMA.out _).mono ?_
    rintro r v118 ⟨rfl, rfl⟩
    go_wp2
    go_ret
    exact ⟨rfl, hB8.out⟩
end Go.Proofs.YtdhifmkfdpbpcaaDoor
