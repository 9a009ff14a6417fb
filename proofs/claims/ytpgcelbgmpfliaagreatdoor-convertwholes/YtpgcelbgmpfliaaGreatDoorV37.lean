
/- What awake answers: chapter 2's first examples hold. -/
import Derived.Test.YtpgcelbgmpfliaaGreatDoorV15
namespace Go.Proofs.YtpgcelbgmpfliaaGreatDoor
open Go.RowKit Go.IntWalk

set_option maxHeartbeats 400000 in
theorem partsOfInt_pos (k : Nat) (w : World) (hk : k ≤ 9223372036854775807) :
    Calls Tryz.prog 34 #[.int .i64 k] w fun r w' => r = .returned (.agg #[.bool false, .int .u64 k, .int .i64 0]) ∧ Below w.heap.size w w' := by
  have hw : IntKind.u64.wrap (k : Int) = (k : Int) := by rw [IntKind.wrap_u64]; omega
  have h0 : (0 : Int) ≤ (k : Int) := by omega
  have H := hid hk
  clear hk
  go_enter Tryz.func34, Tryz.ntmps34
  go_wp2
  refine bodyPost_ret (v := .agg #[.bool false, .int .u64 k, .int .i64 0]) (by simp [results, Tryz.results34, go_sem]) rfl ⟨rfl, ?_⟩
  repeat (first | exact Below.refl _ _ | refine bl_al ?_ _ | refine bl_drewN _ ?_ | refine Below.drew ?_ | refine Below.setCell ?_ (by simp <;> omega) _)
set_option maxHeartbeats 400000 in
theorem partsOfInt_neg (k : Nat) (w : World) (hk0 : 0 < k) (hk : k ≤ 9223372036854775808) :
    Calls Tryz.prog 34 #[.int .i64 (-(k : Int))] w fun r w' => r = .returned (.agg #[.bool true, .int .u64 k, .int .i64 0]) ∧ Below w.heap.size w w' := by
  obtain ⟨V, hV⟩ : ∃ V : Int, Hid (18446744073709551616 - (k : Int) = V) := ⟨_, rfl⟩
  have hw : IntKind.u64.wrap (-(k : Int)) = V := by have := hV.out; rw [IntKind.wrap_u64]; omega
  have hw2 : IntKind.u64.wrap (-V) = (k : Int) := by have := hV.out; rw [IntKind.wrap_u64]; omega
  have h0 : -(k : Int) < 0 := by omega
  have H := hid hk
  have H0 := hid hk0
  clear hk hk0
  go_enter Tryz.func34, Tryz.ntmps34
  go_wp2
  refine bodyPost_ret (v := .agg #[.bool true, .int .u64 k, .int .i64 0]) (by simp [results, Tryz.results34, go_sem]) rfl ⟨rfl, ?_⟩
  repeat (first | exact Below.refl _ _ | refine bl_al ?_ _ | refine bl_drewN _ ?_ | refine Below.drew ?_ | refine Below.setCell ?_ (by simp <;> omega) _)

set_option maxHeartbeats 400000 in
theorem fromWhole64_core (neg : Bool) (m X : Nat) (e mode Y : Int) (w : World) (hm1 : 0 ≤ mode) (hm2 : mode ≤ 4) (hT : Tab w) (hs : 1 < w.heap.size)
    (h : ∀ w, Tab w → 1 < w.heap.size → Calls Tryz.prog 82 #[.agg #[.bool neg, .int .u64 m, .int .i64 e], .agg #[.int .i64 53, .int .i64 (-1022), .int .i64 1023], .int .i64 mode] w fun r w' => r = .returned (.tuple #[.float .f64 X, .int .i64 Y]) ∧ Below w.heap.size w w') :
    Calls Tryz.prog 33 #[.agg #[.bool neg, .int .u64 m, .int .i64 e], .agg #[.int .i64 53, .int .i64 (-1022), .int .i64 1023], .int .i64 mode] w fun r w' => r = .returned (.tuple #[.float .f64 X, .int .i64 Y, .int .i64 0]) ∧ Below w.heap.size w w' := by
  have hk : decide (0 ≤ mode ∧ mode ≤ 4) = true := decide_eq_true ⟨hm1, hm2⟩
  have H := hid h
  clear h hm1 hm2
  go_enter Tryz.func33, Tryz.ntmps33
  go_wp2_with fail
  refine (known_any mode _).mono ?_
  rintro r w1 ⟨rfl, rfl⟩
  rw [hk]
  clear hk
  go_wp2_with fail
  refine (H.out _ ?_ ?_).mono ?_
  · refine hT.below hs ?_
    repeat (first | exact Below.refl _ _ | refine bl_al ?_ _)
  · first | (simp; done) | (simp; omega)
  rintro r w2 ⟨rfl, hb⟩
  go_wp2
  go_ret3
  refine ⟨rfl, bl_then ?_ hb⟩
  repeat (first | exact Below.refl _ _ | refine bl_al ?_ _)
set_option maxHeartbeats 400000 in
theorem FromInt_core (n : Int) (neg : Bool) (m X : Nat) (mode Y : Int) (w : World) (hm1 : 0 ≤ mode) (hm2 : mode ≤ 4) (hT : Tab w) (hs : 1 < w.heap.size)
    (hp : ∀ w, Calls Tryz.prog 34 #[.int .i64 n] w fun r w' => r = .returned (.agg #[.bool neg, .int .u64 m, .int .i64 0]) ∧ Below w.heap.size w w')
    (h : ∀ w, Tab w → 1 < w.heap.size → Calls Tryz.prog 82 #[.agg #[.bool neg, .int .u64 m, .int .i64 0], .agg #[.int .i64 53, .int .i64 (-1022), .int .i64 1023], .int .i64 mode] w fun r w' => r = .returned (.tuple #[.float .f64 X, .int .i64 Y]) ∧ Below w.heap.size w w') :
    Calls Tryz.prog 6 #[.int .i64 n, .int .i64 mode] w fun r w' => r = .returned (.tuple #[.float .f64 X, .int .i64 Y, .int .i64 0]) ∧ Below w.heap.size w w' := by
  have H := hid (fun (w : World) hT hs => fromWhole64_core neg m X 0 mode Y w hm1 hm2 hT hs h)
  have HP := hid hp
  clear h hm1 hm2 hp
  go_enter Tryz.func6, Tryz.ntmps6
  go_wp2_with fail
  refine (HP.out _).mono ?_
  rintro r w1 ⟨rfl, hb1⟩
  go_wp2_with fail
  refine (binary64_any _).mono ?_
  rintro r w2 ⟨rfl, hb2⟩
  go_wp2_with fail
  refine (H.out _ (hT.below hs (bl_then hb1 hb2)) (Nat.lt_of_lt_of_le hs (bl_then hb1 hb2).size)).mono ?_
  rintro r w3 ⟨rfl, hb3⟩
  go_wp2
  go_ret3
  exact ⟨rfl, bl_then (bl_then hb1 hb2) hb3⟩

set_option maxHeartbeats 400000 in
theorem stepsOf_nil (neg : Bool) (mode : Int) (w : World) :
    Calls Tryz.prog 50 #[.agg #[.bool neg, .int .u64 0, .int .i64 0], .int .i64 (-53), .int .i64 mode] w fun r w' => r = .returned (.tuple #[.int .u64 0, .int .i64 0]) ∧ Below w.heap.size w w' := by
  have HC := hid (fun (w : World) => cut_low neg 0 53 0 w (by decide) (by decide))
  go_enter Tryz.func50, Tryz.ntmps50
  go_wp2_with fail
  refine (HC.out _).mono ?_
  rintro r w1 ⟨rfl, hb⟩
  go_wp2
  go_ret2
  exact ⟨rfl, bl_alloc hb⟩
theorem len_zero (w : World) : Calls Tryz.prog 123 #[.int .u64 0] w fun r w' => r = .returned (.int .i64 0) ∧ w' = w := len_l 0 0 w (by decide) bitLen_zero
set_option maxHeartbeats 400000 in
theorem round64_nil (neg : Bool) (mode : Int) (w : World) (hT : Tab w) (hs : 1 < w.heap.size) :
    Calls Tryz.prog 82 #[.agg #[.bool neg, .int .u64 0, .int .i64 0], .agg #[.int .i64 53, .int .i64 (-1022), .int .i64 1023], .int .i64 mode] w fun r w' => r = .returned (.tuple #[.float .f64 (signN neg 0), .int .i64 0]) ∧ Below w.heap.size w w' := by
  have HO := hid (fun (w : World) hT hs => Of_good64 neg 0 (-53) w (by decide) (by decide) (by rw [bitLen_zero]; decide) hT hs)
  have hw0 : wMag 0 (-53) = 0 := by unfold wMag; rw [if_pos rfl]
  rw [hw0] at HO
  go_enter Tryz.func82, Tryz.ntmps82
  go_wp2_with fail
  go_quiet (first | (go_at_call 123; exact Calls.quiet_of_same (len_zero _)))
  go_wp2_with fail
  refine (stepsOf_nil neg mode _).mono ?_
  rintro r w1 ⟨rfl, hb⟩
  obtain ⟨hcl, hf⟩ := bcell hb
  have hz : w.heap.size + 1 < w1.heap.size := by have := hb.size; simp at this; omega
  have hcells : (w1.cell? ⟨w.heap.size, 0, none⟩ = some (.bool neg) ∧ w1.cell? ⟨w.heap.size + 1, 0, none⟩ = some (.int .i64 53) ∧ w1.cell? ⟨w.heap.size + 1, 1, none⟩ = some (.int .i64 (-1022)) ∧ w1.cell? ⟨w.heap.size + 1, 2, none⟩ = some (.int .i64 1023)) := by
    refine ⟨?_, ?_, ?_, ?_⟩ <;> (rw [hcl _ _ (by simp <;> omega)]; simp [go_sem])
  obtain ⟨c0, c1, c2, c3⟩ := hcells
  have hbb : Hid (Below w.heap.size w w1) := by
    refine bl_then ?_ hb
    repeat (first | exact Below.refl _ _ | refine bl_al ?_ _ | refine bl_drewN _ ?_ | refine Below.drew ?_ | refine Below.setCell ?_ (by simp) _)
  clear hcl hf hb
  go_wp2_with fail
  go_quiet (first | (go_at_call 123; exact Calls.quiet_of_same (len_zero _)))
  go_wp2_with fail
  refine (HO.out _ (hT.below hs (bl_drewN _ hbb.out)) ?_).mono ?_
  · have := hbb.out.size; first | (simp; omega) | omega
  rintro r w2 ⟨rfl, hb2⟩
  go_wp2
  go_ret2
  exact ⟨rfl, bl_then (bl_drewN _ hbb.out) hb2⟩
end Go.Proofs.YtpgcelbgmpfliaaGreatDoor

namespace Go.Proofs.YtpgcelbgmpfliaaGreatDoor
open Go.RowKit Go.IntWalk

theorem ret_f32' {a a' : Nat} (h1 : a = a') : Ending.returned (.float .f32 a) = .returned (.float .f32 a') := by rw [h1]
set_option maxHeartbeats 400000 in
theorem is32_any (a b : Nat) (w : World) :
    Calls Tryz.prog 43 #[.float .f32 a, .int .u32 b] w fun r w' => r = .returned (.bool (a == b)) ∧ w' = w := by
  have h1 := f64bits32
  go_enter Tryz.func43, Tryz.ntmps43
  go_wp2
  go_ret
  exact ⟨ret_bool (nat_beq a b), rfl⟩
theorem nzero_run (w : World) : (convert 23 32 (.float .f64 9223372036854775808)).run Tryz.prog w = .ok (.float .f32 2147483648) w := conv_run _ _ (by decide +kernel) w
theorem copy_nzero (w : World) : Calls Tryz.prog 144 #[.float .f64 0, .float .f64 13830554455654793216] w fun e w' => e = .returned (.float .f64 9223372036854775808) ∧ w' = w := copysign_any 0 true 4607182418800017408 w (by decide) (by decide)
set_option maxHeartbeats 400000 in
theorem noughtOf_other (x y : Nat) (mode : Int) (w : World) (hx : x < 18446744073709551616) (hy : y < 18446744073709551616) (h : (canonOf x == canonOf y) = false) :
    Calls Tryz.prog 111 #[.float .f64 x, .float .f64 y, .int .i64 mode] w fun r w' => r = .returned (.float .f32 (if mode = 4 then 2147483648 else 0)) ∧ Below w.heap.size w w' := by
  have h1 := nzero_run
  have HS := hid (fun (w : World) => Same_any x y w hx hy)
  rw [h] at HS
  have HC := hid copy_nzero
  clear h
  by_cases hm : mode = 4
  · rw [if_pos hm]
    subst hm
    go_enter Tryz.func111, Tryz.ntmps111
    go_wp2_with fail
    refine (HS.out _).mono ?_
    rintro r w1 ⟨rfl, hb⟩
    go_wp2_with fail
    refine (HC.out _).mono ?_
    rintro r w2 ⟨rfl, rfl⟩
    go_wp2
    go_ret
    exact ⟨rfl, hb⟩
  · rw [if_neg hm]
    have hm' : (mode == 4) = false := by simpa using hm
    clear hm
    go_enter Tryz.func111, Tryz.ntmps111
    go_wp2_with fail
    refine (HS.out _).mono ?_
    rintro r w1 ⟨rfl, hb⟩
    go_wp2
    go_ret
    exact ⟨rfl, hb⟩
set_option maxHeartbeats 400000 in
theorem addition_zero (x y s r : Nat) (mode : Int) (w : World) (hx : x < 18446744073709551616) (hy : y < 18446744073709551616) (hs2 : s < 18446744073709551616) (nx : x % 9223372036854775808 ≤ 9218868437227405312) (ny : y % 9223372036854775808 ≤ 9218868437227405312) (hs0 : s % 9223372036854775808 = 0)
    (hadd : FloatKind.f64.format.add x y = some s)
    (h : ∀ w, Calls Tryz.prog 111 #[.float .f64 x, .float .f64 y, .int .i64 mode] w fun e w' => e = .returned (.float .f32 r) ∧ Below w.heap.size w w') :
    Calls Tryz.prog 70 #[.float .f64 x, .float .f64 y, .int .i64 mode] w fun e w' => e = .returned (.tuple #[.float .f32 r, .int .i64 0]) ∧ Below w.heap.size w w' := by
  have H := hid h
  have ha : ∀ w : World, (binOp .add 23 (.float .f64 x) (.float .f64 y)).run Tryz.prog w = .ok (.float .f64 s) w := fun w => run_float_arith w .add _ .f64 x y s hadd
  have h1 := hid (fun (w : World) => isnan_any x w hx)
  have h2 := hid (fun (w : World) => isnan_any y w hy)
  have h3 := hid (fun (w : World) => isnan_any s w hs2)
  rw [decide_eq_false (by omega)] at h1 h2 h3
  have hz : (FloatKind.f64.format.order s 0 == some .eq) = true := by rw [order_zero s hs2]; exact decide_eq_true hs0
  clear h hadd nx ny hs0 hx hy hs2
  go_enter Tryz.func70, Tryz.ntmps70
  go_wp2_with fail
  refine (h1.out _).mono ?_
  rintro e w1 ⟨rfl, rfl⟩
  go_wp2_with fail
  refine (h2.out _).mono ?_
  rintro e w1 ⟨rfl, rfl⟩
  go_wp2_with fail
  refine (h3.out _).mono ?_
  rintro e w1 ⟨rfl, rfl⟩
  go_wp2_with fail
  refine (H.out _).mono ?_
  rintro e w1 ⟨rfl, hb⟩
  go_wp2
  go_ret2
  exact ⟨rfl, hb⟩
set_option maxHeartbeats 400000 in
theorem Add_core (a b X : Nat) (mode Y : Int) (w : World) (ha : a < 4294967296) (hb : b < 4294967296) (hm1 : 0 ≤ mode) (hm2 : mode ≤ 4) (hT : Tab w) (hs : 1 < w.heap.size)
    (h : ∀ w, Tab w → 1 < w.heap.size → Calls Tryz.prog 70 #[.float .f64 (widenOf a), .float .f64 (widenOf b), .int .i64 mode] w fun e w' => e = .returned (.tuple #[.float .f32 X, .int .i64 Y]) ∧ Below w.heap.size w w') :
    Calls Tryz.prog 22 #[.float .f32 a, .float .f32 b, .int .i64 mode] w fun e w' => e = .returned (.tuple #[.float .f32 X, .int .i64 Y, .int .i64 0]) ∧ Below w.heap.size w w' := by
  have hk : decide (0 ≤ mode ∧ mode ≤ 4) = true := decide_eq_true ⟨hm1, hm2⟩
  have H := hid h
  have H1 := hid (fun (w : World) => Widen_any a w ha)
  have H2 := hid (fun (w : World) => Widen_any b w hb)
  obtain ⟨A, hA⟩ : ∃ A, Hid (widenOf a = A) := ⟨_, rfl⟩
  obtain ⟨B, hB⟩ : ∃ B, Hid (widenOf b = B) := ⟨_, rfl⟩
  rw [hA.out] at H1 H
  rw [hB.out] at H2 H
  clear h hm1 hm2 ha hb
  go_enter Tryz.func22, Tryz.ntmps22
  go_wp2_with fail
  refine (known_any mode _).mono ?_
  rintro e w1 ⟨rfl, rfl⟩
  rw [hk]
  clear hk
  go_wp2_with fail
  refine (H1.out _).mono ?_
  rintro e w1 ⟨rfl, hb1⟩
  go_wp2_with fail
  refine (H2.out _).mono ?_
  rintro e w2 ⟨rfl, hb2⟩
  go_wp2_with fail
  refine (H.out _ (hT.below hs (bl_then hb1 hb2)) (Nat.lt_of_lt_of_le hs (bl_then hb1 hb2).size)).mono ?_
  rintro e w3 ⟨rfl, hb3⟩
  go_wp2
  go_ret3
  exact ⟨rfl, bl_then (bl_then hb1 hb2) hb3⟩
theorem at_add : widenOf 1065353216 = 4607182418800017408 ∧ widenOf 3212836864 = 13830554455654793216 ∧ FloatKind.f64.format.add 4607182418800017408 13830554455654793216 = some 0 ∧ (canonOf 4607182418800017408 == canonOf 13830554455654793216) = false := by decide +kernel
theorem Add_1 (w : World) (hT : Tab w) (hs : 1 < w.heap.size) :
    Calls Tryz.prog 22 #[.float .f32 1065353216, .float .f32 3212836864, .int .i64 4] w fun e w' => e = .returned (.tuple #[.float .f32 2147483648, .int .i64 0, .int .i64 0]) ∧ Below w.heap.size w w' := by
  obtain ⟨a1, a2, a3, a4⟩ := at_add
  refine Add_core 1065353216 3212836864 2147483648 4 0 w (by decide) (by decide) (by decide) (by decide) hT hs (fun w hT hs => ?_)
  rw [a1, a2]
  exact addition_zero _ _ 0 _ 4 w (by decide) (by decide) (by decide) (by decide) (by decide) (by decide) a3 (fun w => noughtOf_other _ _ 4 w (by decide) (by decide) a4)
theorem at_narrow : narrowOf 4607182419068452864 3 = 1065353217 ∧ narrowFl 4607182419068452864 3 = 1 ∧ narrowOf 4607182419068452864 0 = 1065353216 ∧ narrowFl 4607182419068452864 0 = 1 ∧ narrowFl 4602678819172646912 0 = 0 ∧ widenOf 1056964608 = 4602678819172646912 := by decide +kernel
theorem at_300 : pExp 4643985272004935680 = 2 ∧ canonOf 4643985272004935680 = 4643985272004935680 ∧ (FloatKind.f64.format.order 4643985272004935680 13861798426916814848 == some .lt) = false := by decide +kernel
theorem Int_300 (w : World) (hT : Tab w) (hs : 1 < w.heap.size) :
    Calls Tryz.prog 18 #[.float .f64 4643985272004935680, .int .i64 8, .int .i64 0] w fun r w' => r = .returned (.tuple #[.int .i64 127, .int .i64 8, .int .i64 0]) ∧ Below w.heap.size w w' := by
  obtain ⟨a1, a2, a3⟩ := at_300
  have hw := Whole_plain 4643985272004935680 0 w (by decide) (by decide) (by decide) (Or.inr (by rw [a1]; decide)) hT hs
  rw [a2] at hw
  exact Int8_high _ _ 0 0 w (by decide) (by decide) (by decide +kernel) (by decide +kernel) hw
set_option maxHeartbeats 400000 in
theorem awake2_any (w : World) (hT : Tab w) (hs : 1 < w.heap.size) :
    Calls Tryz.prog 14 #[] w fun r w' => r = .returned (.bool true) ∧ Below w.heap.size w w' := by
  obtain ⟨a1, a2, a3, a4, a5, a6⟩ := at_narrow
  have H1 := hid (fun (w : World) hT hs => Narrow_any 4607182419068452864 3 w (by decide) (by decide) (by decide) hT hs)
  have H2 := hid (fun (w : World) hT hs => Narrow_any 4607182419068452864 0 w (by decide) (by decide) (by decide) hT hs)
  have H3 := hid (fun (w : World) hT hs => Fits_any 4602678819172646912 w (by decide) hT hs)
  have H4 := hid (fun (w : World) => Widen_any 1056964608 w (by decide))
  rw [a1, a2] at H1
  rw [a3, a4] at H2
  rw [a5] at H3
  rw [a6] at H4
  have ho : (FloatKind.f64.format.order 4602678819172646912 4602678819172646912 == some .eq) = true := by decide +kernel
  clear a1 a2 a3 a4 a5 a6
  go_enter Tryz.func14, Tryz.ntmps14
  go_wp2_with fail
  refine (H1.out _ hT hs).mono ?_
  rintro r w1 ⟨rfl, hb1⟩
  go_wp2_with fail
  refine (H2.out _ (hT.below hs hb1) (Nat.lt_of_lt_of_le hs hb1.size)).mono ?_
  rintro r w2 ⟨rfl, hb2⟩
  have hB2 := hid (bl_then hb1 hb2)
  clear hb1 hb2
  go_wp2_with fail
  refine (Add_1 _ (hT.below hs hB2.out) (Nat.lt_of_lt_of_le hs hB2.out.size)).mono ?_
  rintro r w3 ⟨rfl, hb3⟩
  have hB3 := hid (bl_then hB2.out hb3)
  clear hb3
  go_wp2_with fail
  refine (Int_300 _ (hT.below hs hB3.out) (Nat.lt_of_lt_of_le hs hB3.out.size)).mono ?_
  rintro r w4 ⟨rfl, hb4⟩
  have hB4 := hid (bl_then hB3.out hb4)
  clear hb4
  go_wp2_with fail
  refine (is32_any 1065353217 1065353217 _).mono ?_
  rintro r w5 ⟨rfl, rfl⟩
  go_wp2_with fail
  refine (is32_any 1065353216 1065353216 _).mono ?_
  rintro r w5 ⟨rfl, rfl⟩
  go_wp2_with fail
  refine (is32_any 2147483648 2147483648 _).mono ?_
  rintro r w5 ⟨rfl, rfl⟩
  go_wp2_with fail
  refine (H3.out _ (hT.below hs hB4.out) (Nat.lt_of_lt_of_le hs hB4.out.size)).mono ?_
  rintro r w5 ⟨rfl, hb5⟩
  have hB5 := hid (bl_then hB4.out hb5)
  clear hb5
  go_wp2_with fail
  refine (H4.out _).mono ?_
  rintro r w6 ⟨rfl, hb6⟩
  go_wp2
  go_ret
  exact ⟨rfl, bl_then hB5.out hb6⟩
end Go.Proofs.YtpgcelbgmpfliaaGreatDoor
