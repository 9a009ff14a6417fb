
/- What convert's roundScaled, narrow, Narrow, Fits and Widen do. -/
import Derived.Test.YtpgcelbgmpfliaaGreatDoorV12
namespace Go.Proofs.YtpgcelbgmpfliaaGreatDoor
open Go.RowKit Go.IntWalk

/-- How far a power goes. -/
def clampK (k : Int) : Int := min (max k (-8192)) 8192
set_option maxHeartbeats 400000 in
theorem rscale32_plain (x : Nat) (k mode : Int) (w : World) (hx : x < 18446744073709551616) (h : pErr x ≠ 0 ∨ pMant x = 0) (hT : Tab w) (hs : 1 < w.heap.size) :
    Calls Tryz.prog 131 #[.float .f64 x, .int .i64 k, .agg #[.int .i64 24, .int .i64 (-126), .int .i64 127], .int .i64 mode] w fun r w' => r = .returned (.tuple #[.float .f64 (canonOf x), .int .i64 0]) ∧ Below w.heap.size w w' := by
  have HP := hid (fun (w : World) => Parts_any x w hx)
  obtain ⟨N, HN⟩ : ∃ N, Hid (pNeg x = N) := ⟨_, rfl⟩
  obtain ⟨M, HM⟩ : ∃ M, Hid (pMant x = M) := ⟨_, rfl⟩
  obtain ⟨E, HE⟩ : ∃ E, Hid (pExp x = E) := ⟨_, rfl⟩
  obtain ⟨R, HR⟩ : ∃ R, Hid (pErr x = R) := ⟨_, rfl⟩
  rw [HN.out, HM.out, HE.out, HR.out] at HP
  rw [HM.out, HR.out] at h
  by_cases hR : R = 0
  · have hM : M = 0 := by
      rcases h with h | h
      · exact absurd hR h
      · exact h
    subst hR
    subst hM
    clear h
    go_enter Tryz.func131, Tryz.ntmps131
    go_wp2_with fail
    refine (HP.out _ (hT.below hs ((Below.refl _ _).alloc (Nat.le_refl _) _)) (by simp; omega)).mono ?_
    rintro r w1 ⟨rfl, hb⟩
    have hbb : Hid (Below w.heap.size w w1) := bl_alloc hb
    clear hb
    go_wp2_with fail
    refine (Canon_any x _ hx).mono ?_
    rintro r w2 ⟨rfl, hb2⟩
    go_wp2
    go_ret2
    exact ⟨rfl, bl_then (bl_al hbb.out _) hb2⟩
  · have hR0 : (R != 0) = true := by simpa using hR
    have HRN := hid hR
    clear hR h
    go_enter Tryz.func131, Tryz.ntmps131
    go_wp2_with fail
    refine (HP.out _ (hT.below hs ((Below.refl _ _).alloc (Nat.le_refl _) _)) (by simp; omega)).mono ?_
    rintro r w1 ⟨rfl, hb⟩
    have hbb : Hid (Below w.heap.size w w1) := bl_alloc hb
    clear hb
    go_wp2_with fail
    refine (Canon_any x _ hx).mono ?_
    rintro r w2 ⟨rfl, hb2⟩
    go_wp2
    go_ret2
    exact ⟨rfl, bl_then (bl_al hbb.out _) hb2⟩
set_option maxHeartbeats 400000 in
theorem rscale32_any (x : Nat) (k mode : Int) (w : World) (hx : x < 18446744073709551616) (h1 : pErr x = 0) (h2 : pMant x ≠ 0) (hE1 : -1200 ≤ pExp x) (hE2 : pExp x ≤ 1200) (hm : pMant x < 18446744073709551616) (hT : Tab w) (hs : 1 < w.heap.size) :
    Calls Tryz.prog 131 #[.float .f64 x, .int .i64 k, .agg #[.int .i64 24, .int .i64 (-126), .int .i64 127], .int .i64 mode] w fun r w' => r = .returned (.tuple #[.float .f64 (signN (pNeg x) (rMag 24 (-126) 127 (pMant x) (pExp x + clampK k) mode (pNeg x))), .int .i64 (rFlag 24 (-126) 127 (pMant x) (pExp x + clampK k) mode (pNeg x))]) ∧ Below w.heap.size w w' := by
  have HP := hid (fun (w : World) => Parts_any x w hx)
  have hck1 : -8192 ≤ clampK k := by unfold clampK; omega
  have hck2 : clampK k ≤ 8192 := by unfold clampK; omega
  have HRD := hid (fun (w : World) => round32_any (pNeg x) (pMant x) (pExp x + clampK k) mode w hm h2 (by omega) (by omega))
  have hcd : min (max k (-8192)) 8192 = clampK k := rfl
  obtain ⟨N, HN⟩ : ∃ N, Hid (pNeg x = N) := ⟨_, rfl⟩
  obtain ⟨M, HM⟩ : ∃ M, Hid (pMant x = M) := ⟨_, rfl⟩
  obtain ⟨E, HE⟩ : ∃ E, Hid (pExp x = E) := ⟨_, rfl⟩
  obtain ⟨C, HC⟩ : ∃ C, Hid (clampK k = C) := ⟨_, rfl⟩
  rw [HC.out] at hck1 hck2 hcd HRD ⊢
  rw [h1] at HP
  rw [HN.out, HM.out, HE.out] at HP HRD ⊢
  rw [HM.out] at h2 hm
  rw [HE.out] at hE1 hE2
  obtain ⟨G, HG⟩ : ∃ G, Hid (E + C = G) := ⟨_, rfl⟩
  have hEC : IntKind.i64.wrap (E + C) = G := by rw [IntWalk.i64_in _ (by omega)]; exact HG.out
  have hEC2 : E + C = G := HG.out
  rw [HG.out] at HRD ⊢
  have h2' : ((M : Int) == 0) = false := by simpa using h2
  obtain ⟨X, HX⟩ : ∃ X, Hid (signN N (rMag 24 (-126) 127 M G mode N) = X) := ⟨_, rfl⟩
  obtain ⟨Y, HY⟩ : ∃ Y, Hid (rFlag 24 (-126) 127 M G mode N = Y) := ⟨_, rfl⟩
  rw [HX.out, HY.out] at HRD ⊢
  clear h1 h2 hm
  go_enter Tryz.func131, Tryz.ntmps131
  go_wp2_with fail
  refine (HP.out _ (hT.below hs ((Below.refl _ _).alloc (Nat.le_refl _) _)) (by simp; omega)).mono ?_
  rintro r w1 ⟨rfl, hb⟩
  obtain ⟨hcl, hf⟩ := bcell hb
  have hz : w.heap.size < w1.heap.size := by have := hb.size; simp at this; omega
  have hcells : (w1.cell? ⟨w.heap.size, 0, none⟩ = some (.int .i64 24) ∧ w1.cell? ⟨w.heap.size, 1, none⟩ = some (.int .i64 (-126)) ∧ w1.cell? ⟨w.heap.size, 2, none⟩ = some (.int .i64 127)) := by
    refine ⟨?_, ?_, ?_⟩ <;> (rw [hcl _ _ (by simp <;> omega)]; simp [go_sem])
  obtain ⟨c1, c2, c3⟩ := hcells
  have hbb : Hid (Below w.heap.size w w1) := bl_alloc hb
  clear hb hcl hf
  go_wp2_with fail
  refine (HRD.out _ ?_ ?_).mono ?_
  · refine hT.below hs ?_
    repeat (first | exact hbb.out | refine bl_al ?_ _ | refine bl_drewN _ ?_ | refine Below.drew ?_ | refine Below.setCell ?_ (by simp <;> omega) _)
  · simp; omega
  rintro r w2 ⟨rfl, hb2⟩
  go_wp2
  go_ret2
  refine ⟨rfl, bl_then ?_ hb2⟩
  repeat (first | exact hbb.out | refine bl_al ?_ _ | refine bl_drewN _ ?_ | refine Below.drew ?_ | refine Below.setCell ?_ (by simp <;> omega) _)
set_option maxHeartbeats 400000 in
theorem rscale64_plain (x : Nat) (k mode : Int) (w : World) (hx : x < 18446744073709551616) (h : pErr x ≠ 0 ∨ pMant x = 0) (hT : Tab w) (hs : 1 < w.heap.size) :
    Calls Tryz.prog 131 #[.float .f64 x, .int .i64 k, .agg #[.int .i64 53, .int .i64 (-1022), .int .i64 1023], .int .i64 mode] w fun r w' => r = .returned (.tuple #[.float .f64 (canonOf x), .int .i64 0]) ∧ Below w.heap.size w w' := by
  have HP := hid (fun (w : World) => Parts_any x w hx)
  obtain ⟨N, HN⟩ : ∃ N, Hid (pNeg x = N) := ⟨_, rfl⟩
  obtain ⟨M, HM⟩ : ∃ M, Hid (pMant x = M) := ⟨_, rfl⟩
  obtain ⟨E, HE⟩ : ∃ E, Hid (pExp x = E) := ⟨_, rfl⟩
  obtain ⟨R, HR⟩ : ∃ R, Hid (pErr x = R) := ⟨_, rfl⟩
  rw [HN.out, HM.out, HE.out, HR.out] at HP
  rw [HM.out, HR.out] at h
  by_cases hR : R = 0
  · have hM : M = 0 := by
      rcases h with h | h
      · exact absurd hR h
      · exact h
    subst hR
    subst hM
    clear h
    go_enter Tryz.func131, Tryz.ntmps131
    go_wp2_with fail
    refine (HP.out _ (hT.below hs ((Below.refl _ _).alloc (Nat.le_refl _) _)) (by simp; omega)).mono ?_
    rintro r w1 ⟨rfl, hb⟩
    have hbb : Hid (Below w.heap.size w w1) := bl_alloc hb
    clear hb
    go_wp2_with fail
    refine (Canon_any x _ hx).mono ?_
    rintro r w2 ⟨rfl, hb2⟩
    go_wp2
    go_ret2
    exact ⟨rfl, bl_then (bl_al hbb.out _) hb2⟩
  · have hR0 : (R != 0) = true := by simpa using hR
    have HRN := hid hR
    clear hR h
    go_enter Tryz.func131, Tryz.ntmps131
    go_wp2_with fail
    refine (HP.out _ (hT.below hs ((Below.refl _ _).alloc (Nat.le_refl _) _)) (by simp; omega)).mono ?_
    rintro r w1 ⟨rfl, hb⟩
    have hbb : Hid (Below w.heap.size w w1) := bl_alloc hb
    clear hb
    go_wp2_with fail
    refine (Canon_any x _ hx).mono ?_
    rintro r w2 ⟨rfl, hb2⟩
    go_wp2
    go_ret2
    exact ⟨rfl, bl_then (bl_al hbb.out _) hb2⟩
set_option maxHeartbeats 400000 in
theorem rscale64_any (x : Nat) (k mode : Int) (w : World) (hx : x < 18446744073709551616) (h1 : pErr x = 0) (h2 : pMant x ≠ 0) (hE1 : -1200 ≤ pExp x) (hE2 : pExp x ≤ 1200) (hm : pMant x < 18446744073709551616) (hT : Tab w) (hs : 1 < w.heap.size) :
    Calls Tryz.prog 131 #[.float .f64 x, .int .i64 k, .agg #[.int .i64 53, .int .i64 (-1022), .int .i64 1023], .int .i64 mode] w fun r w' => r = .returned (.tuple #[.float .f64 (signN (pNeg x) (rMag 53 (-1022) 1023 (pMant x) (pExp x + clampK k) mode (pNeg x))), .int .i64 (rFlag 53 (-1022) 1023 (pMant x) (pExp x + clampK k) mode (pNeg x))]) ∧ Below w.heap.size w w' := by
  have HP := hid (fun (w : World) => Parts_any x w hx)
  have hck1 : -8192 ≤ clampK k := by unfold clampK; omega
  have hck2 : clampK k ≤ 8192 := by unfold clampK; omega
  have HRD := hid (fun (w : World) => round64_any (pNeg x) (pMant x) (pExp x + clampK k) mode w hm h2 (by omega) (by omega))
  have hcd : min (max k (-8192)) 8192 = clampK k := rfl
  obtain ⟨N, HN⟩ : ∃ N, Hid (pNeg x = N) := ⟨_, rfl⟩
  obtain ⟨M, HM⟩ : ∃ M, Hid (pMant x = M) := ⟨_, rfl⟩
  obtain ⟨E, HE⟩ : ∃ E, Hid (pExp x = E) := ⟨_, rfl⟩
  obtain ⟨C, HC⟩ : ∃ C, Hid (clampK k = C) := ⟨_, rfl⟩
  rw [HC.out] at hck1 hck2 hcd HRD ⊢
  rw [h1] at HP
  rw [HN.out, HM.out, HE.out] at HP HRD ⊢
  rw [HM.out] at h2 hm
  rw [HE.out] at hE1 hE2
  obtain ⟨G, HG⟩ : ∃ G, Hid (E + C = G) := ⟨_, rfl⟩
  have hEC : IntKind.i64.wrap (E + C) = G := by rw [IntWalk.i64_in _ (by omega)]; exact HG.out
  have hEC2 : E + C = G := HG.out
  rw [HG.out] at HRD ⊢
  have h2' : ((M : Int) == 0) = false := by simpa using h2
  obtain ⟨X, HX⟩ : ∃ X, Hid (signN N (rMag 53 (-1022) 1023 M G mode N) = X) := ⟨_, rfl⟩
  obtain ⟨Y, HY⟩ : ∃ Y, Hid (rFlag 53 (-1022) 1023 M G mode N = Y) := ⟨_, rfl⟩
  rw [HX.out, HY.out] at HRD ⊢
  clear h1 h2 hm
  go_enter Tryz.func131, Tryz.ntmps131
  go_wp2_with fail
  refine (HP.out _ (hT.below hs ((Below.refl _ _).alloc (Nat.le_refl _) _)) (by simp; omega)).mono ?_
  rintro r w1 ⟨rfl, hb⟩
  obtain ⟨hcl, hf⟩ := bcell hb
  have hz : w.heap.size < w1.heap.size := by have := hb.size; simp at this; omega
  have hcells : (w1.cell? ⟨w.heap.size, 0, none⟩ = some (.int .i64 53) ∧ w1.cell? ⟨w.heap.size, 1, none⟩ = some (.int .i64 (-1022)) ∧ w1.cell? ⟨w.heap.size, 2, none⟩ = some (.int .i64 1023)) := by
    refine ⟨?_, ?_, ?_⟩ <;> (rw [hcl _ _ (by simp <;> omega)]; simp [go_sem])
  obtain ⟨c1, c2, c3⟩ := hcells
  have hbb : Hid (Below w.heap.size w w1) := bl_alloc hb
  clear hb hcl hf
  go_wp2_with fail
  refine (HRD.out _ ?_ ?_).mono ?_
  · refine hT.below hs ?_
    repeat (first | exact hbb.out | refine bl_al ?_ _ | refine bl_drewN _ ?_ | refine Below.drew ?_ | refine Below.setCell ?_ (by simp <;> omega) _)
  · simp; omega
  rintro r w2 ⟨rfl, hb2⟩
  go_wp2
  go_ret2
  refine ⟨rfl, bl_then ?_ hb2⟩
  repeat (first | exact hbb.out | refine bl_al ?_ _ | refine bl_drewN _ ?_ | refine Below.drew ?_ | refine Below.setCell ?_ (by simp <;> omega) _)
theorem conv_run (X r : Nat) (h : floatToFloatBits .f64 X .f32 = some r) (w : World) : (convert 23 32 (.float .f64 X)).run Tryz.prog w = .ok (.float .f32 r) w :=
  run_convert_float_float w _ _ _ _ _ _ (by kernel_rfl) (by kernel_rfl) h
theorem wide_run (X r : Nat) (h : floatToFloatBits .f32 X .f64 = some r) (w : World) : (convert 32 23 (.float .f32 X)).run Tryz.prog w = .ok (.float .f64 r) w :=
  run_convert_float_float w _ _ _ _ _ _ (by kernel_rfl) (by kernel_rfl) h
theorem nan_form (a b : Nat) (ha : a < 2) (hb : b < 2 ^ 23 - 1) : a * 2 ^ 31 + 0x7f800000 + 1 + b < 4294967296 ∧ 2139095040 < (a * 2 ^ 31 + 0x7f800000 + 1 + b) % 2147483648 := by
  obtain h | h : a = 0 ∨ a = 1 := by omega
  all_goals (subst h; omega)
theorem nan_form64 (a b : Nat) (ha : a < 2) (hb : b < 2 ^ 52 - 1) : a * 2 ^ 63 + 0x7ff0000000000000 + 1 + b < 18446744073709551616 ∧ 9218868437227405312 < (a * 2 ^ 63 + 0x7ff0000000000000 + 1 + b) % 9223372036854775808 := by
  obtain h | h : a = 0 ∨ a = 1 := by omega
  all_goals (subst h; omega)
theorem narrow_nan_run (X : Nat) (h : 9218868437227405312 < X % 9223372036854775808) : ∃ f : World → Nat, (∀ w, f w < 4294967296 ∧ 2139095040 < f w % 2147483648) ∧ ∀ w, (convert 23 32 (.float .f64 X)).run Tryz.prog w = .ok (.float .f32 (f w)) w.drew := by
  obtain ⟨s, t, e⟩ := read_nan X h
  refine ⟨fun w => (Question.nanConv .f32 X).cut (w.tape w.drawn (Question.nanConv .f32 X)), fun w => ?_, fun w => ?_⟩
  · show (_ % 2) * 2 ^ 31 + 0x7f800000 + 1 + (_ / 2) % (2 ^ 23 - 1) < 4294967296 ∧ 2139095040 < ((_ % 2) * 2 ^ 31 + 0x7f800000 + 1 + (_ / 2) % (2 ^ 23 - 1)) % 2147483648
    exact nan_form _ _ (Nat.mod_lt _ (by decide)) (Nat.mod_lt _ (by decide))
  · have hd : FloatKind.f64.decode X = .nan s t := e
    simp [convert, run_underlying (show Tryz.prog.underlying 23 = some (.float .f64) by kernel_rfl), run_underlying (show Tryz.prog.underlying 32 = some (.float .f32) by kernel_rfl), Conv.floatToFloat, hd, Question.forced]
theorem wide_nan_run (X : Nat) (h : 2139095040 < X % 2147483648) : ∃ f : World → Nat, (∀ w, f w < 18446744073709551616 ∧ 9218868437227405312 < f w % 9223372036854775808) ∧ ∀ w, (convert 32 23 (.float .f32 X)).run Tryz.prog w = .ok (.float .f64 (f w)) w.drew := by
  obtain ⟨s, t, e⟩ := read_nan32 X h
  refine ⟨fun w => (Question.nanConv .f64 X).cut (w.tape w.drawn (Question.nanConv .f64 X)), fun w => ?_, fun w => ?_⟩
  · show (_ % 2) * 2 ^ 63 + 0x7ff0000000000000 + 1 + (_ / 2) % (2 ^ 52 - 1) < 18446744073709551616 ∧ 9218868437227405312 < ((_ % 2) * 2 ^ 63 + 0x7ff0000000000000 + 1 + (_ / 2) % (2 ^ 52 - 1)) % 9223372036854775808
    exact nan_form64 _ _ (Nat.mod_lt _ (by decide)) (Nat.mod_lt _ (by decide))
  · have hd : FloatKind.f32.decode X = .nan s t := e
    simp [convert, run_underlying (show Tryz.prog.underlying 23 = some (.float .f64) by kernel_rfl), run_underlying (show Tryz.prog.underlying 32 = some (.float .f32) by kernel_rfl), Conv.floatToFloat, hd, Question.forced]

set_option maxHeartbeats 400000 in
theorem narrow_core (x X r : Nat) (mode Y : Int) (w : World) (hT : Tab w) (hs : 1 < w.heap.size) (hr : r < 4294967296)
    (hrs : ∀ w, Tab w → 1 < w.heap.size → Calls Tryz.prog 131 #[.float .f64 x, .int .i64 0, .agg #[.int .i64 24, .int .i64 (-126), .int .i64 127], .int .i64 mode] w fun r w' => r = .returned (.tuple #[.float .f64 X, .int .i64 Y]) ∧ Below w.heap.size w w')
    (hc : ∀ w : World, (convert 23 32 (.float .f64 X)).run Tryz.prog w = .ok (.float .f32 r) w) :
    Calls Tryz.prog 91 #[.float .f64 x, .int .i64 mode] w fun e w' => e = .returned (.tuple #[.float .f32 (canonOf32 r), .int .i64 Y]) ∧ Below w.heap.size w w' := by
  have HRS := hid hrs
  have HR := hid hr
  clear hrs hr
  go_enter Tryz.func91, Tryz.ntmps91
  go_wp2_with fail
  refine (binary32_any _).mono ?_
  rintro e w1 ⟨rfl, hb⟩
  go_wp2_with fail
  refine (HRS.out _ (hT.below hs hb) (Nat.lt_of_lt_of_le hs hb.size)).mono ?_
  rintro e w2 ⟨rfl, hb2⟩
  go_wp2_with fail
  refine (Canon_any32 r _ HR.out).mono ?_
  rintro e w3 ⟨rfl, hb3⟩
  go_wp2
  go_ret2
  exact ⟨rfl, bl_then (bl_then hb hb2) hb3⟩
set_option maxHeartbeats 400000 in
theorem narrow_core_nan (x X : Nat) (mode Y : Int) (w : World) (hT : Tab w) (hs : 1 < w.heap.size) (hX : 9218868437227405312 < X % 9223372036854775808)
    (hrs : ∀ w, Tab w → 1 < w.heap.size → Calls Tryz.prog 131 #[.float .f64 x, .int .i64 0, .agg #[.int .i64 24, .int .i64 (-126), .int .i64 127], .int .i64 mode] w fun r w' => r = .returned (.tuple #[.float .f64 X, .int .i64 Y]) ∧ Below w.heap.size w w') :
    Calls Tryz.prog 91 #[.float .f64 x, .int .i64 mode] w fun e w' => e = .returned (.tuple #[.float .f32 2143289344, .int .i64 Y]) ∧ Below w.heap.size w w' := by
  obtain ⟨f, hf, hc⟩ := narrow_nan_run X hX
  have HRS := hid hrs
  have HF := hid hf
  clear hrs hf hX
  go_enter Tryz.func91, Tryz.ntmps91
  go_wp2_with fail
  refine (binary32_any _).mono ?_
  rintro e w1 ⟨rfl, hb⟩
  go_wp2_with fail
  refine (HRS.out _ (hT.below hs hb) (Nat.lt_of_lt_of_le hs hb.size)).mono ?_
  rintro e w2 ⟨rfl, hb2⟩
  go_wp2_with fail
  refine (Canon_any32 (f w2) _ (HF.out w2).1).mono ?_
  rintro e w3 ⟨rfl, hb3⟩
  have hcn : canonOf32 (f w2) = 2143289344 := by unfold canonOf32; rw [if_pos (HF.out w2).2]
  rw [hcn]
  go_wp2
  go_ret2
  exact ⟨rfl, bl_then (bl_then hb hb2) ⟨hb3.os, hb3.tape, hb3.output, hb3.size, hb3.block⟩⟩
/-- The single that a number is rounded to, and the flags. -/
def nMag (m : Nat) (e mode : Int) (neg : Bool) : Nat := @ite Nat (rOver 24 (-126) 127 m e mode neg) (rOverD 24 (-126) 127 m e mode neg) (if growsOf mode neg true 3 = true then 2139095040 else mag32 16777215 104) (mag32 (rSteps 24 (-126) m e mode neg) (rUnit 24 (-126) m e))
theorem mag32_le (s : Nat) (u : Int) (hs : s ≤ 16777216) (hu : -149 ≤ u) (ht : u + (bitLen s : Int) - 1 ≤ 127) : mag32 s u < 2139095040 := by
  by_cases h0 : s = 0
  · unfold mag32; rw [if_pos h0]; decide
  · exact (mag32_val s u h0 hs hu ht).1
theorem steps32 (m : Nat) (e mode : Int) (neg : Bool) (h : ¬ rOver 24 (-126) 127 m e mode neg) : rSteps 24 (-126) m e mode neg ≤ 16777216 ∧ -149 ≤ rUnit 24 (-126) m e ∧ rUnit 24 (-126) m e + (bitLen (rSteps 24 (-126) m e mode neg) : Int) - 1 ≤ 127 := by
  have h1 := rSteps_le 24 (-126) m e mode neg 24 rfl
  unfold rOver at h
  exact ⟨h1, by unfold rUnit; omega, by omega⟩
theorem big32_len : bitLen 16777215 = 24 := by decide +kernel
theorem n_conv (m : Nat) (e mode : Int) (neg : Bool) : floatToFloatBits .f64 (signN neg (rMag 24 (-126) 127 m e mode neg)) .f32 = some (signN32 neg (nMag m e mode neg)) ∧ nMag m e mode neg ≤ 2139095040 := by
  unfold rMag nMag
  by_cases h : rOver 24 (-126) 127 m e mode neg
  · rw [if_pos h, if_pos h]
    have hbig : bigM 24 127 mode neg = if growsOf mode neg true 3 = true then 9218868437227405312 else wMag 16777215 104 := rfl
    rw [hbig]
    by_cases g : growsOf mode neg true 3 = true
    · rw [if_pos g, if_pos g]; exact ⟨narrow_inf neg, by decide⟩
    · rw [if_neg g, if_neg g]
      exact ⟨narrow_steps neg 16777215 104 (by decide) (by decide) (by rw [big32_len]; decide), Nat.le_of_lt (mag32_le _ _ (by decide) (by decide) (by rw [big32_len]; decide))⟩
  · rw [if_neg h, if_neg h]
    obtain ⟨a, b, c⟩ := steps32 m e mode neg h
    exact ⟨narrow_steps neg _ _ a b c, Nat.le_of_lt (mag32_le _ _ a b c)⟩
def narrowOf (x : Nat) (mode : Int) : Nat :=
  if 9218868437227405312 < x % 9223372036854775808 then 2143289344 else if x % 9223372036854775808 = 9218868437227405312 then signN32 (decide (9223372036854775808 ≤ x)) 2139095040
  else if x % 9223372036854775808 = 0 then signN32 (decide (9223372036854775808 ≤ x)) 0 else signN32 (decide (9223372036854775808 ≤ x)) (nMag (pMant x) (pExp x) mode (decide (9223372036854775808 ≤ x)))
def narrowFl (x : Nat) (mode : Int) : Int :=
  if 9218868437227405312 ≤ x % 9223372036854775808 ∨ x % 9223372036854775808 = 0 then 0 else rFlag 24 (-126) 127 (pMant x) (pExp x) mode (decide (9223372036854775808 ≤ x))
theorem canon_sign32 (neg : Bool) (r : Nat) (h : r ≤ 2139095040) : canonOf32 (signN32 neg r) = signN32 neg r := by
  obtain ⟨a, _, _⟩ := signN_mod32 neg r (by omega)
  unfold canonOf32; rw [a, if_neg (by omega)]
theorem sign_of (x : Nat) (hx : x < 18446744073709551616) : x = signN (decide (9223372036854775808 ≤ x)) (x % 9223372036854775808) := by
  unfold signN
  by_cases h : 9223372036854775808 ≤ x
  · rw [decide_eq_true h, if_pos rfl]; omega
  · rw [decide_eq_false h, if_neg (by decide)]; omega
theorem exp_inf (x : Nat) (h : 9218868437227405312 ≤ x % 9223372036854775808) : pErr x ≠ 0 := by
  have he : expOf x = 2047 := by
    unfold expOf canonOf
    split <;> omega
  unfold pErr; rw [if_pos he]; decide
theorem clamp_zero : clampK 0 = 0 := by decide
theorem narrow_any (x : Nat) (mode : Int) (w : World) (hx : x < 18446744073709551616) (hT : Tab w) (hs : 1 < w.heap.size) :
    Calls Tryz.prog 91 #[.float .f64 x, .int .i64 mode] w fun e w' => e = .returned (.tuple #[.float .f32 (narrowOf x mode), .int .i64 (narrowFl x mode)]) ∧ Below w.heap.size w w' := by
  unfold narrowOf narrowFl
  by_cases hn : 9218868437227405312 < x % 9223372036854775808
  · rw [if_pos hn, if_pos (Or.inl (Nat.le_of_lt hn))]
    have hc : canonOf x = 9221120237041090561 := by unfold canonOf; rw [if_pos hn]
    refine narrow_core_nan x 9221120237041090561 mode 0 w hT hs (by decide) (fun w hT hs => ?_)
    rw [← hc]
    exact rscale32_plain x 0 mode w hx (Or.inl (exp_inf x (Nat.le_of_lt hn))) hT hs
  · rw [if_neg hn]
    have hc : canonOf x = x := by unfold canonOf; rw [if_neg hn]
    by_cases hi : x % 9223372036854775808 = 9218868437227405312
    · rw [if_pos hi, if_pos (Or.inl (Nat.le_of_eq hi.symm))]
      have hx2 := sign_of x hx
      rw [hi] at hx2
      rw [← canon_sign32 _ _ (Nat.le_refl 2139095040)]
      refine narrow_core x x _ mode 0 w hT hs (signN_mod32 _ _ (by decide)).2.2 (fun w hT hs => ?_) (fun w => conv_run _ _ ?_ w)
      · have := rscale32_plain x 0 mode w hx (Or.inl (exp_inf x (Nat.le_of_eq hi.symm))) hT hs
        rw [hc] at this
        exact this
      · have := narrow_inf (decide (9223372036854775808 ≤ x))
        rw [← hx2] at this
        exact this
    · rw [if_neg hi]
      have hf : x % 9223372036854775808 < 9218868437227405312 := by omega
      obtain ⟨v1, v2, v3, v4, v5⟩ := parts_val x hf
      have hE : pErr x = 0 := by unfold pErr; rw [if_neg v1]
      by_cases h0 : x % 9223372036854775808 = 0
      · rw [if_pos h0, if_pos (Or.inr h0)]
        have hx2 := sign_of x hx
        rw [h0] at hx2
        have hm0 : pMant x = 0 := by unfold pMant; rw [if_neg v1, v4.2 h0]; decide
        rw [← canon_sign32 _ 0 (by decide)]
        refine narrow_core x x _ mode 0 w hT hs (signN_mod32 _ _ (by decide)).2.2 (fun w hT hs => ?_) (fun w => conv_run _ _ ?_ w)
        · have := rscale32_plain x 0 mode w hx (Or.inr hm0) hT hs
          rw [hc] at this
          exact this
        · have := narrow_conv (decide (9223372036854775808 ≤ x)) 0 0 (by decide) (by decide) (by rw [nv_zero, nv_zero32, Nat.zero_mul])
          rw [← hx2] at this
          exact this
      · rw [if_neg h0, if_neg (by omega)]
        obtain ⟨p1, p2, p3, p4, p5, p6⟩ := v5 (fun c => h0 (v4.1 c))
        have hN : pNeg x = decide (9223372036854775808 ≤ x) := by unfold pNeg; rw [if_neg v1, v2]
        obtain ⟨q1, q2⟩ := n_conv (pMant x) (pExp x) mode (decide (9223372036854775808 ≤ x))
        rw [← canon_sign32 _ _ q2]
        refine narrow_core x _ _ mode _ w hT hs (signN_mod32 _ _ (by omega)).2.2 (fun w hT hs => ?_) (fun w => conv_run _ _ q1 w)
        have := rscale32_any x 0 mode w hx hE p1 (by omega) (by have := bitLen_pos p1; omega) p6 hT hs
        rw [clamp_zero, Int.add_zero, hN] at this
        exact this
end Go.Proofs.YtpgcelbgmpfliaaGreatDoor
