
/- What convert's round, beyond, roundScaled do, for both formats. -/
import Derived.Test.YtpgcelbgmpfliaaGreatDoorV11
namespace Go.Proofs.YtpgcelbgmpfliaaGreatDoor
open Go.RowKit Go.IntWalk

theorem f64fromI' (n : Int) (w : World) : (callFunc 52 #[.int .u64 n]).run Tryz.prog w = .ok (.value (.float .f64 n.toNat)) w := by
  rw [run_callFunc_extern Tryz.func52 (by kernel_rfl) (by kernel_rfl) (by kernel_rfl) (e := Extern.MathFloatBits.float64frombits) (by kernel_rfl)]; rfl
set_option maxHeartbeats 400000 in
theorem inf_one (w : World) :
    Calls Tryz.prog 151 #[.int .i64 1] w fun r w' => r = .returned (.float .f64 9218868437227405312) ∧ w' = w := by
  have h2 := f64fromI'
  go_enter Tryz.func151, Tryz.ntmps151
  go_wp2
  go_ret
  exact ⟨rfl, rfl⟩
theorem len_l (x l : Nat) (w : World) (hx : x < 18446744073709551616) (h : bitLen x = l) :
    Calls Tryz.prog 123 #[.int .u64 x] w fun r w' => r = .returned (.int .i64 l) ∧ w' = w := by
  rw [← h]; exact len_any x w hx
theorem copy_w (a : Nat) (neg : Bool) (r : Nat) (ha : a < 9223372036854775808) (hr : r < 9223372036854775808) : (bits .or .u64 (bits .andNot .u64 (a : Int) 9223372036854775808) (bits .and .u64 (signN neg r : Int) 9223372036854775808)).toNat = signN neg a := by
  have hl : signN neg r < 18446744073709551616 := by unfold signN; split <;> omega
  rw [andNot_sign a (by omega), and_sign _ hl, Nat.mod_eq_of_lt ha]
  cases neg
  · rw [signN_false, signN_false, if_neg (by omega)]
    have := u64_or_nat a 0 (by omega) (by omega)
    rw [Nat.or_zero] at this
    have e : ((0 : Nat) : Int) = 0 := rfl
    rw [e] at this ⊢
    rw [this]; omega
  · have e : signN true r = r + 9223372036854775808 := rfl
    rw [e, if_pos (by omega)]
    have := or_sign a ha
    have e2 : ((9223372036854775808 : Nat) : Int) = 9223372036854775808 := rfl
    rw [e2, this]; omega
set_option maxHeartbeats 400000 in
theorem copysign_any (a : Nat) (neg : Bool) (r : Nat) (w : World) (ha : a < 9223372036854775808) (hr : r < 9223372036854775808) :
    Calls Tryz.prog 144 #[.float .f64 a, .float .f64 (signN neg r)] w fun e w' => e = .returned (.float .f64 (signN neg a)) ∧ w' = w := by
  have h1 := f64bits
  have h2 := f64fromI'
  have H := hid (copy_w a neg r ha hr)
  obtain ⟨x, hx⟩ : ∃ x, Hid (signN neg r = x) := ⟨_, rfl⟩
  rw [hx.out] at H ⊢
  have HA := hid ha
  have HRR := hid hr
  clear ha hr
  go_enter Tryz.func144, Tryz.ntmps144
  go_wp2
  go_ret
  exact ⟨ret_f H.out, rfl⟩
set_option maxHeartbeats 400000 in
theorem binary32_any (w : World) :
    Calls Tryz.prog 41 #[] w fun e w' => e = .returned (.agg #[.int .i64 24, .int .i64 (-126), .int .i64 127]) ∧ Below w.heap.size w w' := by
  go_enter Tryz.func41, Tryz.ntmps41
  go_wp2
  exact bodyPost_ret (v := .agg #[.int .i64 24, .int .i64 (-126), .int .i64 127]) (by simp [results, Tryz.results41, go_sem]) rfl ⟨rfl, (Below.refl _ _).alloc (Nat.le_refl _) _⟩
theorem big32_word (neg : Bool) : wWord neg 16777215 104 = signN neg (wMag 16777215 104) ∧ wMag 16777215 104 < 9218868437227405312 := by
  have hb : bitLen 16777215 = 24 := by decide +kernel
  have h := good_word 16777215 104 (by decide) (by decide) (by rw [hb]; decide)
  refine ⟨by unfold wWord; rw [if_neg h], (good_val 16777215 104 (by decide) (by decide) (by decide) (by rw [hb]; decide)).1⟩
theorem Of_big32 (neg : Bool) (w : World) (hT : Tab w) (hs : 1 < w.heap.size) :
    Calls Tryz.prog 51 #[.agg #[.bool neg, .int .u64 16777215, .int .i64 104]] w fun r w' => r = .returned (.tuple #[.float .f64 (signN neg (wMag 16777215 104)), .int .i64 0]) ∧ Below w.heap.size w w' := by
  have hb : bitLen 16777215 = 24 := by decide +kernel
  have h := good_word 16777215 104 (by decide) (by decide) (by rw [hb]; decide)
  have he : wErr 16777215 104 = 0 := by unfold wErr; rw [if_neg h]
  have := Of_any neg 16777215 104 w (by decide) hT hs
  rw [(big32_word neg).1, he] at this
  exact this
set_option maxHeartbeats 400000 in
theorem beyond32_any (neg : Bool) (mode : Int) (w : World) (hT : Tab w) (hs : 1 < w.heap.size) :
    Calls Tryz.prog 124 #[.bool neg, .agg #[.int .i64 24, .int .i64 (-126), .int .i64 127], .int .i64 mode] w fun r w' => r = .returned (.float .f64 (signN neg (bigM 24 127 mode neg))) ∧ Below w.heap.size w w' := by
  have hM := (big32_word neg).2
  have hbig : bigM 24 127 mode neg = if growsOf mode neg true 3 = true then 9218868437227405312 else wMag 16777215 104 := rfl
  rw [hbig]
  have HO := hid (Of_big32 neg)
  obtain ⟨M, HMM⟩ : ∃ M, Hid (wMag 16777215 104 = M) := ⟨_, rfl⟩
  rw [HMM.out] at hM HO ⊢
  have HM := hid hM
  obtain ⟨G, hG⟩ : ∃ G, Hid (growsOf mode neg true 3 = G) := ⟨_, rfl⟩
  rw [hG.out]
  clear hbig hM
  go_enter Tryz.func124, Tryz.ntmps124
  go_wp2_with fail
  go_region_held3 (fun w' => w'.cell? ⟨w.heap.size, 0, none⟩ = some (.int .i64 24) ∧ w'.cell? ⟨w.heap.size, 1, none⟩ = some (.int .i64 (-126)) ∧ w'.cell? ⟨w.heap.size, 2, none⟩ = some (.int .i64 127)) (go_keep) (fail)
  go_wp2_with fail
  refine (HO.out _ ?_ ?_).mono ?_
  · refine hT.below hs ?_
    repeat (first | exact Below.refl _ _ | refine bl_al ?_ _ | refine bl_drewN _ ?_ | refine Below.drew ?_ | refine Below.setCell ?_ (by simp) _)
  · first | (simp; done) | (simp; omega)
  rintro r w1 ⟨rfl, hb⟩
  have hbb : Hid (Below w.heap.size w w1) := by
    refine bl_then ?_ hb
    repeat (first | exact Below.refl _ _ | refine bl_al ?_ _ | refine bl_drewN _ ?_ | refine Below.drew ?_ | refine Below.setCell ?_ (by simp) _)
  clear hb
  go_wp2_with fail
  refine (grows_any mode neg true 3 _ (by decide)).mono ?_
  rintro r w2 ⟨rfl, rfl⟩
  rw [hG.out]
  cases G
  · go_wp2
    go_ret
    exact ⟨rfl, hbb.out⟩
  · go_wp2_with fail
    refine (inf_one _).mono ?_
    rintro r w3 ⟨rfl, rfl⟩
    go_wp2_with fail
    refine (copysign_any 9218868437227405312 neg M _ (by decide) (by have := HM.out; omega)).mono ?_
    rintro r w4 ⟨rfl, rfl⟩
    go_wp2
    go_ret
    exact ⟨rfl, hbb.out⟩

theorem Of_good32 (neg : Bool) (s : Nat) (u : Int) (w : World) (h1 : s ≤ 9007199254740992) (h2 : -1074 ≤ u) (h3 : u + (bitLen s : Int) - 1 ≤ 1023) (hT : Tab w) (hs : 1 < w.heap.size) :
    Calls Tryz.prog 51 #[.agg #[.bool neg, .int .u64 s, .int .i64 u]] w fun r w' => r = .returned (.tuple #[.float .f64 (signN neg (wMag s u)), .int .i64 0]) ∧ Below w.heap.size w w' := by
  have h := good_word s u h1 h2 h3
  have he : wErr s u = 0 := by unfold wErr; rw [if_neg h]
  have hw : wWord neg s u = signN neg (wMag s u) := by unfold wWord; rw [if_neg h]
  have := Of_any neg s u w (by omega) hT hs
  rw [hw, he] at this
  exact this
set_option maxHeartbeats 400000 in
theorem round32_any (neg : Bool) (m : Nat) (e mode : Int) (w : World) (hm : m < 18446744073709551616) (h0 : m ≠ 0) (h1 : -20000 ≤ e) (h2 : e ≤ 20000) (hT : Tab w) (hs : 1 < w.heap.size) :
    Calls Tryz.prog 82 #[.agg #[.bool neg, .int .u64 m, .int .i64 e], .agg #[.int .i64 24, .int .i64 (-126), .int .i64 127], .int .i64 mode] w fun r w' => r = .returned (.tuple #[.float .f64 (signN neg (rMag 24 (-126) 127 m e mode neg)), .int .i64 (rFlag 24 (-126) 127 m e mode neg)]) ∧ Below w.heap.size w w' := by
  have hml := bitLen_le m 64 (by simpa using hm)
  have hml1 := bitLen_pos h0
  obtain ⟨l, hl⟩ : ∃ l, Hid (bitLen m = l) := ⟨_, rfl⟩
  rw [hl.out] at hml hml1
  obtain ⟨T, hTT⟩ : ∃ T, Hid (rTop m e = T) := ⟨_, rfl⟩
  have hT1 : e + (l : Int) - 1 = T := by have := hTT.out; unfold rTop at this; rw [hl.out] at this; exact this
  obtain ⟨u, hu⟩ : ∃ u, Hid (rUnit 24 (-126) m e = u) := ⟨_, rfl⟩
  have hu1 : max T (-126) - 24 + 1 = u := by have := hu.out; unfold rUnit at this; rw [hTT.out] at this; exact this
  have hub1 : -30000 ≤ u := by omega
  have hub2 : u ≤ 30000 := by omega
  have hsl := rSteps_le 24 (-126) m e mode neg 24 rfl
  have hcq : cutQ m (u - e) < 9223372036854775809 := by
    have := cutQ_lt m e u 24 (by rw [hl.out]; omega)
    have h2 : (2 : Nat) ^ 24 ≤ 2 ^ 53 := by decide
    have h3 : (2 : Nat) ^ 53 = 9007199254740992 := by decide
    omega
  have hso : stepQ m (u - e) mode neg = rSteps 24 (-126) m e mode neg := by unfold rSteps; rw [hu.out]
  have HSO := hid (fun (w : World) => stepsOf_any neg m e u mode w hm h0 (by omega) (by omega) (by omega) (by omega) hcq)
  have hcr : cutR m (rUnit 24 (-126) m e - e) = cutR m (u - e) := by rw [hu.out]
  obtain ⟨F, hF⟩ : ∃ F : Int, Hid ((if cutR m (u - e) = 0 then 0 else 1 : Int) = F) := ⟨_, rfl⟩
  have hF01 : F = 0 ∨ F = 1 := by have := hF.out; split at this <;> omega
  obtain ⟨s, hss⟩ : ∃ s, Hid (rSteps 24 (-126) m e mode neg = s) := ⟨_, rfl⟩
  rw [hso, hss.out] at HSO
  rw [hF.out] at HSO
  rw [hss.out] at hsl
  have hsl' : s ≤ 9007199254740992 := Nat.le_trans hsl (by decide)
  have hbl := bitLen_le s 64 (by have : (2 : Nat) ^ 64 = 18446744073709551616 := by decide
                                 omega)
  obtain ⟨b, hb'⟩ : ∃ b, Hid (bitLen s = b) := ⟨_, rfl⟩
  rw [hb'.out] at hbl
  have hmag : rMag 24 (-126) 127 m e mode neg = if 127 < u + (b : Int) - 1 then bigM 24 127 mode neg else wMag s u := by
    unfold rMag
    have ho : rOver 24 (-126) 127 m e mode neg ↔ 127 < u + (b : Int) - 1 := by unfold rOver; rw [hss.out, hu.out, hb'.out]
    by_cases c : rOver 24 (-126) 127 m e mode neg
    · rw [if_pos c, if_pos (ho.1 c)]
    · rw [if_neg c, if_neg (fun d => c (ho.2 d)), hss.out, hu.out]
  have hflag : rFlag 24 (-126) 127 m e mode neg = if 127 < u + (b : Int) - 1 then 5 else if F = 0 then 0 else if T < (-126) then 3 else 1 := by
    unfold rFlag
    have ho : rOver 24 (-126) 127 m e mode neg ↔ 127 < u + (b : Int) - 1 := by unfold rOver; rw [hss.out, hu.out, hb'.out]
    have hz : cutR m (rUnit 24 (-126) m e - e) = 0 ↔ F = 0 := by
      rw [hcr, ← hF.out]
      constructor
      · intro h; rw [if_pos h]
      · intro h
        apply Classical.byContradiction
        intro hc
        rw [if_neg hc] at h
        omega
    by_cases c : rOver 24 (-126) 127 m e mode neg
    · rw [if_pos c, if_pos (ho.1 c)]
    · rw [if_neg c, if_neg (fun d => c (ho.2 d)), hTT.out]
      by_cases d : F = 0
      · rw [if_pos (hz.2 d), if_pos d]
      · rw [if_neg (fun x => d (hz.1 x)), if_neg d]
  rw [hmag, hflag]
  have hu2 : -1074 ≤ u := by omega
  have HOF := hid (fun (w : World) (h : u + (b : Int) - 1 ≤ 1023) => Of_good32 neg s u w hsl' hu2 (by rw [hb'.out]; exact h))
  have HLS := hid (show s < 18446744073709551616 by omega)
  have HM := hid hm
  have HBB := hid hb'.out
  clear hmag hflag hso hcr hcq hsl hsl' hm h0 hml1
  have HF01 := hid hF01
  clear hF01
  have hT2 : IntKind.i64.wrap (IntKind.i64.wrap (e + (l : Int)) - 1) = T := by rw [IntWalk.i64_in (e + (l : Int)) (by omega), IntWalk.i64_in _ (by omega)]; exact hT1
  have hu3 : IntKind.i64.wrap (IntKind.i64.wrap (max T (-126) - 24) + 1) = u := by rw [IntWalk.i64_in (max T (-126) - 24) (by omega), IntWalk.i64_in _ (by omega)]; exact hu1
  go_enter Tryz.func82, Tryz.ntmps82
  go_wp2_with fail
  go_quiet (first | (go_at_call 123; exact Calls.quiet_of_same (len_l m l _ HM.out hl.out)))
  go_wp2_with fail
  refine (HSO.out _).mono ?_
  rintro r w1 ⟨rfl, hb⟩
  obtain ⟨hcl, hf⟩ := bcell hb
  have hz : w.heap.size + 1 < w1.heap.size := by have := hb.size; simp at this; omega
  have hcells : (w1.cell? ⟨w.heap.size, 0, none⟩ = some (.bool neg) ∧ w1.cell? ⟨w.heap.size + 1, 0, none⟩ = some (.int .i64 24) ∧ w1.cell? ⟨w.heap.size + 1, 1, none⟩ = some (.int .i64 (-126)) ∧ w1.cell? ⟨w.heap.size + 1, 2, none⟩ = some (.int .i64 127)) := by
    refine ⟨?_, ?_, ?_, ?_⟩ <;> (rw [hcl _ _ (by simp <;> omega)]; simp [go_sem])
  obtain ⟨c0, c1, c2, c3⟩ := hcells
  have hbb : Hid (Below w.heap.size w w1) := by
    refine bl_then ?_ hb
    repeat (first | exact Below.refl _ _ | refine bl_al ?_ _ | refine bl_drewN _ ?_ | refine Below.drew ?_ | refine Below.setCell ?_ (by simp) _)
  clear hcl hf hb
  go_wp2_with fail
  go_quiet (first | (go_at_call 123; exact Calls.quiet_of_same (len_l s b _ HLS.out hb'.out)))
  have h12 : bits .or .i64 1 2 = 3 := by decide +kernel
  by_cases hov : 127 < u + (b : Int) - 1
  · have HOV := hid hov
    go_wp2_with fail
    refine (beyond32_any neg mode _ (hT.below hs (bl_drewN _ hbb.out)) ?_).mono ?_
    · have := hbb.out.size; first | (simp; omega) | omega
    rintro r w2 ⟨rfl, hb2⟩
    go_wp2
    go_ret2
    exact ⟨(by first | rfl | (show Ending.returned (.tuple #[.float .f64 (signN neg (bigM 24 127 mode neg)), .int .i64 5]) = _; rw [if_pos HOV.out, if_pos HOV.out])), bl_then (bl_drewN _ hbb.out) hb2⟩
  · have HOV := hid hov
    have hov' : u + (b : Int) - 1 ≤ 127 := by omega
    have HH := hid (show u + (b : Int) - 1 ≤ 1023 by omega)
    clear hov
    rcases HF01.out with rfl | rfl
    · clear HF01
      go_wp2_with fail
      refine (HOF.out _ HH.out (hT.below hs (bl_drewN _ hbb.out)) ?_).mono ?_
      · have := hbb.out.size; first | (simp; omega) | omega
      rintro r w2 ⟨rfl, hb2⟩
      go_wp2
      go_ret2
      exact ⟨(by first | rfl | (show Ending.returned (.tuple #[.float .f64 (signN neg (wMag s u)), .int .i64 0]) = _; rw [if_neg HOV.out, if_neg HOV.out]; rfl)), bl_then (bl_drewN _ hbb.out) hb2⟩
    · clear HF01
      by_cases hTl : T < (-126)
      · have HTL := hid hTl
        go_wp2_with fail
        refine (HOF.out _ HH.out (hT.below hs (bl_drewN _ hbb.out)) ?_).mono ?_
        · have := hbb.out.size; first | (simp; omega) | omega
        rintro r w2 ⟨rfl, hb2⟩
        go_wp2
        go_ret2
        exact ⟨(by first | rfl | (show Ending.returned (.tuple #[.float .f64 (signN neg (wMag s u)), .int .i64 3]) = _; rw [if_neg HOV.out, if_neg HOV.out]; rw [if_neg (by decide), if_pos HTL.out])), bl_then (bl_drewN _ hbb.out) hb2⟩
      · have HTL := hid hTl
        have hTl' : (-126) ≤ T := by omega
        clear hTl
        go_wp2_with fail
        refine (HOF.out _ HH.out (hT.below hs (bl_drewN _ hbb.out)) ?_).mono ?_
        · have := hbb.out.size; first | (simp; omega) | omega
        rintro r w2 ⟨rfl, hb2⟩
        go_wp2
        go_ret2
        exact ⟨(by first | rfl | (show Ending.returned (.tuple #[.float .f64 (signN neg (wMag s u)), .int .i64 1]) = _; rw [if_neg HOV.out, if_neg HOV.out]; rw [if_neg (by decide), if_neg HTL.out])), bl_then (bl_drewN _ hbb.out) hb2⟩
set_option maxHeartbeats 400000 in
theorem binary64_any (w : World) :
    Calls Tryz.prog 35 #[] w fun e w' => e = .returned (.agg #[.int .i64 53, .int .i64 (-1022), .int .i64 1023]) ∧ Below w.heap.size w w' := by
  go_enter Tryz.func35, Tryz.ntmps35
  go_wp2
  exact bodyPost_ret (v := .agg #[.int .i64 53, .int .i64 (-1022), .int .i64 1023]) (by simp [results, Tryz.results35, go_sem]) rfl ⟨rfl, (Below.refl _ _).alloc (Nat.le_refl _) _⟩
theorem big64_word (neg : Bool) : wWord neg 9007199254740991 971 = signN neg (wMag 9007199254740991 971) ∧ wMag 9007199254740991 971 < 9218868437227405312 := by
  have hb : bitLen 9007199254740991 = 53 := by decide +kernel
  have h := good_word 9007199254740991 971 (by decide) (by decide) (by rw [hb]; decide)
  refine ⟨by unfold wWord; rw [if_neg h], (good_val 9007199254740991 971 (by decide) (by decide) (by decide) (by rw [hb]; decide)).1⟩
theorem Of_big64 (neg : Bool) (w : World) (hT : Tab w) (hs : 1 < w.heap.size) :
    Calls Tryz.prog 51 #[.agg #[.bool neg, .int .u64 9007199254740991, .int .i64 971]] w fun r w' => r = .returned (.tuple #[.float .f64 (signN neg (wMag 9007199254740991 971)), .int .i64 0]) ∧ Below w.heap.size w w' := by
  have hb : bitLen 9007199254740991 = 53 := by decide +kernel
  have h := good_word 9007199254740991 971 (by decide) (by decide) (by rw [hb]; decide)
  have he : wErr 9007199254740991 971 = 0 := by unfold wErr; rw [if_neg h]
  have := Of_any neg 9007199254740991 971 w (by decide) hT hs
  rw [(big64_word neg).1, he] at this
  exact this
set_option maxHeartbeats 400000 in
theorem beyond64_any (neg : Bool) (mode : Int) (w : World) (hT : Tab w) (hs : 1 < w.heap.size) :
    Calls Tryz.prog 124 #[.bool neg, .agg #[.int .i64 53, .int .i64 (-1022), .int .i64 1023], .int .i64 mode] w fun r w' => r = .returned (.float .f64 (signN neg (bigM 53 1023 mode neg))) ∧ Below w.heap.size w w' := by
  have hM := (big64_word neg).2
  have hbig : bigM 53 1023 mode neg = if growsOf mode neg true 3 = true then 9218868437227405312 else wMag 9007199254740991 971 := rfl
  rw [hbig]
  have HO := hid (Of_big64 neg)
  obtain ⟨M, HMM⟩ : ∃ M, Hid (wMag 9007199254740991 971 = M) := ⟨_, rfl⟩
  rw [HMM.out] at hM HO ⊢
  have HM := hid hM
  obtain ⟨G, hG⟩ : ∃ G, Hid (growsOf mode neg true 3 = G) := ⟨_, rfl⟩
  rw [hG.out]
  clear hbig hM
  go_enter Tryz.func124, Tryz.ntmps124
  go_wp2_with fail
  go_region_held3 (fun w' => w'.cell? ⟨w.heap.size, 0, none⟩ = some (.int .i64 53) ∧ w'.cell? ⟨w.heap.size, 1, none⟩ = some (.int .i64 (-1022)) ∧ w'.cell? ⟨w.heap.size, 2, none⟩ = some (.int .i64 1023)) (go_keep) (fail)
  go_wp2_with fail
  refine (HO.out _ ?_ ?_).mono ?_
  · refine hT.below hs ?_
    repeat (first | exact Below.refl _ _ | refine bl_al ?_ _ | refine bl_drewN _ ?_ | refine Below.drew ?_ | refine Below.setCell ?_ (by simp) _)
  · first | (simp; done) | (simp; omega)
  rintro r w1 ⟨rfl, hb⟩
  have hbb : Hid (Below w.heap.size w w1) := by
    refine bl_then ?_ hb
    repeat (first | exact Below.refl _ _ | refine bl_al ?_ _ | refine bl_drewN _ ?_ | refine Below.drew ?_ | refine Below.setCell ?_ (by simp) _)
  clear hb
  go_wp2_with fail
  refine (grows_any mode neg true 3 _ (by decide)).mono ?_
  rintro r w2 ⟨rfl, rfl⟩
  rw [hG.out]
  cases G
  · go_wp2
    go_ret
    exact ⟨rfl, hbb.out⟩
  · go_wp2_with fail
    refine (inf_one _).mono ?_
    rintro r w3 ⟨rfl, rfl⟩
    go_wp2_with fail
    refine (copysign_any 9218868437227405312 neg M _ (by decide) (by have := HM.out; omega)).mono ?_
    rintro r w4 ⟨rfl, rfl⟩
    go_wp2
    go_ret
    exact ⟨rfl, hbb.out⟩

theorem Of_good64 (neg : Bool) (s : Nat) (u : Int) (w : World) (h1 : s ≤ 9007199254740992) (h2 : -1074 ≤ u) (h3 : u + (bitLen s : Int) - 1 ≤ 1023) (hT : Tab w) (hs : 1 < w.heap.size) :
    Calls Tryz.prog 51 #[.agg #[.bool neg, .int .u64 s, .int .i64 u]] w fun r w' => r = .returned (.tuple #[.float .f64 (signN neg (wMag s u)), .int .i64 0]) ∧ Below w.heap.size w w' := by
  have h := good_word s u h1 h2 h3
  have he : wErr s u = 0 := by unfold wErr; rw [if_neg h]
  have hw : wWord neg s u = signN neg (wMag s u) := by unfold wWord; rw [if_neg h]
  have := Of_any neg s u w (by omega) hT hs
  rw [hw, he] at this
  exact this
set_option maxHeartbeats 400000 in
theorem round64_any (neg : Bool) (m : Nat) (e mode : Int) (w : World) (hm : m < 18446744073709551616) (h0 : m ≠ 0) (h1 : -20000 ≤ e) (h2 : e ≤ 20000) (hT : Tab w) (hs : 1 < w.heap.size) :
    Calls Tryz.prog 82 #[.agg #[.bool neg, .int .u64 m, .int .i64 e], .agg #[.int .i64 53, .int .i64 (-1022), .int .i64 1023], .int .i64 mode] w fun r w' => r = .returned (.tuple #[.float .f64 (signN neg (rMag 53 (-1022) 1023 m e mode neg)), .int .i64 (rFlag 53 (-1022) 1023 m e mode neg)]) ∧ Below w.heap.size w w' := by
  have hml := bitLen_le m 64 (by simpa using hm)
  have hml1 := bitLen_pos h0
  obtain ⟨l, hl⟩ : ∃ l, Hid (bitLen m = l) := ⟨_, rfl⟩
  rw [hl.out] at hml hml1
  obtain ⟨T, hTT⟩ : ∃ T, Hid (rTop m e = T) := ⟨_, rfl⟩
  have hT1 : e + (l : Int) - 1 = T := by have := hTT.out; unfold rTop at this; rw [hl.out] at this; exact this
  obtain ⟨u, hu⟩ : ∃ u, Hid (rUnit 53 (-1022) m e = u) := ⟨_, rfl⟩
  have hu1 : max T (-1022) - 53 + 1 = u := by have := hu.out; unfold rUnit at this; rw [hTT.out] at this; exact this
  have hub1 : -30000 ≤ u := by omega
  have hub2 : u ≤ 30000 := by omega
  have hsl := rSteps_le 53 (-1022) m e mode neg 53 rfl
  have hcq : cutQ m (u - e) < 9223372036854775809 := by
    have := cutQ_lt m e u 53 (by rw [hl.out]; omega)
    have h2 : (2 : Nat) ^ 53 ≤ 2 ^ 53 := by decide
    have h3 : (2 : Nat) ^ 53 = 9007199254740992 := by decide
    omega
  have hso : stepQ m (u - e) mode neg = rSteps 53 (-1022) m e mode neg := by unfold rSteps; rw [hu.out]
  have HSO := hid (fun (w : World) => stepsOf_any neg m e u mode w hm h0 (by omega) (by omega) (by omega) (by omega) hcq)
  have hcr : cutR m (rUnit 53 (-1022) m e - e) = cutR m (u - e) := by rw [hu.out]
  obtain ⟨F, hF⟩ : ∃ F : Int, Hid ((if cutR m (u - e) = 0 then 0 else 1 : Int) = F) := ⟨_, rfl⟩
  have hF01 : F = 0 ∨ F = 1 := by have := hF.out; split at this <;> omega
  obtain ⟨s, hss⟩ : ∃ s, Hid (rSteps 53 (-1022) m e mode neg = s) := ⟨_, rfl⟩
  rw [hso, hss.out] at HSO
  rw [hF.out] at HSO
  rw [hss.out] at hsl
  have hsl' : s ≤ 9007199254740992 := Nat.le_trans hsl (by decide)
  have hbl := bitLen_le s 64 (by have : (2 : Nat) ^ 64 = 18446744073709551616 := by decide
                                 omega)
  obtain ⟨b, hb'⟩ : ∃ b, Hid (bitLen s = b) := ⟨_, rfl⟩
  rw [hb'.out] at hbl
  have hmag : rMag 53 (-1022) 1023 m e mode neg = if 1023 < u + (b : Int) - 1 then bigM 53 1023 mode neg else wMag s u := by
    unfold rMag
    have ho : rOver 53 (-1022) 1023 m e mode neg ↔ 1023 < u + (b : Int) - 1 := by unfold rOver; rw [hss.out, hu.out, hb'.out]
    by_cases c : rOver 53 (-1022) 1023 m e mode neg
    · rw [if_pos c, if_pos (ho.1 c)]
    · rw [if_neg c, if_neg (fun d => c (ho.2 d)), hss.out, hu.out]
  have hflag : rFlag 53 (-1022) 1023 m e mode neg = if 1023 < u + (b : Int) - 1 then 5 else if F = 0 then 0 else if T < (-1022) then 3 else 1 := by
    unfold rFlag
    have ho : rOver 53 (-1022) 1023 m e mode neg ↔ 1023 < u + (b : Int) - 1 := by unfold rOver; rw [hss.out, hu.out, hb'.out]
    have hz : cutR m (rUnit 53 (-1022) m e - e) = 0 ↔ F = 0 := by
      rw [hcr, ← hF.out]
      constructor
      · intro h; rw [if_pos h]
      · intro h
        apply Classical.byContradiction
        intro hc
        rw [if_neg hc] at h
        omega
    by_cases c : rOver 53 (-1022) 1023 m e mode neg
    · rw [if_pos c, if_pos (ho.1 c)]
    · rw [if_neg c, if_neg (fun d => c (ho.2 d)), hTT.out]
      by_cases d : F = 0
      · rw [if_pos (hz.2 d), if_pos d]
      · rw [if_neg (fun x => d (hz.1 x)), if_neg d]
  rw [hmag, hflag]
  have hu2 : -1074 ≤ u := by omega
  have HOF := hid (fun (w : World) (h : u + (b : Int) - 1 ≤ 1023) => Of_good64 neg s u w hsl' hu2 (by rw [hb'.out]; exact h))
  have HLS := hid (show s < 18446744073709551616 by omega)
  have HM := hid hm
  have HBB := hid hb'.out
  clear hmag hflag hso hcr hcq hsl hsl' hm h0 hml1
  have HF01 := hid hF01
  clear hF01
  have hT2 : IntKind.i64.wrap (IntKind.i64.wrap (e + (l : Int)) - 1) = T := by rw [IntWalk.i64_in (e + (l : Int)) (by omega), IntWalk.i64_in _ (by omega)]; exact hT1
  have hu3 : IntKind.i64.wrap (IntKind.i64.wrap (max T (-1022) - 53) + 1) = u := by rw [IntWalk.i64_in (max T (-1022) - 53) (by omega), IntWalk.i64_in _ (by omega)]; exact hu1
  go_enter Tryz.func82, Tryz.ntmps82
  go_wp2_with fail
  go_quiet (first | (go_at_call 123; exact Calls.quiet_of_same (len_l m l _ HM.out hl.out)))
  go_wp2_with fail
  refine (HSO.out _).mono ?_
  rintro r w1 ⟨rfl, hb⟩
  obtain ⟨hcl, hf⟩ := bcell hb
  have hz : w.heap.size + 1 < w1.heap.size := by have := hb.size; simp at this; omega
  have hcells : (w1.cell? ⟨w.heap.size, 0, none⟩ = some (.bool neg) ∧ w1.cell? ⟨w.heap.size + 1, 0, none⟩ = some (.int .i64 53) ∧ w1.cell? ⟨w.heap.size + 1, 1, none⟩ = some (.int .i64 (-1022)) ∧ w1.cell? ⟨w.heap.size + 1, 2, none⟩ = some (.int .i64 1023)) := by
    refine ⟨?_, ?_, ?_, ?_⟩ <;> (rw [hcl _ _ (by simp <;> omega)]; simp [go_sem])
  obtain ⟨c0, c1, c2, c3⟩ := hcells
  have hbb : Hid (Below w.heap.size w w1) := by
    refine bl_then ?_ hb
    repeat (first | exact Below.refl _ _ | refine bl_al ?_ _ | refine bl_drewN _ ?_ | refine Below.drew ?_ | refine Below.setCell ?_ (by simp) _)
  clear hcl hf hb
  go_wp2_with fail
  go_quiet (first | (go_at_call 123; exact Calls.quiet_of_same (len_l s b _ HLS.out hb'.out)))
  have h12 : bits .or .i64 1 2 = 3 := by decide +kernel
  by_cases hov : 1023 < u + (b : Int) - 1
  · have HOV := hid hov
    go_wp2_with fail
    refine (beyond64_any neg mode _ (hT.below hs (bl_drewN _ hbb.out)) ?_).mono ?_
    · have := hbb.out.size; first | (simp; omega) | omega
    rintro r w2 ⟨rfl, hb2⟩
    go_wp2
    go_ret2
    exact ⟨(by first | rfl | (show Ending.returned (.tuple #[.float .f64 (signN neg (bigM 53 1023 mode neg)), .int .i64 5]) = _; rw [if_pos HOV.out, if_pos HOV.out])), bl_then (bl_drewN _ hbb.out) hb2⟩
  · have HOV := hid hov
    have hov' : u + (b : Int) - 1 ≤ 1023 := by omega
    have HH := hid (show u + (b : Int) - 1 ≤ 1023 by omega)
    clear hov
    rcases HF01.out with rfl | rfl
    · clear HF01
      go_wp2_with fail
      refine (HOF.out _ HH.out (hT.below hs (bl_drewN _ hbb.out)) ?_).mono ?_
      · have := hbb.out.size; first | (simp; omega) | omega
      rintro r w2 ⟨rfl, hb2⟩
      go_wp2
      go_ret2
      exact ⟨(by first | rfl | (show Ending.returned (.tuple #[.float .f64 (signN neg (wMag s u)), .int .i64 0]) = _; rw [if_neg HOV.out, if_neg HOV.out]; rfl)), bl_then (bl_drewN _ hbb.out) hb2⟩
    · clear HF01
      by_cases hTl : T < (-1022)
      · have HTL := hid hTl
        go_wp2_with fail
        refine (HOF.out _ HH.out (hT.below hs (bl_drewN _ hbb.out)) ?_).mono ?_
        · have := hbb.out.size; first | (simp; omega) | omega
        rintro r w2 ⟨rfl, hb2⟩
        go_wp2
        go_ret2
        exact ⟨(by first | rfl | (show Ending.returned (.tuple #[.float .f64 (signN neg (wMag s u)), .int .i64 3]) = _; rw [if_neg HOV.out, if_neg HOV.out]; rw [if_neg (by decide), if_pos HTL.out])), bl_then (bl_drewN _ hbb.out) hb2⟩
      · have HTL := hid hTl
        have hTl' : (-1022) ≤ T := by omega
        clear hTl
        go_wp2_with fail
        refine (HOF.out _ HH.out (hT.below hs (bl_drewN _ hbb.out)) ?_).mono ?_
        · have := hbb.out.size; first | (simp; omega) | omega
        rintro r w2 ⟨rfl, hb2⟩
        go_wp2
        go_ret2
        exact ⟨(by first | rfl | (show Ending.returned (.tuple #[.float .f64 (signN neg (wMag s u)), .int .i64 1]) = _; rw [if_neg HOV.out, if_neg HOV.out]; rw [if_neg (by decide), if_neg HTL.out])), bl_then (bl_drewN _ hbb.out) hb2⟩
end Go.Proofs.YtpgcelbgmpfliaaGreatDoor
