
/- What the law AnatomyBack answers where there is a number with the parts. -/
import Derived.Test.YtfeojdmffipinaaDoorBackLaw
namespace Go.Proofs.YtfeojdmffipinaaDoor
open Go.RowKit Go.IntWalk

set_option maxRecDepth 4000 in
set_option maxHeartbeats 2000000 in
theorem back_good (x m : Nat) (neg : Bool) (e : Int) (w : World)
    (hx : x < 18446744073709551616) (hm : m < 18446744073709551616) (hT : Tab w) (hs : 1 < w.heap.size) (hbad : ¬ wBad m e) (h0m : m ≠ 0) (tz : Nat) (htz : tzOf m = tz) :
    Calls Tryd.prog 3 #[.int .u64 x, .agg #[.bool neg, .int .u64 m, .int .i64 e]] w fun r w' => r = .returned (.bool true) ∧ Below w.heap.size w w' := by
  obtain ⟨pl, pr, pn, pm, pe⟩ := parts_of neg m e hm hbad
  obtain ⟨V, hV⟩ : ∃ V, wWord neg m e = V := ⟨_, rfl⟩
  rw [hV] at pl pr pn pm pe
  have HV := hid hV
  have HVL := hid pl
  have HPR := hid pr
  have HPN := hid pn
  have HVE : Hid (wErr m e = 0) := by show wErr m e = 0; unfold wErr; rw [if_neg hbad]
  have hb2 : ¬ (e < -1139 ∨ 1075 < e ∨ 53 < lenOf m ∨ e + (tzOf m : Int) < -1074 ∨ 2047 ≤ wField m e) := fun h => hbad ⟨h0m, h⟩
  have HEB : Hid (-1139 ≤ e ∧ e ≤ 1075 ∧ (tz : Int) ≤ 63) := by
    have := (tz_spec m h0m hm).1
    exact ⟨by omega, by omega, by rw [← htz]; omega⟩
  have htz63 : tz ≤ 63 := by have := HEB.out; omega
  obtain ⟨q, hq, hmq⟩ := odd_spec m h0m hm
  obtain ⟨O, hO⟩ : ∃ O, oddOf m = O := ⟨_, rfl⟩
  obtain ⟨EV, hEV⟩ : ∃ EV, pExp V = EV := ⟨_, rfl⟩
  have HPM : Hid (pMant V = O) := by show pMant V = O; rw [pm, hO]
  have HPE : Hid (pExp V = EV) := hEV
  rw [htz] at hmq
  have HEND : Hid (m / 2 ^ tz = O ∧ e + (tz : Int) = EV ∧ O % 2 = 1) := by
    refine ⟨?_, ?_, by omega⟩
    · rw [← hO, ← htz]; rfl
    · rw [← hEV, pe h0m, htz]
  have HEVEN : Hid (∀ k, k < tz → m / 2 ^ k ≠ 0 ∧ m / 2 ^ k % 2 = 0 ∧ m / 2 ^ (k + 1) = m / 2 ^ k / 2) := by
    intro k hk
    have e0 : tz = k + (tz - k - 1 + 1) := by omega
    have e1 : m / 2 ^ k = 2 * (2 ^ (tz - k - 1) * (2 * q + 1)) := by
      rw [hmq, e0, Nat.pow_add, Nat.mul_assoc, Nat.mul_div_cancel_left _ (Nat.two_pow_pos k), Nat.pow_succ, Nat.mul_comm (2 ^ _) 2, Nat.mul_assoc]
      congr 3
      omega
    have e2 : 2 ^ (tz - k - 1) * (2 * q + 1) ≠ 0 := Nat.mul_ne_zero (Nat.pos_iff_ne_zero.1 (Nat.two_pow_pos _)) (by omega)
    exact ⟨by omega, by omega, by rw [Nat.pow_succ, Nat.div_div_eq_div_mul]⟩
  have hm0 : ((m : Int) == 0) = false := by rw [beq_eq_false_iff_ne]; omega
  have hO0 : ((O : Int) == 0) = false := by rw [beq_eq_false_iff_ne]; omega
  clear hV pl pr pn pm pe hbad h0m hb2 hq hmq hO hEV htz
  have HFIN : Hid (expOf x = 2047 ∧ pErr x = 4 ∨ expOf x ≠ 2047 ∧ pErr x = 0 ∧ pMant x < 18446744073709551616 ∧ wErr (pMant x) (pExp x) = 0 ∧ wWord (pNeg x) (pMant x) (pExp x) = canonOf x ∧ (pMant x = 0 ∧ pExp x = 0 ∨ pMant x % 2 = 1)) := by
    by_cases hf : expOf x = 2047
    · exact Or.inl ⟨hf, by unfold pErr; rw [if_pos hf]⟩
    · obtain ⟨hb, hwd⟩ := of_parts x hx hf
      have hml := mant_lt x
      have hpm : pMant x = oddOf (mantOf x) := by unfold pMant; rw [if_neg hf]
      have hle := odd_le (mantOf x)
      refine Or.inr ⟨hf, by unfold pErr; rw [if_neg hf], by omega, by unfold wErr; rw [if_neg hb], hwd, ?_⟩
      by_cases h0 : mantOf x = 0
      · left
        exact ⟨by rw [hpm, h0, odd_zero], by unfold pExp; rw [if_pos (Or.inr h0)]⟩
      · right
        obtain ⟨q, hq, _⟩ := odd_spec _ h0 (by omega)
        omega
  obtain ⟨j1, j2⟩ := join_split x hx
  obtain ⟨u1, u2⟩ := unkey_key x hx
  have J1 := hid j1
  have J2 := hid j2
  have U1 := hid u1
  have U2 := hid u2
  have HM := hid hm
  have KB := hid (key_bd x)
  clear j1 j2 u1 u2 hm
  go_enter Tryd.func3, Tryd.ntmps3
  go_wp2_with fail
  refine (f_any x _).mono ?_
  rintro r w' ⟨rfl, hww⟩
  rw [hww]
  clear hww w'
  have HX0 : Hid (Box w.heap.size (.bool neg) (.int .u64 m) (.int .i64 e) (w.alloc (.cells #[.bool neg, .int .u64 m, .int .i64 e] 24))) := Box.new _ _ _ _ _
  have HB0 : Hid (Below w.heap.size w (w.alloc (.cells #[.bool neg, .int .u64 m, .int .i64 e] 24))) := bl_al (Below.refl _ _) _
  go_wp2_with fail
  refine (Split_any x _ hx).mono ?_
  rintro r w1 ⟨rfl, hb⟩
  have HX1 := hid (HX0.out.below hb)
  have HB1 := hid (bl_then HB0.out hb)
  clear hb HX0 HB0
  go_wp2_with fail
  refine (Join_any (negOf x) (expOf x : Int) (fracOf x) _).mono ?_
  rw [J1.out, J2.out]
  rintro r w2 ⟨rfl, hb⟩
  have HX2 := hid (HX1.out.below hb)
  have HB2 := hid (bl_then HB1.out hb)
  clear hb HX1 HB1
  go_wp2_with fail
  refine (key_any x _ hx).mono ?_
  rintro r w' ⟨rfl, rfl⟩
  go_wp2_with fail
  refine (unkey_any (keyOf x) _ (by have := KB.out; omega) (by have := KB.out; omega)).mono ?_
  rw [U1.out, U2.out]
  rintro r w3 ⟨rfl, hb⟩
  have HX3 := hid (HX2.out.below hb)
  have HB3 := hid (bl_then HB2.out hb)
  clear hb HX2 HB2
  go_wp2_with fail
  refine (same_any (canonOf x) x _ hx).mono ?_
  rintro r w' ⟨rfl, rfl⟩
  go_wp2_with fail
  refine (same_any (canonOf x) x _ hx).mono ?_
  rintro r w' ⟨rfl, rfl⟩
  go_wp2_with fail
  refine (awake_any _ (hT.below hs HB3.out) (Nat.lt_of_lt_of_le hs HB3.out.size)).mono ?_
  rintro r w4 ⟨rfl, hb⟩
  have HX4 := hid (HX3.out.below hb)
  have HB4 := hid (bl_then HB3.out hb)
  clear hb HX3 HB3
  go_wp2_with fail
  refine (Parts_any x _ hx (hT.below hs HB4.out) (Nat.lt_of_lt_of_le hs HB4.out.size)).mono ?_
  rintro r w5 ⟨rfl, hb⟩
  have HX5 := hid (HX4.out.below hb)
  have HB5 := hid (bl_then HB4.out hb)
  clear hb HX4 HB4
  obtain ⟨N, hN⟩ : ∃ N, Hid (pNeg x = N) := ⟨_, rfl⟩
  obtain ⟨M, hM⟩ : ∃ M, Hid (pMant x = M) := ⟨_, rfl⟩
  obtain ⟨E, hE⟩ : ∃ E, Hid (pExp x = E) := ⟨_, rfl⟩
  rw [hN.out, hM.out, hE.out]
  rcases HFIN.out with ⟨_, hpe⟩ | ⟨_, hpe, hml, hwe, hww, hzo⟩
  · -- no finite number
    rw [hpe]
    clear hpe
    obtain ⟨h0, h1, h2, hfz, hz⟩ := HX5.out
    go_wp2_with fail
    have HXW := hid (HX5.out.al (.cells #[.bool N, .int .u64 M, .int .i64 E] 24))
    have HBW := hid (bl_al HB5.out (.cells #[.bool N, .int .u64 M, .int .i64 E] 24))
    clear h0 h1 h2 hfz hz HX5 HB5
    refine (Of_any neg m e _ HM.out (hT.below hs HBW.out) (Nat.lt_of_lt_of_le hs HBW.out.size)).mono ?_
    rw [HV.out, HVE.out]
    rintro r w7 ⟨rfl, hb⟩
    have HX7 := hid (HXW.out.below hb)
    have HB7 := hid (bl_then HBW.out hb)
    clear hb HXW HBW
    go_wp2_with fail
    refine (Parts_any V _ HVL.out (hT.below hs HB7.out) (Nat.lt_of_lt_of_le hs HB7.out.size)).mono ?_
    rw [HPN.out, HPM.out, HPE.out, HPR.out]
    rintro r w8 ⟨rfl, hb⟩
    have HX8 := hid (HX7.out.below hb)
    have HB8 := hid (bl_then HB7.out hb)
    clear hb HX7 HB7
    obtain ⟨h0, h1, h2, hfz, hz⟩ := HX8.out
    go_wp2_with fail
    have HXA := hid (HX8.out.al (.cells #[.bool neg, .int .u64 (O : Int), .int .i64 EV] 24))
    have HQA := hid (Box.new w8 (.bool neg) (.int .u64 (O : Int)) (.int .i64 EV) 24)
    have HBA := hid (bl_al HB8.out (.cells #[.bool neg, .int .u64 (O : Int), .int .i64 EV] 24))
    have HNE : Hid (w.heap.size ≠ w8.heap.size) := by have h3 := HX8.out.2.2.2.2; show w.heap.size ≠ w8.heap.size; omega
    obtain ⟨b2, hb2⟩ : ∃ b2, Hid (w8.heap.size = b2) := ⟨_, rfl⟩
    rw [hb2.out] at HQA HNE
    rw [hb2.out]
    clear h0 h1 h2 hfz hz HX8 HB8
    go_loopw [15] (fun i wr => ∃ (k : Nat) (v : Int), Hid (v = (k : Int) ∧ k ≤ tz) ∧ 0 ≤ v ∧ v ≤ 63 ∧ i = .int .i64 v ∧ Hid (Box w.heap.size (.bool neg) (.int .u64 ((m / 2 ^ k : Nat) : Int)) (.int .i64 (e + (k : Int))) wr ∧ Box b2 (.bool neg) (.int .u64 (O : Int)) (.int .i64 EV) wr ∧ Below w.heap.size w wr)) (fun i _ => 64 - (intOf i).toNat)
    case atStart => exact ⟨0, 0, ⟨rfl, Nat.zero_le _⟩, by omega, by omega, rfl, ⟨by rw [Nat.pow_zero, Nat.div_one]; simpa using HXA.out, HQA.out, HBA.out⟩⟩
    case round =>
      obtain ⟨k, v, HKV, hv0, hv1, rfl, HR⟩ := hrel
      have HTZ := hid htz63
      obtain ⟨a, ha⟩ : ∃ a, Hid (m / 2 ^ k = a) := ⟨_, rfl⟩
      obtain ⟨E2, hE2⟩ : ∃ E2, Hid (e + (k : Int) = E2) := ⟨_, rfl⟩
      rw [ha.out, hE2.out] at HR
      obtain ⟨h0, h1, h2, hfz, hz⟩ := HR.out.1
      obtain ⟨g0, g1, g2, gfz, gz⟩ := HR.out.2.1
      have hbnd : -1139 ≤ E2 ∧ E2 ≤ 1200 := by have h5 := hE2.out; have h6 := HEB.out; have h7 := HKV.out; omega
      by_cases hlt : k < tz
      · have HEV := hid (HEVEN.out k hlt)
        have ht1 : ((a : Int) != 0) = true := by have h5 := HEV.out.1; rw [ha.out] at h5; simp; omega
        have ht2 : ((a : Int) % 2 == 0) = true := by have h5 := HEV.out.2.1; rw [ha.out] at h5; rw [beq_iff_eq]; omega
        have hwa : IntKind.u64.wrap ((a : Int) / 2) = (a : Int) / 2 := by
          have h5 : a ≤ m := by rw [← ha.out]; exact Nat.div_le_self _ _
          have h6 := HM.out
          rw [IntKind.wrap_u64]; omega
        have HLT := hid hlt
        clear hlt
        go_wp2_with fail
        go_roundw
        case rel =>
          refine ⟨k + 1, v + 1, ⟨by have h5 := HKV.out; omega, by have h5 := HLT.out; omega⟩, by omega, by have h5 := HKV.out; have h6 := HLT.out; have h7 := HTZ.out; omega, rfl, ?_⟩
          have e1 : ((m / 2 ^ (k + 1) : Nat) : Int) = (a : Int) / 2 := by have h5 := HEV.out.2.2; rw [h5, ha.out]; omega
          have e2 : e + ((k + 1 : Nat) : Int) = E2 + 1 := by have h5 := hE2.out; omega
          rw [e1, e2]
          exact ⟨HR.out.1.set, (HR.out.2.1.apart HNE.out).apart HNE.out, Below.setCell (Below.setCell HR.out.2.2 (Nat.le_refl _) _) (Nat.le_refl _) _⟩
        case measure => simp [intOf]; omega
      · have hkz : k = tz := by have h5 := HKV.out; omega
        have HLAST := hid HEND.out
        have hao : a = O := by rw [← ha.out, hkz]; exact HLAST.out.1
        have hea : E2 = EV := by rw [← hE2.out, hkz]; exact HLAST.out.2.1
        subst hao hea
        have ht1 : ((a : Int) == 0) = false := by have h5 := HLAST.out.2.2; rw [beq_eq_false_iff_ne]; omega
        have ht2 : ((a : Int) % 2 == 0) = false := by have h5 := HLAST.out.2.2; rw [beq_eq_false_iff_ne]; omega
        have ht3 : ((a : Int) != 0) = true := by have h5 := HLAST.out.2.2; simp; omega
        clear hkz hlt
        go_wp2_with fail
        all_goals (go_ret; exact ⟨rfl, HR.out.2.2⟩)
  · rw [hN.out, hM.out, hE.out] at hww
    rw [hM.out] at hml hzo
    rw [hM.out, hE.out] at hwe
    rw [hE.out] at hzo
    rw [hpe]
    have HML := hid hml
    have HWE := hid hwe
    have HWW := hid hww
    clear hpe hml hwe hww
    rcases hzo with ⟨hm0, he0⟩ | hod
    · subst hm0 he0
      have hneq := neq_same N
      obtain ⟨h0, h1, h2, hfz, hz⟩ := HX5.out
      go_wp2_with fail
      refine (Of_any N 0 0 _ HML.out (hT.below hs (bl_al HB5.out _)) (Nat.lt_of_lt_of_le hs (bl_al HB5.out _).size)).mono ?_
      rw [HWE.out, HWW.out]
      rintro r w6 ⟨rfl, hb⟩
      have HXW := hid ((HX5.out.al _).below hb)
      have HBW := hid (bl_then (bl_al HB5.out _) hb)
      have HQ := hid ((Box.new w5 (.bool N) (.int .u64 ((0 : Nat) : Int)) (.int .i64 0) 24).below hb)
      clear h0 h1 h2 hfz hz HX5 HB5 hb
      obtain ⟨h0, h1, h2, hfz, hz⟩ := HXW.out
      obtain ⟨g0, g1, g2, gfz, gz⟩ := HQ.out
      go_wp2_with fail
      refine (same_any (canonOf x) x _ hx).mono ?_
      rintro r w' ⟨rfl, rfl⟩
      go_wp2_with fail
      clear g0 g1 g2 gfz gz h0 h1 h2 hfz hz HQ
      refine (Of_any neg m e _ HM.out (hT.below hs HBW.out) (Nat.lt_of_lt_of_le hs HBW.out.size)).mono ?_
      rw [HV.out, HVE.out]
      rintro r w7 ⟨rfl, hb⟩
      have HX7 := hid (HXW.out.below hb)
      have HB7 := hid (bl_then HBW.out hb)
      clear hb HXW HBW
      go_wp2_with fail
      refine (Parts_any V _ HVL.out (hT.below hs HB7.out) (Nat.lt_of_lt_of_le hs HB7.out.size)).mono ?_
      rw [HPN.out, HPM.out, HPE.out, HPR.out]
      rintro r w8 ⟨rfl, hb⟩
      have HX8 := hid (HX7.out.below hb)
      have HB8 := hid (bl_then HB7.out hb)
      clear hb HX7 HB7
      obtain ⟨h0, h1, h2, hfz, hz⟩ := HX8.out
      go_wp2_with fail
      have HXA := hid (HX8.out.al (.cells #[.bool neg, .int .u64 (O : Int), .int .i64 EV] 24))
      have HQA := hid (Box.new w8 (.bool neg) (.int .u64 (O : Int)) (.int .i64 EV) 24)
      have HBA := hid (bl_al HB8.out (.cells #[.bool neg, .int .u64 (O : Int), .int .i64 EV] 24))
      have HNE : Hid (w.heap.size ≠ w8.heap.size) := by have h3 := HX8.out.2.2.2.2; show w.heap.size ≠ w8.heap.size; omega
      obtain ⟨b2, hb2⟩ : ∃ b2, Hid (w8.heap.size = b2) := ⟨_, rfl⟩
      rw [hb2.out] at HQA HNE
      rw [hb2.out]
      clear h0 h1 h2 hfz hz HX8 HB8
      go_loopw [15] (fun i wr => ∃ (k : Nat) (v : Int), Hid (v = (k : Int) ∧ k ≤ tz) ∧ 0 ≤ v ∧ v ≤ 63 ∧ i = .int .i64 v ∧ Hid (Box w.heap.size (.bool neg) (.int .u64 ((m / 2 ^ k : Nat) : Int)) (.int .i64 (e + (k : Int))) wr ∧ Box b2 (.bool neg) (.int .u64 (O : Int)) (.int .i64 EV) wr ∧ Below w.heap.size w wr)) (fun i _ => 64 - (intOf i).toNat)
      case atStart => exact ⟨0, 0, ⟨rfl, Nat.zero_le _⟩, by omega, by omega, rfl, ⟨by rw [Nat.pow_zero, Nat.div_one]; simpa using HXA.out, HQA.out, HBA.out⟩⟩
      case round =>
        obtain ⟨k, v, HKV, hv0, hv1, rfl, HR⟩ := hrel
        have HTZ := hid htz63
        obtain ⟨a, ha⟩ : ∃ a, Hid (m / 2 ^ k = a) := ⟨_, rfl⟩
        obtain ⟨E2, hE2⟩ : ∃ E2, Hid (e + (k : Int) = E2) := ⟨_, rfl⟩
        rw [ha.out, hE2.out] at HR
        obtain ⟨h0, h1, h2, hfz, hz⟩ := HR.out.1
        obtain ⟨g0, g1, g2, gfz, gz⟩ := HR.out.2.1
        have hbnd : -1139 ≤ E2 ∧ E2 ≤ 1200 := by have h5 := hE2.out; have h6 := HEB.out; have h7 := HKV.out; omega
        by_cases hlt : k < tz
        · have HEV := hid (HEVEN.out k hlt)
          have ht1 : ((a : Int) != 0) = true := by have h5 := HEV.out.1; rw [ha.out] at h5; simp; omega
          have ht2 : ((a : Int) % 2 == 0) = true := by have h5 := HEV.out.2.1; rw [ha.out] at h5; rw [beq_iff_eq]; omega
          have hwa : IntKind.u64.wrap ((a : Int) / 2) = (a : Int) / 2 := by
            have h5 : a ≤ m := by rw [← ha.out]; exact Nat.div_le_self _ _
            have h6 := HM.out
            rw [IntKind.wrap_u64]; omega
          have HLT := hid hlt
          clear hlt
          go_wp2_with fail
          go_roundw
          case rel =>
            refine ⟨k + 1, v + 1, ⟨by have h5 := HKV.out; omega, by have h5 := HLT.out; omega⟩, by omega, by have h5 := HKV.out; have h6 := HLT.out; have h7 := HTZ.out; omega, rfl, ?_⟩
            have e1 : ((m / 2 ^ (k + 1) : Nat) : Int) = (a : Int) / 2 := by have h5 := HEV.out.2.2; rw [h5, ha.out]; omega
            have e2 : e + ((k + 1 : Nat) : Int) = E2 + 1 := by have h5 := hE2.out; omega
            rw [e1, e2]
            exact ⟨HR.out.1.set, (HR.out.2.1.apart HNE.out).apart HNE.out, Below.setCell (Below.setCell HR.out.2.2 (Nat.le_refl _) _) (Nat.le_refl _) _⟩
          case measure => simp [intOf]; omega
        · have hkz : k = tz := by have h5 := HKV.out; omega
          have HLAST := hid HEND.out
          have hao : a = O := by rw [← ha.out, hkz]; exact HLAST.out.1
          have hea : E2 = EV := by rw [← hE2.out, hkz]; exact HLAST.out.2.1
          subst hao hea
          have ht1 : ((a : Int) == 0) = false := by have h5 := HLAST.out.2.2; rw [beq_eq_false_iff_ne]; omega
          have ht2 : ((a : Int) % 2 == 0) = false := by have h5 := HLAST.out.2.2; rw [beq_eq_false_iff_ne]; omega
          have ht3 : ((a : Int) != 0) = true := by have h5 := HLAST.out.2.2; simp; omega
          clear hkz hlt
          go_wp2_with fail
          all_goals (go_ret; exact ⟨rfl, HR.out.2.2⟩)
    · have hod' : ((M : Int) % 2 == 0) = false := by rw [beq_eq_false_iff_ne]; omega
      clear hod
      obtain ⟨h0, h1, h2, hfz, hz⟩ := HX5.out
      go_wp2_with fail
      refine (Of_any N M E _ HML.out (hT.below hs (bl_al HB5.out _)) (Nat.lt_of_lt_of_le hs (bl_al HB5.out _).size)).mono ?_
      rw [HWE.out, HWW.out]
      rintro r w6 ⟨rfl, hb⟩
      have HXW := hid ((HX5.out.al _).below hb)
      have HBW := hid (bl_then (bl_al HB5.out _) hb)
      have HQ := hid ((Box.new w5 (.bool N) (.int .u64 (M : Int)) (.int .i64 E) 24).below hb)
      clear h0 h1 h2 hfz hz HX5 HB5 hb
      obtain ⟨h0, h1, h2, hfz, hz⟩ := HXW.out
      obtain ⟨g0, g1, g2, gfz, gz⟩ := HQ.out
      go_wp2_with fail
      refine (same_any (canonOf x) x _ hx).mono ?_
      rintro r w' ⟨rfl, rfl⟩
      go_wp2_with fail
      clear g0 g1 g2 gfz gz h0 h1 h2 hfz hz HQ
      refine (Of_any neg m e _ HM.out (hT.below hs HBW.out) (Nat.lt_of_lt_of_le hs HBW.out.size)).mono ?_
      rw [HV.out, HVE.out]
      rintro r w7 ⟨rfl, hb⟩
      have HX7 := hid (HXW.out.below hb)
      have HB7 := hid (bl_then HBW.out hb)
      clear hb HXW HBW
      go_wp2_with fail
      refine (Parts_any V _ HVL.out (hT.below hs HB7.out) (Nat.lt_of_lt_of_le hs HB7.out.size)).mono ?_
      rw [HPN.out, HPM.out, HPE.out, HPR.out]
      rintro r w8 ⟨rfl, hb⟩
      have HX8 := hid (HX7.out.below hb)
      have HB8 := hid (bl_then HB7.out hb)
      clear hb HX7 HB7
      obtain ⟨h0, h1, h2, hfz, hz⟩ := HX8.out
      go_wp2_with fail
      have HXA := hid (HX8.out.al (.cells #[.bool neg, .int .u64 (O : Int), .int .i64 EV] 24))
      have HQA := hid (Box.new w8 (.bool neg) (.int .u64 (O : Int)) (.int .i64 EV) 24)
      have HBA := hid (bl_al HB8.out (.cells #[.bool neg, .int .u64 (O : Int), .int .i64 EV] 24))
      have HNE : Hid (w.heap.size ≠ w8.heap.size) := by have h3 := HX8.out.2.2.2.2; show w.heap.size ≠ w8.heap.size; omega
      obtain ⟨b2, hb2⟩ : ∃ b2, Hid (w8.heap.size = b2) := ⟨_, rfl⟩
      rw [hb2.out] at HQA HNE
      rw [hb2.out]
      clear h0 h1 h2 hfz hz HX8 HB8
      go_loopw [15] (fun i wr => ∃ (k : Nat) (v : Int), Hid (v = (k : Int) ∧ k ≤ tz) ∧ 0 ≤ v ∧ v ≤ 63 ∧ i = .int .i64 v ∧ Hid (Box w.heap.size (.bool neg) (.int .u64 ((m / 2 ^ k : Nat) : Int)) (.int .i64 (e + (k : Int))) wr ∧ Box b2 (.bool neg) (.int .u64 (O : Int)) (.int .i64 EV) wr ∧ Below w.heap.size w wr)) (fun i _ => 64 - (intOf i).toNat)
      case atStart => exact ⟨0, 0, ⟨rfl, Nat.zero_le _⟩, by omega, by omega, rfl, ⟨by rw [Nat.pow_zero, Nat.div_one]; simpa using HXA.out, HQA.out, HBA.out⟩⟩
      case round =>
        obtain ⟨k, v, HKV, hv0, hv1, rfl, HR⟩ := hrel
        have HTZ := hid htz63
        obtain ⟨a, ha⟩ : ∃ a, Hid (m / 2 ^ k = a) := ⟨_, rfl⟩
        obtain ⟨E2, hE2⟩ : ∃ E2, Hid (e + (k : Int) = E2) := ⟨_, rfl⟩
        rw [ha.out, hE2.out] at HR
        obtain ⟨h0, h1, h2, hfz, hz⟩ := HR.out.1
        obtain ⟨g0, g1, g2, gfz, gz⟩ := HR.out.2.1
        have hbnd : -1139 ≤ E2 ∧ E2 ≤ 1200 := by have h5 := hE2.out; have h6 := HEB.out; have h7 := HKV.out; omega
        by_cases hlt : k < tz
        · have HEV := hid (HEVEN.out k hlt)
          have ht1 : ((a : Int) != 0) = true := by have h5 := HEV.out.1; rw [ha.out] at h5; simp; omega
          have ht2 : ((a : Int) % 2 == 0) = true := by have h5 := HEV.out.2.1; rw [ha.out] at h5; rw [beq_iff_eq]; omega
          have hwa : IntKind.u64.wrap ((a : Int) / 2) = (a : Int) / 2 := by
            have h5 : a ≤ m := by rw [← ha.out]; exact Nat.div_le_self _ _
            have h6 := HM.out
            rw [IntKind.wrap_u64]; omega
          have HLT := hid hlt
          clear hlt
          go_wp2_with fail
          go_roundw
          case rel =>
            refine ⟨k + 1, v + 1, ⟨by have h5 := HKV.out; omega, by have h5 := HLT.out; omega⟩, by omega, by have h5 := HKV.out; have h6 := HLT.out; have h7 := HTZ.out; omega, rfl, ?_⟩
            have e1 : ((m / 2 ^ (k + 1) : Nat) : Int) = (a : Int) / 2 := by have h5 := HEV.out.2.2; rw [h5, ha.out]; omega
            have e2 : e + ((k + 1 : Nat) : Int) = E2 + 1 := by have h5 := hE2.out; omega
            rw [e1, e2]
            exact ⟨HR.out.1.set, (HR.out.2.1.apart HNE.out).apart HNE.out, Below.setCell (Below.setCell HR.out.2.2 (Nat.le_refl _) _) (Nat.le_refl _) _⟩
          case measure => simp [intOf]; omega
        · have hkz : k = tz := by have h5 := HKV.out; omega
          have HLAST := hid HEND.out
          have hao : a = O := by rw [← ha.out, hkz]; exact HLAST.out.1
          have hea : E2 = EV := by rw [← hE2.out, hkz]; exact HLAST.out.2.1
          subst hao hea
          have ht1 : ((a : Int) == 0) = false := by have h5 := HLAST.out.2.2; rw [beq_eq_false_iff_ne]; omega
          have ht2 : ((a : Int) % 2 == 0) = false := by have h5 := HLAST.out.2.2; rw [beq_eq_false_iff_ne]; omega
          have ht3 : ((a : Int) != 0) = true := by have h5 := HLAST.out.2.2; simp; omega
          clear hkz hlt
          go_wp2_with fail
          all_goals (go_ret; exact ⟨rfl, HR.out.2.2⟩)
end Go.Proofs.YtfeojdmffipinaaDoor
