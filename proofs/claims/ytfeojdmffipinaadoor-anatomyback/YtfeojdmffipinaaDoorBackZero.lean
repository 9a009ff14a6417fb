
/- What the law AnatomyBack answers where there is a number with the parts. -/
import Derived.Test.YtfeojdmffipinaaDoorBackLaw
namespace Go.Proofs.YtfeojdmffipinaaDoor
open Go.RowKit Go.IntWalk

set_option maxRecDepth 4000 in
set_option maxHeartbeats 2000000 in
theorem back_zero (x m : Nat) (neg : Bool) (e : Int) (w : World)
    (hx : x < 18446744073709551616) (hm : m < 18446744073709551616) (hT : Tab w) (hs : 1 < w.heap.size) (hbad : ¬ wBad m e) (h0m : m = 0) :
    Calls Tryd.prog 3 #[.int .u64 x, .agg #[.bool neg, .int .u64 m, .int .i64 e]] w fun r w' => r = .returned (.bool true) ∧ Below w.heap.size w w' := by
  obtain ⟨pl, pr, pn, pm, pe⟩ := parts_of neg m e hm hbad
  obtain ⟨V, hV⟩ : ∃ V, wWord neg m e = V := ⟨_, rfl⟩
  rw [hV] at pl pr pn pm pe
  have HV := hid hV
  have HVL := hid pl
  have HPR := hid pr
  have HPN := hid pn
  have HVE : Hid (wErr m e = 0) := by show wErr m e = 0; unfold wErr; rw [if_neg hbad]
  have HPM : Hid (pMant V = 0) := by show pMant V = 0; rw [pm, h0m, odd_zero]
  obtain ⟨EV, HPE⟩ : ∃ EV, Hid (pExp V = EV) := ⟨_, rfl⟩
  have hm0 : ((m : Int) == 0) = true := by rw [h0m]; rfl
  have hm1 : ((m : Int) != 0) = false := by rw [h0m]; rfl
  clear hV pl pr pn pm pe hbad h0m
  have HFIN : Hid (expOf x = 2047 ∧ pErr x = 4 ∨ expOf x ≠ 2047 ∧ pErr x = 0 ∧ pMant x < 18446744073709551616 ∧ wErr (pMant x) (pExp x) = 0 ∧ wWord (pNeg x) (pMant x) (pExp x) = canonOf x ∧ (pMant x = 0 ∧ pExp x = 0 ∨ pMant x % 2 = 1)) := by
    by_cases hf : expOf x = 2047
    · exact Or.inl ⟨hf, by unfold pErr; rw [if_pos hf]⟩
    · obtain ⟨hb, hwd⟩ := of_parts x hx hf
      have hml := mant_lt x
      have hpm : pMant x = oddOf (mantOf x) := by unfold pMant; rw [if_neg hf]
      have hle := odd_le (mantOf x)
      refine Or.inr ⟨hf, by unfold pErr; rw [if_neg hf], by omega, by unfold wErr; rw [if_neg hb], hwd, ?_⟩
      by_cases h0 : mantOf x = 0
      · left
        exact ⟨by rw [hpm, h0, odd_zero], by unfold pExp; rw [if_pos (Or.inr h0)]⟩
      · right
        obtain ⟨q, hq, _⟩ := odd_spec _ h0 (by omega)
        omega
  obtain ⟨j1, j2⟩ := join_split x hx
  obtain ⟨u1, u2⟩ := unkey_key x hx
  have J1 := hid j1
  have J2 := hid j2
  have U1 := hid u1
  have U2 := hid u2
  have HM := hid hm
  have KB := hid (key_bd x)
  clear j1 j2 u1 u2 hm
  go_enter Tryd.func3, Tryd.ntmps3
  go_wp2_with fail
  refine (f_any x _).mono ?_
  rintro r w' ⟨rfl, hww⟩
  rw [hww]
  clear hww w'
  have HX0 : Hid (Box w.heap.size (.bool neg) (.int .u64 m) (.int .i64 e) (w.alloc (.cells #[.bool neg, .int .u64 m, .int .i64 e] 24))) := Box.new _ _ _ _ _
  have HB0 : Hid (Below w.heap.size w (w.alloc (.cells #[.bool neg, .int .u64 m, .int .i64 e] 24))) := bl_al (Below.refl _ _) _
  go_wp2_with fail
  refine (Split_any x _ hx).mono ?_
  rintro r w1 ⟨rfl, hb⟩
  have HX1 := hid (HX0.out.below hb)
  have HB1 := hid (bl_then HB0.out hb)
  clear hb HX0 HB0
  go_wp2_with fail
  refine (Join_any (negOf x) (expOf x : Int) (fracOf x) _).mono ?_
  rw [J1.out, J2.out]
  rintro r w2 ⟨rfl, hb⟩
  have HX2 := hid (HX1.out.below hb)
  have HB2 := hid (bl_then HB1.out hb)
  clear hb HX1 HB1
  go_wp2_with fail
  refine (key_any x _ hx).mono ?_
  rintro r w' ⟨rfl, rfl⟩
  go_wp2_with fail
  refine (unkey_any (keyOf x) _ (by have := KB.out; omega) (by have := KB.out; omega)).mono ?_
  rw [U1.out, U2.out]
  rintro r w3 ⟨rfl, hb⟩
  have HX3 := hid (HX2.out.below hb)
  have HB3 := hid (bl_then HB2.out hb)
  clear hb HX2 HB2
  go_wp2_with fail
  refine (same_any (canonOf x) x _ hx).mono ?_
  rintro r w' ⟨rfl, rfl⟩
  go_wp2_with fail
  refine (same_any (canonOf x) x _ hx).mono ?_
  rintro r w' ⟨rfl, rfl⟩
  go_wp2_with fail
  refine (awake_any _ (hT.below hs HB3.out) (Nat.lt_of_lt_of_le hs HB3.out.size)).mono ?_
  rintro r w4 ⟨rfl, hb⟩
  have HX4 := hid (HX3.out.below hb)
  have HB4 := hid (bl_then HB3.out hb)
  clear hb HX3 HB3
  go_wp2_with fail
  refine (Parts_any x _ hx (hT.below hs HB4.out) (Nat.lt_of_lt_of_le hs HB4.out.size)).mono ?_
  rintro r w5 ⟨rfl, hb⟩
  have HX5 := hid (HX4.out.below hb)
  have HB5 := hid (bl_then HB4.out hb)
  clear hb HX4 HB4
  obtain ⟨N, hN⟩ : ∃ N, Hid (pNeg x = N) := ⟨_, rfl⟩
  obtain ⟨M, hM⟩ : ∃ M, Hid (pMant x = M) := ⟨_, rfl⟩
  obtain ⟨E, hE⟩ : ∃ E, Hid (pExp x = E) := ⟨_, rfl⟩
  rw [hN.out, hM.out, hE.out]
  rcases HFIN.out with ⟨_, hpe⟩ | ⟨_, hpe, hml, hwe, hww, hzo⟩
  · -- no finite number
    rw [hpe]
    clear hpe
    obtain ⟨h0, h1, h2, hfz, hz⟩ := HX5.out
    go_wp2_with fail
    have HXW := hid (HX5.out.al (.cells #[.bool N, .int .u64 M, .int .i64 E] 24))
    have HBW := hid (bl_al HB5.out (.cells #[.bool N, .int .u64 M, .int .i64 E] 24))
    clear h0 h1 h2 hfz hz HX5 HB5
    refine (Of_any neg m e _ HM.out (hT.below hs HBW.out) (Nat.lt_of_lt_of_le hs HBW.out.size)).mono ?_
    rw [HV.out, HVE.out]
    rintro r w7 ⟨rfl, hb⟩
    have HX7 := hid (HXW.out.below hb)
    have HB7 := hid (bl_then HBW.out hb)
    clear hb HXW HBW
    go_wp2_with fail
    refine (Parts_any V _ HVL.out (hT.below hs HB7.out) (Nat.lt_of_lt_of_le hs HB7.out.size)).mono ?_
    rw [HPN.out, HPM.out, HPE.out, HPR.out]
    rintro r w8 ⟨rfl, hb⟩
    have HX8 := hid (HX7.out.below hb)
    have HB8 := hid (bl_then HB7.out hb)
    clear hb HX7 HB7
    obtain ⟨h0, h1, h2, hfz, hz⟩ := HX8.out
    go_wp2_with fail
    refine wp_loop_rounds 1 ?_
    rw [rounds_succ]
    go_wp2
    go_ret
    exact ⟨rfl, bl_al HB8.out _⟩
  · rw [hN.out, hM.out, hE.out] at hww
    rw [hM.out] at hml hzo
    rw [hM.out, hE.out] at hwe
    rw [hE.out] at hzo
    rw [hpe]
    have HML := hid hml
    have HWE := hid hwe
    have HWW := hid hww
    clear hpe hml hwe hww
    rcases hzo with ⟨hm0, he0⟩ | hod
    · subst hm0 he0
      have hneq := neq_same N
      obtain ⟨h0, h1, h2, hfz, hz⟩ := HX5.out
      go_wp2_with fail
      refine (Of_any N 0 0 _ HML.out (hT.below hs (bl_al HB5.out _)) (Nat.lt_of_lt_of_le hs (bl_al HB5.out _).size)).mono ?_
      rw [HWE.out, HWW.out]
      rintro r w6 ⟨rfl, hb⟩
      have HXW := hid ((HX5.out.al _).below hb)
      have HBW := hid (bl_then (bl_al HB5.out _) hb)
      have HQ := hid ((Box.new w5 (.bool N) (.int .u64 ((0 : Nat) : Int)) (.int .i64 0) 24).below hb)
      clear h0 h1 h2 hfz hz HX5 HB5 hb
      obtain ⟨h0, h1, h2, hfz, hz⟩ := HXW.out
      obtain ⟨g0, g1, g2, gfz, gz⟩ := HQ.out
      go_wp2_with fail
      refine (same_any (canonOf x) x _ hx).mono ?_
      rintro r w' ⟨rfl, rfl⟩
      go_wp2_with fail
      clear g0 g1 g2 gfz gz h0 h1 h2 hfz hz HQ
      refine (Of_any neg m e _ HM.out (hT.below hs HBW.out) (Nat.lt_of_lt_of_le hs HBW.out.size)).mono ?_
      rw [HV.out, HVE.out]
      rintro r w7 ⟨rfl, hb⟩
      have HX7 := hid (HXW.out.below hb)
      have HB7 := hid (bl_then HBW.out hb)
      clear hb HXW HBW
      go_wp2_with fail
      refine (Parts_any V _ HVL.out (hT.below hs HB7.out) (Nat.lt_of_lt_of_le hs HB7.out.size)).mono ?_
      rw [HPN.out, HPM.out, HPE.out, HPR.out]
      rintro r w8 ⟨rfl, hb⟩
      have HX8 := hid (HX7.out.below hb)
      have HB8 := hid (bl_then HB7.out hb)
      clear hb HX7 HB7
      obtain ⟨h0, h1, h2, hfz, hz⟩ := HX8.out
      go_wp2_with fail
      refine wp_loop_rounds 1 ?_
      rw [rounds_succ]
      go_wp2
      go_ret
      exact ⟨rfl, bl_al HB8.out _⟩
    · have hod' : ((M : Int) % 2 == 0) = false := by rw [beq_eq_false_iff_ne]; omega
      clear hod
      obtain ⟨h0, h1, h2, hfz, hz⟩ := HX5.out
      go_wp2_with fail
      refine (Of_any N M E _ HML.out (hT.below hs (bl_al HB5.out _)) (Nat.lt_of_lt_of_le hs (bl_al HB5.out _).size)).mono ?_
      rw [HWE.out, HWW.out]
      rintro r w6 ⟨rfl, hb⟩
      have HXW := hid ((HX5.out.al _).below hb)
      have HBW := hid (bl_then (bl_al HB5.out _) hb)
      have HQ := hid ((Box.new w5 (.bool N) (.int .u64 (M : Int)) (.int .i64 E) 24).below hb)
      clear h0 h1 h2 hfz hz HX5 HB5 hb
      obtain ⟨h0, h1, h2, hfz, hz⟩ := HXW.out
      obtain ⟨g0, g1, g2, gfz, gz⟩ := HQ.out
      go_wp2_with fail
      refine (same_any (canonOf x) x _ hx).mono ?_
      rintro r w' ⟨rfl, rfl⟩
      go_wp2_with fail
      clear g0 g1 g2 gfz gz h0 h1 h2 hfz hz HQ
      refine (Of_any neg m e _ HM.out (hT.below hs HBW.out) (Nat.lt_of_lt_of_le hs HBW.out.size)).mono ?_
      rw [HV.out, HVE.out]
      rintro r w7 ⟨rfl, hb⟩
      have HX7 := hid (HXW.out.below hb)
      have HB7 := hid (bl_then HBW.out hb)
      clear hb HXW HBW
      go_wp2_with fail
      refine (Parts_any V _ HVL.out (hT.below hs HB7.out) (Nat.lt_of_lt_of_le hs HB7.out.size)).mono ?_
      rw [HPN.out, HPM.out, HPE.out, HPR.out]
      rintro r w8 ⟨rfl, hb⟩
      have HX8 := hid (HX7.out.below hb)
      have HB8 := hid (bl_then HB7.out hb)
      clear hb HX7 HB7
      obtain ⟨h0, h1, h2, hfz, hz⟩ := HX8.out
      go_wp2_with fail
      refine wp_loop_rounds 1 ?_
      rw [rounds_succ]
      go_wp2
      go_ret
      exact ⟨rfl, bl_al HB8.out _⟩
end Go.Proofs.YtfeojdmffipinaaDoor
