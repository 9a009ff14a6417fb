
/- The law's is: a dyad against an exact number, or against none beside an error. -/
import Derived.Test.YtphdinjmkhefmaaGreatDoorP42
import Derived.Test.YtphdinjmkhefmaaGreatDoorP44
import Derived.Test.YtphdinjmkhefmaaGreatDoorP2
import Derived.Test.YtphdinjmkhefmaaGreatDoorP4
namespace Go.Proofs.YtphdinjmkhefmaaGreatDoor
open Go.RowKit Go.IntWalk

theorem dy_zero (w : World) (e : Int) : DyAt w false none 0 0 0 0 e := ⟨[], rfl, Nat.le_refl _, fun _ hi => absurd hi (Nat.not_lt_zero _), ⟨fun _ hd => absurd hd List.not_mem_nil, fun h => absurd rfl h, Or.inl ⟨rfl, rfl, rfl, rfl⟩⟩, Or.inl ⟨rfl, rfl, rfl⟩⟩
theorem DyAt.stored {W : World} {b : Nat} {n1 n2 : Bool} {a1 a2 : Option Addr} {k1 k2 c1 c2 : Nat} {e1 e2 z e : Int} (h : DyAt W n1 a1 k1 c1 e1 z e) (hb : W.heap[b]? = some (DyBox n2 a2 k2 c2 e2)) (x y v : Value) : DyAt (((W.setCell ⟨b, 0, none⟩ x).setCell ⟨b, 1, none⟩ y).setCell ⟨b, 2, none⟩ v) n1 a1 k1 c1 e1 z e := by
  obtain ⟨L, h1, h2, h3, h4, h5⟩ := h
  refine ⟨L, h1, h2, h3.but ((((But.refl b W).setCell 0 _).setCell 1 _).setCell 2 _) (fun b' off e h0 hc => ?_), h4, h5⟩
  obtain ⟨b2, off2, g1, _, g3⟩ := h3 0 (by omega)
  rw [e] at g1
  cases g1
  subst hc
  exact noword_dy hb _ _ g3
set_option maxRecDepth 4000 in
set_option maxHeartbeats 2000000 in
theorem is_bad (p : Nat) (e bad : Int) (w : World) (hb : bad ≠ 0) : Calls Tryz.prog 11 #[.agg #[.bool false, .slice none 0 0, .int .i64 0], .int .i64 bad, .agg #[.pointer (some ⟨p, 0, none⟩), .int .i64 e], .int .i64 bad] w fun r w' => r = .returned (.bool true) ∧ Below w.heap.size w w' := by
  have hb2 : (bad == 0) = false := by simpa using hb
  have HSM := hid (fun (W : World) => Same_dy false false none none 0 0 0 0 0 0 0 0 W (dy_zero W 0) (dy_zero W 0))
  have HB0 : Hid (Below w.heap.size w (((w.alloc (DyBox false none 0 0 0)).alloc (XBox (some ⟨p, 0, none⟩) e)).alloc (DyBox false none 0 0 0))) := (((Below.refl _ _).alloc (Nat.le_refl _) _).alloc (by simp) _).alloc (by simp; omega) _
  unfold DyBox XBox at HB0
  go_enter Tryz.func11, Tryz.ntmps11
  go_wp2_with fail
  refine (HSM.out _).mono ?_
  rintro r w1 ⟨rfl, hb1⟩
  have HB1 := hid (HB0.out.trans (hb1.mono HB0.out.size))
  clear hb1
  go_wp2
  go_ret
  exact ⟨rfl, HB1.out⟩
set_option maxRecDepth 4000 in
set_option maxHeartbeats 2000000 in
theorem is_ok (neg : Bool) (a : Option Addr) (k c p : Nat) (e' z B e : Int) (w : World) (hd : DyAt w neg a k c e' z B) (hx : ExV w p e B z 200) (he1 : -10000 ≤ e) (he2 : e ≤ 10000) (hT : Tab32 w) (hs : 1 < w.heap.size) :
    Calls Tryz.prog 11 #[.agg #[.bool neg, .slice a k c, .int .i64 e'], .int .i64 0, .agg #[.pointer (some ⟨p, 0, none⟩), .int .i64 e], .int .i64 0] w fun r w' => r = .returned (.bool true) ∧ Below w.heap.size w w' := by
  obtain ⟨g1, g2, g3⟩ := three_blk w (DyBox neg a k c e') (XBox (some ⟨p, 0, none⟩) e) (DyBox false none 0 0 0)
  have HB0 : Hid (Below w.heap.size w (((w.alloc (DyBox neg a k c e')).alloc (XBox (some ⟨p, 0, none⟩) e)).alloc (DyBox false none 0 0 0))) := (((Below.refl _ _).alloc (Nat.le_refl _) _).alloc (by simp) _).alloc (by simp; omega) _
  obtain ⟨W0, hW0⟩ : ∃ V, Hid (((w.alloc (DyBox neg a k c e')).alloc (XBox (some ⟨p, 0, none⟩) e)).alloc (DyBox false none 0 0 0) = V) := ⟨_, rfl⟩
  have HS0 : Hid (W0.heap.size = w.heap.size + 3) := by
    show W0.heap.size = w.heap.size + 3
    rw [← hW0.out]; simp
  rw [hW0.out] at g1 g3 HB0
  have HO := hid (xOut_any p e B z W0 (hx.below HB0.out) he1 he2 (hT.below hs HB0.out) (Nat.lt_of_lt_of_le hs HB0.out.size))
  have HD := hid (hd.below HB0.out)
  have HG1 := hid g1
  have HG3 := hid g3
  unfold DyBox XBox at hW0
  clear hd hx he1 he2 hT hs g1 g2 g3
  go_enter Tryz.func11, Tryz.ntmps11
  go_wp2_with fail
  rw [hW0.out]
  refine HO.out.mono ?_
  rintro r w1 ⟨n2, a2, k2, c2, e2, rfl, hd2, hb1⟩
  have q1 : w1.heap[w.heap.size]? = some (DyBox neg a k c e') := by rw [hb1.block _ (by have := HS0.out; omega)]; exact HG1.out
  have q3 : w1.heap[w.heap.size + 2]? = some (DyBox false none 0 0 0) := by rw [hb1.block _ (by have := HS0.out; omega)]; exact HG3.out
  obtain ⟨V, hV⟩ : ∃ V, Hid (((w1.setCell ⟨w.heap.size + 2, 0, none⟩ (.bool n2)).setCell ⟨w.heap.size + 2, 1, none⟩ (.slice a2 k2 c2)).setCell ⟨w.heap.size + 2, 2, none⟩ (.int .i64 e2) = V) := ⟨_, rfl⟩
  have HSM : Hid (Calls Tryz.prog 24 #[.agg #[.bool neg, .slice a k c, .int .i64 e'], .agg #[.bool n2, .slice a2 k2 c2, .int .i64 e2]] V fun r w' => r = .returned (.bool true) ∧ Below V.heap.size V w') := by
    have d1 := (HD.out.below hb1).stored q3 (.bool n2) (.slice a2 k2 c2) (.int .i64 e2)
    have d2 := hd2.stored q3 (.bool n2) (.slice a2 k2 c2) (.int .i64 e2)
    rw [hV.out] at d1 d2
    exact Same_dy _ _ _ _ _ _ _ _ _ _ _ _ V d1 d2
  have HBV : Hid (Below w.heap.size w V) := by
    rw [← hV.out]
    exact Below.setCell (Below.setCell (Below.setCell (HB0.out.trans (hb1.mono HB0.out.size)) (by show w.heap.size ≤ w.heap.size + 2; omega) _) (by show w.heap.size ≤ w.heap.size + 2; omega) _) (by show w.heap.size ≤ w.heap.size + 2; omega) _
  have v1 : V.heap[w.heap.size]? = some (DyBox neg a k c e') := by
    rw [← hV.out]
    show (World.setCell _ _ _).heap[_]? = _
    rw [set_keep (by omega), set_keep (by omega), set_keep (by omega)]
    exact q1
  have v3 : V.heap[w.heap.size + 2]? = some (DyBox n2 a2 k2 c2 e2) := by
    rw [← hV.out]
    unfold DyBox at q3 ⊢
    simp [World.setCell, Array.getElem?_modify, q3]
  obtain ⟨x0, x1, x2⟩ := dcells_of v1
  obtain ⟨y0, y1, y2⟩ := dcells_of v3
  obtain ⟨t0, t1, t2⟩ := dcells_of q3
  have fz : ∀ o, w1.frozen? ⟨w.heap.size + 2, o, none⟩ = false := fun o => by unfold DyBox at q3; simp [World.frozen?, q3]
  have hV' := hV.out
  clear hd2 hb1 q1 q3 v1 v3
  go_wp2_with fail
  refine HSM.out.mono ?_
  rintro r w2 ⟨rfl, hb2⟩
  have HB2 := hid (HBV.out.trans (hb2.mono HBV.out.size))
  clear hb2
  go_wp2
  go_ret
  exact ⟨rfl, HB2.out⟩
end Go.Proofs.YtphdinjmkhefmaaGreatDoor

namespace Go.Proofs.YtphdinjmkhefmaaGreatDoor
open Go.RowKit

set_option maxHeartbeats 400000 in
theorem wordOf_norm (neg : Bool) (m : Nat) (e : Int) (w : World) (hm : m < 18446744073709551616) (hm0 : ((m : Int) == 0) = false) (hT : Tab w) (hs : 2 < w.heap.size)
    (he1 : -1139 ≤ e) (he2 : e ≤ 1075) (htz : (tzOf m : Int) ≤ 63) (hl : (lenOf m : Int) ≤ 53) (hlow : -1074 ≤ e + (tzOf m : Int)) (X : Nat) (hX : e + (tzOf m : Int) + (lenOf m : Int) - 1 + 1075 - 52 = (X : Int)) (hex1 : 0 < X) (hex2 : X < 2047) :
    Calls Tryz.prog 102 #[.agg #[.int .i64 52, .int .u64 4503599627370495, .int .u64 2047, .int .u64 9223372036854775808, .int .u64 9218868437227405312, .int .u64 9221120237041090561, .int .i64 1075], .agg #[.bool neg, .int .u64 m, .int .i64 e]] w fun r w' => r = .returned (.tuple #[.int .u64 (signN neg (packN X (wfracOf m))), .int .i64 0]) ∧ Below w.heap.size w w' := by
  have hsh := odd_cast m
  have HX : Hid (e + (tzOf m : Int) + (lenOf m : Int) - 1 + 1075 - 52 = (X : Int)) := hX
  clear hX
  have HM : Hid (m < 18446744073709551616) := hm
  have HO : Hid (oddOf m < 18446744073709551616) := by have := odd_le m; exact Nat.lt_of_le_of_lt this hm
  have HL : Hid (bitLen (oddOf m) = lenOf m) := rfl
  clear hm
  go_enter Tryz.func102, Tryz.ntmps102
  go_wp2_with fail
  refine (tz_any m _ HM.out (hT.below hs (((Below.refl _ _).alloc (Nat.le_refl _) _).alloc (by simp) _))).mono ?_
  rintro r w1 ⟨rfl, rfl⟩
  go_wp2_with fail
  go_quiet (fail)
  go_wp2_with fail
  refine (len_any (oddOf m) _ HO.out).mono ?_
  rintro r w2 ⟨rfl, rfl⟩
  rw [HL.out]
  have hX := HX.out
  go_wp2_with fail
  refine (lowest_any 0 _ (by omega) (by omega)).mono ?_
  rintro r w3 ⟨rfl, rfl⟩
  go_wp2_with fail
  have hfr := wfrac_w m
  have HP : Hid (bits .or .u64 (IntKind.u64.wrap (IntKind.u64.wrap (X : Int) * 4503599627370496)) (wfracOf m : Int) = (packN X (wfracOf m) : Int)) := pack_w X _ (by omega) (wfrac_lt m)
  have HPL : Hid (packN X (wfracOf m) < 9223372036854775808) := pack_lt X _ (by omega) (wfrac_lt m)
  go_quiet (fail)
  go_wp2_with fail
  go_region_held3 (fun w' => (w'.cell? ⟨w.heap.size, 0, none⟩ = some (.int .i64 52) ∧ w'.cell? ⟨w.heap.size, 1, none⟩ = some (.int .u64 4503599627370495) ∧ w'.cell? ⟨w.heap.size, 2, none⟩ = some (.int .u64 2047) ∧ w'.cell? ⟨w.heap.size, 3, none⟩ = some (.int .u64 9223372036854775808) ∧ w'.cell? ⟨w.heap.size, 4, none⟩ = some (.int .u64 9218868437227405312) ∧ w'.cell? ⟨w.heap.size, 5, none⟩ = some (.int .u64 9221120237041090561) ∧ w'.cell? ⟨w.heap.size, 6, none⟩ = some (.int .i64 1075)) ∧ (w'.cell? ⟨w.heap.size + 1, 0, none⟩ = some (.bool neg) ∧ w'.cell? ⟨w.heap.size + 1, 1, none⟩ = some (.int .u64 m) ∧ w'.cell? ⟨w.heap.size + 1, 2, none⟩ = some (.int .i64 e))) (go_keep)
    (first | (go_at_call 103; rw [HP.out]; refine (signed_any neg (packN X (wfracOf m)) _ HPL.out).mono ?_; rintro r w' ⟨rfl, rfl⟩))
  go_wp2
  go_ret2
  refine ⟨rfl, ?_⟩
  repeat (first | exact Below.refl _ _ | refine bl_al ?_ _ | refine bl_drewN _ ?_ | refine Below.drew ?_)

set_option maxHeartbeats 400000 in
theorem wordOf_sub (neg : Bool) (m : Nat) (e : Int) (w : World) (hm : m < 18446744073709551616) (hm0 : ((m : Int) == 0) = false) (hT : Tab w) (hs : 2 < w.heap.size)
    (he1 : -1139 ≤ e) (he2 : e ≤ 1075) (htz : (tzOf m : Int) ≤ 63) (hl : (lenOf m : Int) ≤ 53) (L : Nat) (hlow : e + (tzOf m : Int) = (L : Int) - 1074) (hex2 : L + lenOf m ≤ 52) :
    Calls Tryz.prog 102 #[.agg #[.int .i64 52, .int .u64 4503599627370495, .int .u64 2047, .int .u64 9223372036854775808, .int .u64 9218868437227405312, .int .u64 9221120237041090561, .int .i64 1075], .agg #[.bool neg, .int .u64 m, .int .i64 e]] w fun r w' => r = .returned (.tuple #[.int .u64 (signN neg (oddOf m * 2 ^ L)), .int .i64 0]) ∧ Below w.heap.size w w' := by
  have hsh := odd_cast m
  have HX : Hid (e + (tzOf m : Int) = (L : Int) - 1074) := hlow
  have HM : Hid (m < 18446744073709551616) := hm
  have HO : Hid (oddOf m < 18446744073709551616) := by have := odd_le m; exact Nat.lt_of_le_of_lt this hm
  have HL : Hid (bitLen (oddOf m) = lenOf m) := rfl
  clear hm hlow
  have hlo : -1074 ≤ e + (tzOf m : Int) := by have := HX.out; omega
  have hhi : e + (tzOf m : Int) + (lenOf m : Int) - 1 + 1075 - 52 < 1 := by have := HX.out; omega
  have HP : Hid (IntKind.u64.wrap ((oddOf m : Int) * 2 ^ L) = ((oddOf m * 2 ^ L : Nat) : Int)) := sub_w m L hex2
  have HPL : Hid (oddOf m * 2 ^ L < 9223372036854775808) := by have := sub_lt_w m L hex2; exact Nat.lt_trans this (by decide)
  have hw1 : IntKind.i64.wrap (e + (tzOf m : Int) - -1074) = (L : Int) := by have := HX.out; rw [IntWalk.i64_in _ (by omega)]; omega
  have hw2 : IntKind.i64.wrap (e + (tzOf m : Int) + 1074) = (L : Int) := by have := HX.out; rw [IntWalk.i64_in _ (by omega)]; omega
  go_enter Tryz.func102, Tryz.ntmps102
  go_wp2_with fail
  refine (tz_any m _ HM.out (hT.below hs (((Below.refl _ _).alloc (Nat.le_refl _) _).alloc (by simp) _))).mono ?_
  rintro r w1 ⟨rfl, rfl⟩
  go_wp2_with fail
  go_quiet (fail)
  go_wp2_with fail
  refine (len_any (oddOf m) _ HO.out).mono ?_
  rintro r w2 ⟨rfl, rfl⟩
  rw [HL.out]
  go_wp2_with fail
  refine (lowest0_b _).mono ?_
  rintro r w3 ⟨rfl, hb⟩
  obtain ⟨hc, hf⟩ := bcell hb
  have hcells : (w3.cell? ⟨w.heap.size, 0, none⟩ = some (.int .i64 52) ∧ w3.cell? ⟨w.heap.size, 1, none⟩ = some (.int .u64 4503599627370495) ∧ w3.cell? ⟨w.heap.size, 2, none⟩ = some (.int .u64 2047) ∧ w3.cell? ⟨w.heap.size, 3, none⟩ = some (.int .u64 9223372036854775808) ∧ w3.cell? ⟨w.heap.size, 4, none⟩ = some (.int .u64 9218868437227405312) ∧ w3.cell? ⟨w.heap.size, 5, none⟩ = some (.int .u64 9221120237041090561) ∧ w3.cell? ⟨w.heap.size, 6, none⟩ = some (.int .i64 1075)) ∧ (w3.cell? ⟨w.heap.size + 1, 0, none⟩ = some (.bool neg) ∧ w3.cell? ⟨w.heap.size + 1, 1, none⟩ = some (.int .u64 m) ∧ w3.cell? ⟨w.heap.size + 1, 2, none⟩ = some (.int .i64 e)) := by
    refine ⟨⟨?_, ?_, ?_, ?_, ?_, ?_, ?_⟩, ?_, ?_, ?_⟩ <;> (rw [hc _ _ (by simp <;> omega)]; simp [go_sem])
  have hz : w.heap.size + 1 < w3.heap.size := by have := hb.size; simp at this; omega
  have hbb : Hid (Below w.heap.size w w3) := by
    refine Below.trans ?_ (hb.mono ?_)
    · repeat (first | exact Below.refl _ _ | refine bl_al ?_ _ | refine bl_drewN _ ?_)
    · simp; omega
  clear hc hf hb
  obtain ⟨⟨q0, q1, q2, q3, q4, q5, q6⟩, p0, p1, p2⟩ := hcells
  go_wp2_with fail
  go_region_held3 (fun w' => (w'.cell? ⟨w.heap.size, 0, none⟩ = some (.int .i64 52) ∧ w'.cell? ⟨w.heap.size, 1, none⟩ = some (.int .u64 4503599627370495) ∧ w'.cell? ⟨w.heap.size, 2, none⟩ = some (.int .u64 2047) ∧ w'.cell? ⟨w.heap.size, 3, none⟩ = some (.int .u64 9223372036854775808) ∧ w'.cell? ⟨w.heap.size, 4, none⟩ = some (.int .u64 9218868437227405312) ∧ w'.cell? ⟨w.heap.size, 5, none⟩ = some (.int .u64 9221120237041090561) ∧ w'.cell? ⟨w.heap.size, 6, none⟩ = some (.int .i64 1075)) ∧ (w'.cell? ⟨w.heap.size + 1, 0, none⟩ = some (.bool neg) ∧ w'.cell? ⟨w.heap.size + 1, 1, none⟩ = some (.int .u64 m) ∧ w'.cell? ⟨w.heap.size + 1, 2, none⟩ = some (.int .i64 e))) (go_keep)
    (first | (go_at_call 84; refine (lowest0 _).mono ?_; rintro r w' ⟨rfl, rfl⟩) | (go_at_call 103; rw [HP.out]; refine (signed_any neg (oddOf m * 2 ^ L) _ HPL.out).mono ?_; rintro r w' ⟨rfl, rfl⟩))
  go_wp2
  go_ret2
  refine ⟨rfl, ?_⟩
  repeat (first | exact hbb.out | refine bl_al ?_ _ | refine bl_drewN _ ?_ | refine Below.drew ?_)
end Go.Proofs.YtphdinjmkhefmaaGreatDoor
