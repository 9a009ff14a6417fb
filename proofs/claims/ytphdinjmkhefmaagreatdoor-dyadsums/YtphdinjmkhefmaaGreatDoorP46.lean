
/- The law's is: a dyad against an exact number, or against none beside an error. -/
import Derived.Test.YtphdinjmkhefmaaGreatDoorP43
import Derived.Test.YtphdinjmkhefmaaGreatDoorP45
import Derived.Test.YtphdinjmkhefmaaGreatDoorP3
import Derived.Test.YtphdinjmkhefmaaGreatDoorP4
import Derived.Test.YtphdinjmkhefmaaGreatDoorP2
import Derived.Test.YtphdinjmkhefmaaGreatDoorP40
import Derived.Test.YtphdinjmkhefmaaGreatDoorP17
import Derived.Test.YtphdinjmkhefmaaGreatDoorP8
namespace Go.Proofs.YtphdinjmkhefmaaGreatDoor
open Go.RowKit Go.IntWalk

theorem dy_zero (w : World) (e : Int) : DyAt w false none 0 0 0 0 e := ⟨[], rfl, Nat.le_refl _, fun _ hi => absurd hi (Nat.not_lt_zero _), ⟨fun _ hd => absurd hd List.not_mem_nil, fun h => absurd rfl h, Or.inl ⟨rfl, rfl, rfl, rfl⟩⟩, Or.inl ⟨rfl, rfl, rfl⟩⟩
theorem DyAt.stored {W : World} {b : Nat} {n1 n2 : Bool} {a1 a2 : Option Addr} {k1 k2 c1 c2 : Nat} {e1 e2 z e : Int} (h : DyAt W n1 a1 k1 c1 e1 z e) (hb : W.heap[b]? = some (DyBox n2 a2 k2 c2 e2)) (x y v : Value) : DyAt (((W.setCell ⟨b, 0, none⟩ x).setCell ⟨b, 1, none⟩ y).setCell ⟨b, 2, none⟩ v) n1 a1 k1 c1 e1 z e := by
  obtain ⟨L, h1, h2, h3, h4, h5⟩ := h
  refine ⟨L, h1, h2, h3.but ((((But.refl b W).setCell 0 _).setCell 1 _).setCell 2 _) (fun b' off e h0 hc => ?_), h4, h5⟩
  obtain ⟨b2, off2, g1, _, g3⟩ := h3 0 (by omega)
  rw [e] at g1
  cases g1
  subst hc
  exact noword_dy hb _ _ g3
set_option maxRecDepth 4000 in
set_option maxHeartbeats 2000000 in
theorem is_bad (p : Nat) (e bad : Int) (w : World) (hb : bad ≠ 0) : Calls Tryz.prog 11 #[.agg #[.bool false, .slice none 0 0, .int .i64 0], .int .i64 bad, .agg #[.pointer (some ⟨p, 0, none⟩), .int .i64 e], .int .i64 bad] w fun r w' => r = .returned (.bool true) ∧ Below w.heap.size w w' := by
  have hb2 : (bad == 0) = false := by simpa using hb
  have HSM := hid (fun (W : World) => Same_dy false false none none 0 0 0 0 0 0 0 0 W (dy_zero W 0) (dy_zero W 0))
  have HB0 : Hid (Below w.heap.size w (((w.alloc (DyBox false none 0 0 0)).alloc (XBox (some ⟨p, 0, none⟩) e)).alloc (DyBox false none 0 0 0))) := (((Below.refl _ _).alloc (Nat.le_refl _) _).alloc (by simp) _).alloc (by simp; omega) _
  unfold DyBox XBox at HB0
  go_enter Tryz.func11, Tryz.ntmps11
  go_wp2_with fail
  refine (HSM.out _).mono ?_
  rintro r w1 ⟨rfl, hb1⟩
  have HB1 := hid (HB0.out.trans (hb1.mono HB0.out.size))
  clear hb1
  go_wp2
  go_ret
  exact ⟨rfl, HB1.out⟩
set_option maxRecDepth 4000 in
set_option maxHeartbeats 2000000 in
theorem is_ok (neg : Bool) (a : Option Addr) (k c p : Nat) (e' z B e : Int) (w : World) (hd : DyAt w neg a k c e' z B) (hx : ExV w p e B z 200) (he1 : -10000 ≤ e) (he2 : e ≤ 10000) (hT : Tab32 w) (hs : 1 < w.heap.size) :
    Calls Tryz.prog 11 #[.agg #[.bool neg, .slice a k c, .int .i64 e'], .int .i64 0, .agg #[.pointer (some ⟨p, 0, none⟩), .int .i64 e], .int .i64 0] w fun r w' => r = .returned (.bool true) ∧ Below w.heap.size w w' := by
  obtain ⟨g1, g2, g3⟩ := three_blk w (DyBox neg a k c e') (XBox (some ⟨p, 0, none⟩) e) (DyBox false none 0 0 0)
  have HB0 : Hid (Below w.heap.size w (((w.alloc (DyBox neg a k c e')).alloc (XBox (some ⟨p, 0, none⟩) e)).alloc (DyBox false none 0 0 0))) := (((Below.refl _ _).alloc (Nat.le_refl _) _).alloc (by simp) _).alloc (by simp; omega) _
  obtain ⟨W0, hW0⟩ : ∃ V, Hid (((w.alloc (DyBox neg a k c e')).alloc (XBox (some ⟨p, 0, none⟩) e)).alloc (DyBox false none 0 0 0) = V) := ⟨_, rfl⟩
  have HS0 : Hid (W0.heap.size = w.heap.size + 3) := by
    show W0.heap.size = w.heap.size + 3
    rw [← hW0.out]; simp
  rw [hW0.out] at g1 g3 HB0
  have HO := hid (xOut_any p e B z W0 (hx.below HB0.out) he1 he2 (hT.below hs HB0.out) (Nat.lt_of_lt_of_le hs HB0.out.size))
  have HD := hid (hd.below HB0.out)
  have HG1 := hid g1
  have HG3 := hid g3
  unfold DyBox XBox at hW0
  clear hd hx he1 he2 hT hs g1 g2 g3
  go_enter Tryz.func11, Tryz.ntmps11
  go_wp2_with fail
  rw [hW0.out]
  refine HO.out.mono ?_
  rintro r w1 ⟨n2, a2, k2, c2, e2, rfl, hd2, hb1⟩
  have q1 : w1.heap[w.heap.size]? = some (DyBox neg a k c e') := by rw [hb1.block _ (by have := HS0.out; omega)]; exact HG1.out
  have q3 : w1.heap[w.heap.size + 2]? = some (DyBox false none 0 0 0) := by rw [hb1.block _ (by have := HS0.out; omega)]; exact HG3.out
  obtain ⟨V, hV⟩ : ∃ V, Hid (((w1.setCell ⟨w.heap.size + 2, 0, none⟩ (.bool n2)).setCell ⟨w.heap.size + 2, 1, none⟩ (.slice a2 k2 c2)).setCell ⟨w.heap.size + 2, 2, none⟩ (.int .i64 e2) = V) := ⟨_, rfl⟩
  have HSM : Hid (Calls Tryz.prog 24 #[.agg #[.bool neg, .slice a k c, .int .i64 e'], .agg #[.bool n2, .slice a2 k2 c2, .int .i64 e2]] V fun r w' => r = .returned (.bool true) ∧ Below V.heap.size V w') := by
    have d1 := (HD.out.below hb1).stored q3 (.bool n2) (.slice a2 k2 c2) (.int .i64 e2)
    have d2 := hd2.stored q3 (.bool n2) (.slice a2 k2 c2) (.int .i64 e2)
    rw [hV.out] at d1 d2
    exact Same_dy _ _ _ _ _ _ _ _ _ _ _ _ V d1 d2
  have HBV : Hid (Below w.heap.size w V) := by
    rw [← hV.out]
    exact Below.setCell (Below.setCell (Below.setCell (HB0.out.trans (hb1.mono HB0.out.size)) (by show w.heap.size ≤ w.heap.size + 2; omega) _) (by show w.heap.size ≤ w.heap.size + 2; omega) _) (by show w.heap.size ≤ w.heap.size + 2; omega) _
  have v1 : V.heap[w.heap.size]? = some (DyBox neg a k c e') := by
    rw [← hV.out]
    show (World.setCell _ _ _).heap[_]? = _
    rw [set_keep (by omega), set_keep (by omega), set_keep (by omega)]
    exact q1
  have v3 : V.heap[w.heap.size + 2]? = some (DyBox n2 a2 k2 c2 e2) := by
    rw [← hV.out]
    unfold DyBox at q3 ⊢
    simp [World.setCell, Array.getElem?_modify, q3]
  obtain ⟨x0, x1, x2⟩ := dcells_of v1
  obtain ⟨y0, y1, y2⟩ := dcells_of v3
  obtain ⟨t0, t1, t2⟩ := dcells_of q3
  have fz : ∀ o, w1.frozen? ⟨w.heap.size + 2, o, none⟩ = false := fun o => by unfold DyBox at q3; simp [World.frozen?, q3]
  have hV' := hV.out
  clear hd2 hb1 q1 q3 v1 v3
  go_wp2_with fail
  refine HSM.out.mono ?_
  rintro r w2 ⟨rfl, hb2⟩
  have HB2 := hid (HBV.out.trans (hb2.mono HBV.out.size))
  clear hb2
  go_wp2
  go_ret
  exact ⟨rfl, HB2.out⟩
end Go.Proofs.YtphdinjmkhefmaaGreatDoor

namespace Go.Proofs.YtphdinjmkhefmaaGreatDoor
open Go.RowKit

set_option maxHeartbeats 400000 in
theorem wordOf_norm (neg : Bool) (m : Nat) (e : Int) (w : World) (hm : m < 18446744073709551616) (hm0 : ((m : Int) == 0) = false) (hT : Tab w) (hs : 2 < w.heap.size)
    (he1 : -1139 ≤ e) (he2 : e ≤ 1075) (htz : (tzOf m : Int) ≤ 63) (hl : (lenOf m : Int) ≤ 53) (hlow : -1074 ≤ e + (tzOf m : Int)) (X : Nat) (hX : e + (tzOf m : Int) + (lenOf m : Int) - 1 + 1075 - 52 = (X : Int)) (hex1 : 0 < X) (hex2 : X < 2047) :
    Calls Tryz.prog 102 #[.agg #[.int .i64 52, .int .u64 4503599627370495, .int .u64 2047, .int .u64 9223372036854775808, .int .u64 9218868437227405312, .int .u64 9221120237041090561, .int .i64 1075], .agg #[.bool neg, .int .u64 m, .int .i64 e]] w fun r w' => r = .returned (.tuple #[.int .u64 (signN neg (packN X (wfracOf m))), .int .i64 0]) ∧ Below w.heap.size w w' := by
  have hsh := odd_cast m
  have HX : Hid (e + (tzOf m : Int) + (lenOf m : Int) - 1 + 1075 - 52 = (X : Int)) := hX
  clear hX
  have HM : Hid (m < 18446744073709551616) := hm
  have HO : Hid (oddOf m < 18446744073709551616) := by have := odd_le m; exact Nat.lt_of_le_of_lt this hm
  have HL : Hid (bitLen (oddOf m) = lenOf m) := rfl
  clear hm
  go_enter Tryz.func102, Tryz.ntmps102
  go_wp2_with fail
  refine (tz_any m _ HM.out (hT.below hs (((Below.refl _ _).alloc (Nat.le_refl _) _).alloc (by simp) _))).mono ?_
  rintro r w1 ⟨rfl, rfl⟩
  go_wp2_with fail
  go_quiet (fail)
  go_wp2_with fail
  refine (len_any (oddOf m) _ HO.out).mono ?_
  rintro r w2 ⟨rfl, rfl⟩
  rw [HL.out]
  have hX := HX.out
  go_wp2_with fail
  refine (lowest_any 0 _ (by omega) (by omega)).mono ?_
  rintro r w3 ⟨rfl, rfl⟩
  go_wp2_with fail
  have hfr := wfrac_w m
  have HP : Hid (bits .or .u64 (IntKind.u64.wrap (IntKind.u64.wrap (X : Int) * 4503599627370496)) (wfracOf m : Int) = (packN X (wfracOf m) : Int)) := pack_w X _ (by omega) (wfrac_lt m)
  have HPL : Hid (packN X (wfracOf m) < 9223372036854775808) := pack_lt X _ (by omega) (wfrac_lt m)
  go_quiet (fail)
  go_wp2_with fail
  go_region_held3 (fun w' => (w'.cell? ⟨w.heap.size, 0, none⟩ = some (.int .i64 52) ∧ w'.cell? ⟨w.heap.size, 1, none⟩ = some (.int .u64 4503599627370495) ∧ w'.cell? ⟨w.heap.size, 2, none⟩ = some (.int .u64 2047) ∧ w'.cell? ⟨w.heap.size, 3, none⟩ = some (.int .u64 9223372036854775808) ∧ w'.cell? ⟨w.heap.size, 4, none⟩ = some (.int .u64 9218868437227405312) ∧ w'.cell? ⟨w.heap.size, 5, none⟩ = some (.int .u64 9221120237041090561) ∧ w'.cell? ⟨w.heap.size, 6, none⟩ = some (.int .i64 1075)) ∧ (w'.cell? ⟨w.heap.size + 1, 0, none⟩ = some (.bool neg) ∧ w'.cell? ⟨w.heap.size + 1, 1, none⟩ = some (.int .u64 m) ∧ w'.cell? ⟨w.heap.size + 1, 2, none⟩ = some (.int .i64 e))) (go_keep)
    (first | (go_at_call 103; rw [HP.out]; refine (signed_any neg (packN X (wfracOf m)) _ HPL.out).mono ?_; rintro r w' ⟨rfl, rfl⟩))
  go_wp2
  go_ret2
  refine ⟨rfl, ?_⟩
  repeat (first | exact Below.refl _ _ | refine bl_al ?_ _ | refine bl_drewN _ ?_ | refine Below.drew ?_)

set_option maxHeartbeats 400000 in
theorem wordOf_sub (neg : Bool) (m : Nat) (e : Int) (w : World) (hm : m < 18446744073709551616) (hm0 : ((m : Int) == 0) = false) (hT : Tab w) (hs : 2 < w.heap.size)
    (he1 : -1139 ≤ e) (he2 : e ≤ 1075) (htz : (tzOf m : Int) ≤ 63) (hl : (lenOf m : Int) ≤ 53) (L : Nat) (hlow : e + (tzOf m : Int) = (L : Int) - 1074) (hex2 : L + lenOf m ≤ 52) :
    Calls Tryz.prog 102 #[.agg #[.int .i64 52, .int .u64 4503599627370495, .int .u64 2047, .int .u64 9223372036854775808, .int .u64 9218868437227405312, .int .u64 9221120237041090561, .int .i64 1075], .agg #[.bool neg, .int .u64 m, .int .i64 e]] w fun r w' => r = .returned (.tuple #[.int .u64 (signN neg (oddOf m * 2 ^ L)), .int .i64 0]) ∧ Below w.heap.size w w' := by
  have hsh := odd_cast m
  have HX : Hid (e + (tzOf m : Int) = (L : Int) - 1074) := hlow
  have HM : Hid (m < 18446744073709551616) := hm
  have HO : Hid (oddOf m < 18446744073709551616) := by have := odd_le m; exact Nat.lt_of_le_of_lt this hm
  have HL : Hid (bitLen (oddOf m) = lenOf m) := rfl
  clear hm hlow
  have hlo : -1074 ≤ e + (tzOf m : Int) := by have := HX.out; omega
  have hhi : e + (tzOf m : Int) + (lenOf m : Int) - 1 + 1075 - 52 < 1 := by have := HX.out; omega
  have HP : Hid (IntKind.u64.wrap ((oddOf m : Int) * 2 ^ L) = ((oddOf m * 2 ^ L : Nat) : Int)) := sub_w m L hex2
  have HPL : Hid (oddOf m * 2 ^ L < 9223372036854775808) := by have := sub_lt_w m L hex2; exact Nat.lt_trans this (by decide)
  have hw1 : IntKind.i64.wrap (e + (tzOf m : Int) - -1074) = (L : Int) := by have := HX.out; rw [IntWalk.i64_in _ (by omega)]; omega
  have hw2 : IntKind.i64.wrap (e + (tzOf m : Int) + 1074) = (L : Int) := by have := HX.out; rw [IntWalk.i64_in _ (by omega)]; omega
  go_enter Tryz.func102, Tryz.ntmps102
  go_wp2_with fail
  refine (tz_any m _ HM.out (hT.below hs (((Below.refl _ _).alloc (Nat.le_refl _) _).alloc (by simp) _))).mono ?_
  rintro r w1 ⟨rfl, rfl⟩
  go_wp2_with fail
  go_quiet (fail)
  go_wp2_with fail
  refine (len_any (oddOf m) _ HO.out).mono ?_
  rintro r w2 ⟨rfl, rfl⟩
  rw [HL.out]
  go_wp2_with fail
  refine (lowest0_b _).mono ?_
  rintro r w3 ⟨rfl, hb⟩
  obtain ⟨hc, hf⟩ := bcell hb
  have hcells : (w3.cell? ⟨w.heap.size, 0, none⟩ = some (.int .i64 52) ∧ w3.cell? ⟨w.heap.size, 1, none⟩ = some (.int .u64 4503599627370495) ∧ w3.cell? ⟨w.heap.size, 2, none⟩ = some (.int .u64 2047) ∧ w3.cell? ⟨w.heap.size, 3, none⟩ = some (.int .u64 9223372036854775808) ∧ w3.cell? ⟨w.heap.size, 4, none⟩ = some (.int .u64 9218868437227405312) ∧ w3.cell? ⟨w.heap.size, 5, none⟩ = some (.int .u64 9221120237041090561) ∧ w3.cell? ⟨w.heap.size, 6, none⟩ = some (.int .i64 1075)) ∧ (w3.cell? ⟨w.heap.size + 1, 0, none⟩ = some (.bool neg) ∧ w3.cell? ⟨w.heap.size + 1, 1, none⟩ = some (.int .u64 m) ∧ w3.cell? ⟨w.heap.size + 1, 2, none⟩ = some (.int .i64 e)) := by
    refine ⟨⟨?_, ?_, ?_, ?_, ?_, ?_, ?_⟩, ?_, ?_, ?_⟩ <;> (rw [hc _ _ (by simp <;> omega)]; simp [go_sem])
  have hz : w.heap.size + 1 < w3.heap.size := by have := hb.size; simp at this; omega
  have hbb : Hid (Below w.heap.size w w3) := by
    refine Below.trans ?_ (hb.mono ?_)
    · repeat (first | exact Below.refl _ _ | refine bl_al ?_ _ | refine bl_drewN _ ?_)
    · simp; omega
  clear hc hf hb
  obtain ⟨⟨q0, q1, q2, q3, q4, q5, q6⟩, p0, p1, p2⟩ := hcells
  go_wp2_with fail
  go_region_held3 (fun w' => (w'.cell? ⟨w.heap.size, 0, none⟩ = some (.int .i64 52) ∧ w'.cell? ⟨w.heap.size, 1, none⟩ = some (.int .u64 4503599627370495) ∧ w'.cell? ⟨w.heap.size, 2, none⟩ = some (.int .u64 2047) ∧ w'.cell? ⟨w.heap.size, 3, none⟩ = some (.int .u64 9223372036854775808) ∧ w'.cell? ⟨w.heap.size, 4, none⟩ = some (.int .u64 9218868437227405312) ∧ w'.cell? ⟨w.heap.size, 5, none⟩ = some (.int .u64 9221120237041090561) ∧ w'.cell? ⟨w.heap.size, 6, none⟩ = some (.int .i64 1075)) ∧ (w'.cell? ⟨w.heap.size + 1, 0, none⟩ = some (.bool neg) ∧ w'.cell? ⟨w.heap.size + 1, 1, none⟩ = some (.int .u64 m) ∧ w'.cell? ⟨w.heap.size + 1, 2, none⟩ = some (.int .i64 e))) (go_keep)
    (first | (go_at_call 84; refine (lowest0 _).mono ?_; rintro r w' ⟨rfl, rfl⟩) | (go_at_call 103; rw [HP.out]; refine (signed_any neg (oddOf m * 2 ^ L) _ HPL.out).mono ?_; rintro r w' ⟨rfl, rfl⟩))
  go_wp2
  go_ret2
  refine ⟨rfl, ?_⟩
  repeat (first | exact hbb.out | refine bl_al ?_ _ | refine bl_drewN _ ?_ | refine Below.drew ?_)
end Go.Proofs.YtphdinjmkhefmaaGreatDoor

namespace Go.Proofs.YtphdinjmkhefmaaGreatDoor
open Go.RowKit Go.IntWalk

set_option maxHeartbeats 400000 in
theorem wordOf_zero (neg : Bool) (e : Int) (w : World) :
    Calls Tryz.prog 102 #[.agg #[.int .i64 52, .int .u64 4503599627370495, .int .u64 2047, .int .u64 9223372036854775808, .int .u64 9218868437227405312, .int .u64 9221120237041090561, .int .i64 1075], .agg #[.bool neg, .int .u64 0, .int .i64 e]] w fun r w' => r = .returned (.tuple #[.int .u64 (signN neg 0), .int .i64 0]) ∧ Below w.heap.size w w' := by
  go_enter Tryz.func102, Tryz.ntmps102
  go_wp2_with fail
  refine (signed_any neg 0 _ (by decide)).mono ?_
  rintro r w1 ⟨rfl, rfl⟩
  go_wp2_with fail
  go_ret2
  refine ⟨rfl, ?_⟩
  repeat (first | exact Below.refl _ _ | refine bl_al ?_ _ | refine bl_drewN _ ?_ | refine Below.drew ?_)
set_option maxHeartbeats 400000 in
theorem wordOf_far (neg : Bool) (m : Nat) (e : Int) (w : World) (hm0 : ((m : Int) == 0) = false) (h : e < -1139 ∨ 1075 < e) :
    Calls Tryz.prog 102 #[.agg #[.int .i64 52, .int .u64 4503599627370495, .int .u64 2047, .int .u64 9223372036854775808, .int .u64 9218868437227405312, .int .u64 9221120237041090561, .int .i64 1075], .agg #[.bool neg, .int .u64 m, .int .i64 e]] w fun r w' => r = .returned (.tuple #[.int .u64 0, .int .i64 10]) ∧ Below w.heap.size w w' := by
  rcases h with h | h
  all_goals
    go_enter Tryz.func102, Tryz.ntmps102
    go_wp2
    go_ret2
    refine ⟨rfl, ?_⟩
    repeat (first | exact Below.refl _ _ | refine bl_al ?_ _ | refine bl_drewN _ ?_ | refine Below.drew ?_)
set_option maxHeartbeats 400000 in
theorem wordOf_none (neg : Bool) (m : Nat) (e : Int) (w : World) (hm : m < 18446744073709551616) (hm0 : ((m : Int) == 0) = false) (hT : Tab w) (hs : 2 < w.heap.size)
    (he1 : -1139 ≤ e) (he2 : e ≤ 1075) (htz : (tzOf m : Int) ≤ 63) (hl : (lenOf m : Int) ≤ 64) (h : 53 < (lenOf m : Int) ∨ (lenOf m : Int) ≤ 53 ∧ e + (tzOf m : Int) < -1074 ∨ (lenOf m : Int) ≤ 53 ∧ -1074 ≤ e + (tzOf m : Int) ∧ 2047 ≤ e + (tzOf m : Int) + (lenOf m : Int) - 1 + 1075 - 52) :
    Calls Tryz.prog 102 #[.agg #[.int .i64 52, .int .u64 4503599627370495, .int .u64 2047, .int .u64 9223372036854775808, .int .u64 9218868437227405312, .int .u64 9221120237041090561, .int .i64 1075], .agg #[.bool neg, .int .u64 m, .int .i64 e]] w fun r w' => r = .returned (.tuple #[.int .u64 0, .int .i64 10]) ∧ Below w.heap.size w w' := by
  have hsh := odd_cast m
  have HM : Hid (m < 18446744073709551616) := hm
  have HO : Hid (oddOf m < 18446744073709551616) := by have := odd_le m; exact Nat.lt_of_le_of_lt this hm
  have HL : Hid (bitLen (oddOf m) = lenOf m) := rfl
  clear hm
  rcases h with h | ⟨h, h2⟩ | ⟨h, h2, h3⟩
  all_goals
    go_enter Tryz.func102, Tryz.ntmps102
    go_wp2_with fail
    refine (tz_any m _ HM.out (hT.below hs (((Below.refl _ _).alloc (Nat.le_refl _) _).alloc (by simp) _))).mono ?_
    rintro r w1 ⟨rfl, rfl⟩
    go_wp2_with fail
    go_quiet (fail)
    go_wp2_with fail
    refine (len_any (oddOf m) _ HO.out).mono ?_
    rintro r w2 ⟨rfl, rfl⟩
    rw [HL.out]
    go_wp2_with fail
  · go_ret2
    refine ⟨rfl, ?_⟩
    repeat (first | exact Below.refl _ _ | refine bl_al ?_ _ | refine bl_drewN _ ?_ | refine Below.drew ?_)
  · refine (lowest0 _).mono ?_
    rintro r w3 ⟨rfl, rfl⟩
    go_wp2_with fail
    go_ret2
    refine ⟨rfl, ?_⟩
    repeat (first | exact Below.refl _ _ | refine bl_al ?_ _ | refine bl_drewN _ ?_ | refine Below.drew ?_)
  · refine (lowest0 _).mono ?_
    rintro r w3 ⟨rfl, rfl⟩
    go_wp2_with fail
    go_ret2
    refine ⟨rfl, ?_⟩
    repeat (first | exact Below.refl _ _ | refine bl_al ?_ _ | refine bl_drewN _ ?_ | refine Below.drew ?_)

theorem wordOf_any (neg : Bool) (m : Nat) (e : Int) (w : World) (hm : m < 18446744073709551616) (hT : Tab w) (hs : 2 < w.heap.size) :
    Calls Tryz.prog 102 #[.agg #[.int .i64 52, .int .u64 4503599627370495, .int .u64 2047, .int .u64 9223372036854775808, .int .u64 9218868437227405312, .int .u64 9221120237041090561, .int .i64 1075], .agg #[.bool neg, .int .u64 m, .int .i64 e]] w fun r w' => r = .returned (.tuple #[.int .u64 (wWord neg m e), .int .i64 (wErr m e)]) ∧ Below w.heap.size w w' := by
  by_cases h0 : m = 0
  · subst h0
    have hb : ¬ wBad 0 e := fun h => h.1 rfl
    unfold wWord wErr wMag
    rw [if_neg hb, if_neg hb, if_pos rfl]
    exact wordOf_zero neg e w
  · have hm0 : ((m : Int) == 0) = false := by simpa using h0
    have htz := (tz_spec m h0 hm).1
    have hlen := len_le m hm
    unfold wWord wErr
    by_cases hb : wBad m e
    · rw [if_pos hb, if_pos hb]
      obtain ⟨_, hb⟩ := hb
      by_cases hf : e < -1139 ∨ 1075 < e
      · exact wordOf_far neg m e w hm0 hf
      · unfold wField at hb
        exact wordOf_none neg m e w hm hm0 hT hs (by omega) (by omega) (by omega) (by omega) (by omega)
    · rw [if_neg hb, if_neg hb]
      unfold wMag
      rw [if_neg h0]
      have hb2 : ¬ (e < -1139 ∨ 1075 < e ∨ 53 < lenOf m ∨ e + (tzOf m : Int) < -1074 ∨ 2047 ≤ wField m e) := fun h => hb ⟨h0, h⟩
      unfold wField at hb2 ⊢
      by_cases hx : e + (tzOf m : Int) + (lenOf m : Int) - 1 + 1075 - 52 < 1
      · rw [if_pos hx]
        exact wordOf_sub neg m e w hm hm0 hT hs (by omega) (by omega) (by omega) (by omega) (e + (tzOf m : Int) + 1074).toNat (by omega) (by omega)
      · rw [if_neg hx]
        exact wordOf_norm neg m e w hm hm0 hT hs (by omega) (by omega) (by omega) (by omega) (by omega) (e + (tzOf m : Int) + (lenOf m : Int) - 1 + 1075 - 52).toNat (by omega) (by omega) (by omega)
theorem bl_al_then {w w1 : World} {o : Obj} (hb : Below (w.alloc o).drew.heap.size (w.alloc o).drew w1) : Below w.heap.size w w1 := bl_alloc (w := w) (o := o) ⟨hb.os, hb.tape, hb.output, hb.size, hb.block⟩
set_option maxHeartbeats 400000 in
theorem Of_any (neg : Bool) (m : Nat) (e : Int) (w : World) (hm : m < 18446744073709551616) (hT : Tab w) (hs : 2 < w.heap.size) :
    Calls Tryz.prog 81 #[.agg #[.bool neg, .int .u64 m, .int .i64 e]] w fun r w' => r = .returned (.tuple #[.float .f64 (wWord neg m e), .int .i64 (wErr m e)]) ∧ Below w.heap.size w w' := by
  have h2 := f64from
  have HM := hid hm
  clear hm
  go_enter Tryz.func81, Tryz.ntmps81
  go_wp2_with fail
  go_region_held3 (fun w' => w'.cell? ⟨w.heap.size, 0, none⟩ = some (.bool neg) ∧ w'.cell? ⟨w.heap.size, 1, none⟩ = some (.int .u64 m) ∧ w'.cell? ⟨w.heap.size, 2, none⟩ = some (.int .i64 e)) (go_keep)
    (first | (go_at_call 52; refine (layout64_any _).mono ?_; rintro r w1 ⟨rfl, hb1⟩; obtain ⟨hc, hf⟩ := bcell hb1; have hS : w1.cell? ⟨w.heap.size, 0, none⟩ = some (.bool neg) ∧ w1.cell? ⟨w.heap.size, 1, none⟩ = some (.int .u64 m) ∧ w1.cell? ⟨w.heap.size, 2, none⟩ = some (.int .i64 e) := (by refine ⟨?_, ?_, ?_⟩ <;> (rw [hc _ _ (by simp)]; simp [go_sem])); obtain ⟨s0, s1, s2⟩ := hS; clear hc hf) | (go_at_call 102; refine (wordOf_any neg m e _ HM.out ?_ ?_).mono ?_; (exact hT.below hs (bl_al_then hb1)); (exact Nat.lt_of_lt_of_le hs (bl_al_then hb1).size); rintro r w2 ⟨rfl, hb2⟩; obtain ⟨hc, hf⟩ := bcell hb2; have hS : w2.cell? ⟨w.heap.size, 0, none⟩ = some (.bool neg) ∧ w2.cell? ⟨w.heap.size, 1, none⟩ = some (.int .u64 m) ∧ w2.cell? ⟨w.heap.size, 2, none⟩ = some (.int .i64 e) := (by have hz := hb1.size; simp at hz; refine ⟨?_, ?_, ?_⟩ <;> (rw [hc _ _ (by omega)]; assumption)); obtain ⟨s0, s1, s2⟩ := hS; clear hc hf))
  go_wp2
  go_ret2
  exact ⟨rfl, bl_then (bl_al_then hb1) hb2⟩
end Go.Proofs.YtphdinjmkhefmaaGreatDoor

namespace Go.Proofs.YtphdinjmkhefmaaGreatDoor
open Go.RowKit Go.IntWalk

set_option maxHeartbeats 1000000 in
theorem size_any (L : List Nat) (a : Option Addr) (cap : Nat) (w : World) (hm : MagAt w a L) (hd : DigL L) (hc : CanL L) (hn : L.length ≤ 1000000) :
    Calls Tryz.prog 78 #[.slice a L.length cap] w fun r w' => r = .returned (.int .i64 (bitLen (natL L))) ∧ w' = w := by
  by_cases h0 : L.length = 0
  · have e : L = [] := List.length_eq_zero_iff.1 h0
    subst e
    show Calls Tryz.prog 78 #[.slice a 0 cap] w _
    clear hm hd hc h0 hn
    go_enter Tryz.func78, Tryz.ntmps78
    go_wp2
    go_ret
    exact ⟨rfl, rfl⟩
  · obtain ⟨k, hk⟩ : ∃ k, L.length = k + 1 := ⟨L.length - 1, by omega⟩
    obtain ⟨b, off, rfl, hb, hcell⟩ := hm k (by omega)
    have hne := hc (fun c => h0 (by rw [c]; rfl))
    rw [hk, Nat.add_sub_cancel] at hne
    rw [bitLen_words L k hk hd hne]
    have hdl := hd.get k
    obtain ⟨d, hdd⟩ : ∃ d, Hid (L.getD k 0 = d) := ⟨_, rfl⟩
    rw [hdd.out] at hcell hdl ⊢
    have hbl := bitLen_le d 32 (by simpa using hdl)
    obtain ⟨l, hl⟩ : ∃ l, Hid (bitLen d = l) := ⟨_, rfl⟩
    have HL : Hid (∀ w : World, Calls Tryz.prog 70 #[.int .u32 d] w fun r w' => r = .returned (.int .i64 l) ∧ w' = w) := fun w => by
      rw [← hl.out]; exact len32_any d w hdl
    rw [hl.out] at hbl ⊢
    obtain ⟨n, hnn⟩ : ∃ n : Nat, Hid (k + 1 = n) := ⟨_, rfl⟩
    have hk1 : (n : Int) - 1 = (k : Int) := by have := hnn.out; omega
    have hwk : IntKind.i64.wrap ((n : Int) - 1) = (k : Int) := by have := hnn.out; rw [IntWalk.i64_in _ (by omega)]; omega
    have hkI : (k : Int) < (n : Int) := by have := hnn.out; omega
    have hkn : k ≤ 1000000 := by omega
    have hnz : ((n : Int) == 0) = false := by have := hnn.out; simp; omega
    rw [hk, hnn.out]
    clear hm hd hc h0 hn hne hdl hk
    go_enter Tryz.func78, Tryz.ntmps78
    go_wp2_with fail
    refine (HL.out _).mono ?_
    rintro r w1 ⟨rfl, rfl⟩
    go_wp2
    go_ret
    exact ⟨ret_int (by omega), rfl⟩
set_option maxHeartbeats 400000 in
theorem dbinary64_any (w : World) :
    Calls Tryz.prog 50 #[] w fun r w' => r = .returned (.agg #[.int .i64 53, .int .i64 (-1074), .int .i64 1023]) ∧ Below w.heap.size w w' := by
  go_enter Tryz.func50, Tryz.ntmps50
  go_wp2
  exact bodyPost_ret (v := .agg #[.int .i64 53, .int .i64 (-1074), .int .i64 1023]) (by simp [results, Tryz.results50, go_sem]) rfl ⟨rfl, (Below.refl _ _).alloc (Nat.le_refl _) _⟩
/-- The function that a mode has. -/
def grF (mode : Int) : FuncId := if mode = 0 then 93 else if mode = 1 then 94 else if mode = 2 then 95 else if mode = 3 then 96 else 97
set_option maxHeartbeats 1000000 in
theorem grows_any (mode : Int) (w : World) (h1 : 0 ≤ mode) (h2 : mode ≤ 4) :
    Calls Tryz.prog 77 #[.int .i64 mode] w fun r w' => r = .returned (.func (.func (grF mode)) #[] #[]) ∧ Below w.heap.size w w' := by
  have hst : ∀ (W : World) (a : Addr) (f : FuncId), (store a (.func (.func f) #[] #[])).run Tryz.prog W = stored Tryz.prog W a (.func (.func f) #[] #[]) .plain := fun W a f => run_store _ _ _ _ _ rfl
  rcases (show mode = 0 ∨ mode = 1 ∨ mode = 2 ∨ mode = 3 ∨ mode = 4 by omega) with rfl | rfl | rfl | rfl | rfl
  all_goals
    clear h1 h2
    go_enter Tryz.func77, Tryz.ntmps77
    go_wp2
    go_ret
    exact ⟨rfl, (Below.refl _ _).alloc (Nat.le_refl _) _⟩
set_option maxRecDepth 4000 in
set_option maxHeartbeats 1000000 in
theorem steps_left (neg : Bool) (L : List Nat) (a : Option Addr) (cap s : Nat) (e u : Int) (g : Value) (w : World) (hm : MagAt w a L) (hd : DigL L) (hn : L.length ≤ 3000) (hu : e - u = (s : Int)) (hs : s ≤ 100000) :
    Calls Tryz.prog 79 #[.agg #[.bool neg, .slice a L.length cap, .int .i64 e], .int .i64 u, g] w fun r w' => MagOk (natL L * 2 ^ s) (L.length + s / 32 + 1) r w' ∧ Below w.heap.size w w' := by
  have HL : Hid (∀ W, Below w.heap.size w W → Calls Tryz.prog 91 #[.slice a L.length cap, .int .i64 (s : Nat)] W fun r w' => MagOk (natL L * 2 ^ s) (L.length + s / 32 + 1) r w' ∧ Below W.heap.size W w') := fun W hW => dleft_nat L a cap s W (hm.below hW) (by omega) (by omega) hd
  obtain ⟨n, hnl⟩ : ∃ n, Hid (L.length = n) := ⟨_, rfl⟩
  rw [hnl.out] at HL hn ⊢
  obtain ⟨D, hD⟩ : ∃ D : Int, Hid (u - e = D) := ⟨_, rfl⟩
  have hD1 : IntKind.i64.wrap (u - e) = D := by have := hD.out; rw [IntWalk.i64_in _ (by omega)]; exact this
  have hD0 : D ≤ 0 := by have := hD.out; omega
  have hDs : -D = (s : Int) := by have := hD.out; omega
  have hDw : IntKind.i64.wrap (-D) = (s : Int) := by rw [IntWalk.i64_in _ (by omega)]; exact hDs
  have hsw : IntKind.i64.wrap (s : Int) = (s : Int) := by rw [IntWalk.i64_in _ (by omega)]
  have HA : Hid (∀ k, Below w.heap.size w ((w.alloc (.cells #[.bool neg, .slice a n cap, .int .i64 e] 27)).drewN k)) := fun k => bl_drewN k ((Below.refl _ _).alloc (Nat.le_refl _) _)
  clear hm hd hn hu hs
  go_enter Tryz.func79, Tryz.ntmps79
  go_wp2_with fail
  go_quiet (fail)
  go_wp2_with fail
  refine (HL.out _ (HA.out _)).mono ?_
  rintro r w1 ⟨⟨L', a', cap', rfl, hr2⟩, hb⟩
  have HE := hid hr2
  have HB : Hid (Below w.heap.size w w1) := (HA.out _).trans (hb.mono (HA.out _).size)
  clear hr2 hb
  go_wp2
  go_ret
  exact ⟨⟨L', a', cap', rfl, HE.out⟩, HB.out⟩
end Go.Proofs.YtphdinjmkhefmaaGreatDoor
