
/- The document's minus. -/
import Derived.Test.YteidllapjokhlaaDoorP37
import Derived.Test.YteidllapjokhlaaDoorP41
import Derived.Test.YteidllapjokhlaaDoorP45
namespace Go.Proofs.YteidllapjokhlaaDoor
open Go.RowKit Go.IntWalk

theorem NumAt.ne_x {W : World} {p b bd : Nat} {v e : Int} {q : Option Addr} (h : NumAt W p v bd) (hb : W.heap[b]? = some (XBox q e)) : p ≠ b := by
  intro c
  subst c
  obtain ⟨neg, L, _, _, a, cap, ho, _⟩ := h
  rw [ho] at hb
  unfold XBox at hb
  simp at hb
theorem ExV.stored {W : World} {p b bd : Nat} {e B z e0 : Int} {q : Option Addr} (h : ExV W p e B z bd) (hb : W.heap[b]? = some (XBox q e0)) (x y : Value) : ExV ((W.setCell ⟨b, 0, none⟩ x).setCell ⟨b, 1, none⟩ y) p e B z bd := by
  obtain ⟨v, k, f1, f2, f3⟩ := h
  exact ⟨v, k, f1.stored (f1.ne_x hb) hb x y, f2, f3⟩
theorem rb_of {w W : World} (h : Below (w.alloc (XBox none 0)).heap.size (w.alloc (XBox none 0)) W) : W.heap[w.heap.size]? = some (XBox none 0) := by
  rw [h.block _ (by simp)]
  exact new_blk _ _ _ rfl
set_option maxRecDepth 4000 in
set_option maxHeartbeats 1000000 in
theorem minus_fin (a b : Nat) (w : World) (ha : a < 18446744073709551616) (hb : b < 18446744073709551616) (fa : a % 9223372036854775808 < 9218868437227405312) (fb : b % 9223372036854775808 < 9218868437227405312) :
    Calls Tryd.prog 33 #[.float .f64 a, .float .f64 b] w fun r w' => ∃ p e, r = .returned (.agg #[.pointer (some ⟨p, 0, none⟩), .int .i64 e]) ∧ (-1074 ≤ e ∧ e ≤ 2000) ∧ ExV w' p e (-1074) (sv a - sv b) 4002 ∧ Below w.heap.size w w' := by
  have HA := hid (fun (W : World) => xOf_fin a W ha fa)
  have HB := hid (fun (W : World) => xOf_fin b W hb fb)
  have HB0 : Hid (Below w.heap.size w (w.alloc (XBox none 0))) := (Below.refl _ _).alloc (Nat.le_refl _) _
  have HRB := hid (fun (W : World) (h : Below (w.alloc (XBox none 0)).heap.size (w.alloc (XBox none 0)) W) => rb_of h)
  obtain ⟨W0, hW0⟩ : ∃ V, Hid (w.alloc (XBox none 0) = V) := ⟨_, rfl⟩
  rw [hW0.out] at HB0 HRB
  unfold XBox at hW0
  have hW0' := hW0.out
  clear ha hb fa fb
  go_enter Tryd.func33, Tryd.ntmps33
  go_wp2_with fail
  refine (HA.out _).mono ?_
  rintro r w1 ⟨p1, e1, rfl, ⟨b1, b1'⟩, hx1, hb1⟩
  have HX1 := hid hx1
  have HB1 := hid hb1
  clear hx1 hb1
  go_wp2_with fail
  refine (HB.out _).mono ?_
  rintro r w2 ⟨p2, e2, rfl, ⟨b2, b2'⟩, hx2, hb2⟩
  have HX2 := hid hx2
  have HX1 := hid (HX1.out.below hb2)
  have HB2 := hid (HB1.out.trans (hb2.mono HB1.out.size))
  clear hx2 hb2
  go_wp2_with fail
  refine (xNeg_val p2 2 e2 _ _ _ HX2.out (by decide)).mono ?_
  rintro r w3 ⟨p3, rfl, hx3, hb3⟩
  have HX3 := hid hx3
  have HX1 := hid (HX1.out.below hb3)
  have HB3 := hid (HB2.out.trans (hb3.mono HB2.out.size))
  clear hx3 hb3
  go_wp2_with fail
  refine (xAdd_val p1 p3 2 2 e1 e2 _ _ _ _ HX1.out HX3.out (by decide) (by decide) (by omega) (by omega)).mono ?_
  rintro r w4 ⟨p4, e4, rfl, ⟨b4, b4'⟩, hx4, hb4⟩
  have HX4 := hid hx4
  have HB4 := hid (HB3.out.trans (hb4.mono HB3.out.size))
  have HR := hid (HRB.out _ HB4.out)
  obtain ⟨z0, z1, z2⟩ := xcells_of (show w4.heap[w.heap.size]? = some (.cells #[.pointer none, .int .i64 0] 40) from HR.out)
  have HE4 := hid (show -1074 ≤ e4 ∧ e4 ≤ 2000 by omega)
  have HBE : Hid (Below w.heap.size w w4) := HB0.out.trans (HB4.out.mono HB0.out.size)
  clear hx4 hb4
  go_wp2
  exact bodyPost_ret (v := .agg #[.pointer (some ⟨p4, 0, none⟩), .int .i64 e4]) (by simp [results, Tryd.results33, go_sem, z0, z1]) rfl ⟨p4, e4, rfl, HE4.out, HX4.out.stored HR.out _ _, Below.setCell (Below.setCell HBE.out (Nat.le_refl _) _) (Nat.le_refl _) _⟩
end Go.Proofs.YteidllapjokhlaaDoor

namespace Go.Proofs.YteidllapjokhlaaDoor
open Go.RowKit Go.IntWalk

theorem sgn_same (z : Int) : sgnZ z = sgnE z := rfl
theorem finL_all (zs : List Nat) : allFin zs = zs.all finB := rfl
theorem XVar {W : World} (q : Option Addr) (e : Int) : (W.alloc (XBox q e)).heap[W.heap.size]? = some (XBox q e) := new_blk _ _ _ rfl
set_option maxRecDepth 4000 in
set_option maxHeartbeats 2000000 in
theorem rDet_any (a b c d : Nat) (w : World) (ha : a < 18446744073709551616) (hb : b < 18446744073709551616) (hc : c < 18446744073709551616) (hd : d < 18446744073709551616) :
    Calls Tryd.prog 11 #[.float .f64 a, .float .f64 b, .float .f64 c, .float .f64 d] w fun r w' => r = .returned (.tuple #[.int .i64 (detS a b c d), .int .i64 (detE a b c d)]) ∧ Below w.heap.size w w' := by
  have HAF : Hid (∀ T, Calls Tryd.prog 31 #[.slice (some ⟨w.heap.size, 0, none⟩) 4 4] (w.alloc (.cells #[.float .f64 a, .float .f64 b, .float .f64 c, .float .f64 d] T)) fun r w' => r = .returned (.bool (detF a b c d)) ∧ w' = w.alloc (.cells #[.float .f64 a, .float .f64 b, .float .f64 c, .float .f64 d] T)) := fun T => by
    have hn := numsL (w.alloc (.cells #[.float .f64 a, .float .f64 b, .float .f64 c, .float .f64 d] T)) w.heap.size [a, b, c, d] T (new_blk _ _ _ rfl)
    have := rallfin_any [a, b, c, d] w.heap.size 0 4 _ hn.2 (bitl_of (by simp [ha, hb, hc, hd])) (by simp)
    have e : allFin [a, b, c, d] = detF a b c d := by
      rw [finL_all]
      simp only [List.all_cons, List.all_nil, Bool.and_true, detF, Bool.and_assoc]
    rw [e] at this
    exact this
  by_cases hf : detF a b c d = true
  · have e1 : detS a b c d = sgnZ (sv a * sv d - sv b * sv c) := by unfold detS; rw [if_pos hf]; rfl
    have e2 : detE a b c d = 0 := by unfold detE; rw [if_pos hf]
    rw [e1, e2]
    rw [hf] at HAF
    unfold detF at hf
    simp only [Bool.and_eq_true] at hf
    obtain ⟨⟨⟨fa, fb⟩, fc⟩, fd⟩ := hf
    have HA := hid (fun (W : World) => xOf_fin a W ha (finB_is a fa))
    have HB := hid (fun (W : World) => xOf_fin b W hb (finB_is b fb))
    have HC := hid (fun (W : World) => xOf_fin c W hc (finB_is c fc))
    have HD := hid (fun (W : World) => xOf_fin d W hd (finB_is d fd))
    obtain ⟨A, hA⟩ : ∃ A, Hid (sv a = A) := ⟨_, rfl⟩
    obtain ⟨B, hB⟩ : ∃ A, Hid (sv b = A) := ⟨_, rfl⟩
    obtain ⟨C, hC⟩ : ∃ A, Hid (sv c = A) := ⟨_, rfl⟩
    obtain ⟨D, hD⟩ : ∃ A, Hid (sv d = A) := ⟨_, rfl⟩
    rw [hA.out] at HA ⊢
    rw [hB.out] at HB ⊢
    rw [hC.out] at HC ⊢
    rw [hD.out] at HD ⊢
    clear ha hb hc hd fa fb fc fd e1 e2
    go_enter Tryd.func11, Tryd.ntmps11
    go_wp2_with fail
    refine (HAF.out _).mono ?_
    rintro r w0 ⟨rfl, hw0⟩
    have HB0 : Hid (Below w.heap.size w w0) := by rw [hw0]; exact (Below.refl _ _).alloc (Nat.le_refl _) _
    clear hw0
    go_wp2_with fail
    refine (HA.out _).mono ?_
    rintro r w1 ⟨p1, e1, rfl, ⟨b1, b1'⟩, hx1, hb1⟩
    have HX1 := hid hx1
    have HB1 := hid (HB0.out.trans (hb1.mono HB0.out.size))
    clear hx1 hb1
    go_wp2_with fail
    refine (HD.out _).mono ?_
    rintro r w2 ⟨p2, e2, rfl, ⟨b2, b2'⟩, hx2, hb2⟩
    have HX2 := hid hx2
    have HX1 := hid (HX1.out.below hb2)
    have HB2 := hid (HB1.out.trans (hb2.mono HB1.out.size))
    clear hx2 hb2
    go_wp2_with fail
    refine (xMul_val p1 p2 2 2 e1 e2 _ _ _ _ _ HX1.out HX2.out (by decide) (by decide) (by decide) (by omega)).mono ?_
    rintro r w3 ⟨p3, rfl, hx3, hb3⟩
    have HB3 := hid (HB2.out.trans (hb3.mono HB2.out.size))
    have hE3 : -2148 ≤ e1 + e2 ∧ e1 + e2 ≤ 4000 := by omega
    obtain ⟨E3, hE3'⟩ : ∃ E, e1 + e2 = E := ⟨_, rfl⟩
    rw [hE3'] at hx3 hE3 ⊢
    obtain ⟨V3, hV3⟩ : ∃ V, Hid (w3.alloc (XBox (some ⟨p3, 0, none⟩) E3) = V) := ⟨_, rfl⟩
    have HV3 : Hid (V3.heap[w3.heap.size]? = some (XBox (some ⟨p3, 0, none⟩) E3)) := by
      show V3.heap[w3.heap.size]? = _
      rw [← hV3.out]; exact XVar _ _
    have HX3 : Hid (ExV V3 p3 E3 (-1074 + -1074) (A * D) (2 + 2)) := by rw [← hV3.out]; exact hx3.below ((Below.refl _ _).alloc (Nat.le_refl _) _)
    have HB3' : Hid (Below w.heap.size w V3) := by rw [← hV3.out]; exact HB3.out.alloc HB3.out.size _
    have hW3 := hV3.out
    unfold XBox at hW3
    clear hx3 hb3 HX1 HX2 hE3'
    go_wp2_with fail
    refine (HB.out _).mono ?_
    rintro r w4 ⟨p4, e4, rfl, ⟨b4, b4'⟩, hx4, hb4⟩
    have HX4 := hid hx4
    have HX3 := hid (HX3.out.below hb4)
    have HV3 := hid ((hb4.block _ (Array.getElem?_eq_some_iff.1 HV3.out).1).trans HV3.out)
    have HB4 := hid (HB3'.out.trans (hb4.mono HB3'.out.size))
    clear hx4 hb4
    go_wp2_with fail
    refine (HC.out _).mono ?_
    rintro r w5 ⟨p5, e5, rfl, ⟨b5, b5'⟩, hx5, hb5⟩
    have HX5 := hid hx5
    have HX4 := hid (HX4.out.below hb5)
    have HX3 := hid (HX3.out.below hb5)
    have HV3 := hid ((hb5.block _ (Array.getElem?_eq_some_iff.1 HV3.out).1).trans HV3.out)
    have HB5 := hid (HB4.out.trans (hb5.mono HB4.out.size))
    clear hx5 hb5
    go_wp2_with fail
    refine (xMul_val p4 p5 2 2 e4 e5 _ _ _ _ _ HX4.out HX5.out (by decide) (by decide) (by decide) (by omega)).mono ?_
    rintro r w6 ⟨p6, rfl, hx6, hb6⟩
    have HX3 := hid (HX3.out.below hb6)
    have HV3 := hid ((hb6.block _ (Array.getElem?_eq_some_iff.1 HV3.out).1).trans HV3.out)
    have HB6 := hid (HB5.out.trans (hb6.mono HB5.out.size))
    have hE6 : -2148 ≤ e4 + e5 ∧ e4 + e5 ≤ 4000 := by omega
    obtain ⟨E6, hE6'⟩ : ∃ E, e4 + e5 = E := ⟨_, rfl⟩
    rw [hE6'] at hx6 hE6 ⊢
    obtain ⟨V6, hV6⟩ : ∃ V, Hid (w6.alloc (XBox (some ⟨p6, 0, none⟩) E6) = V) := ⟨_, rfl⟩
    have HV6 : Hid (V6.heap[w6.heap.size]? = some (XBox (some ⟨p6, 0, none⟩) E6)) := by
      show V6.heap[w6.heap.size]? = _
      rw [← hV6.out]; exact XVar _ _
    have hbv : Below w6.heap.size w6 V6 := by rw [← hV6.out]; exact (Below.refl _ _).alloc (Nat.le_refl _) _
    have HX6 := hid (hx6.below hbv)
    have HX3 := hid (HX3.out.below hbv)
    have HV3 := hid ((hbv.block _ (Array.getElem?_eq_some_iff.1 HV3.out).1).trans HV3.out)
    have HB6' := hid (HB6.out.trans (hbv.mono HB6.out.size))
    have hW6 := hV6.out
    unfold XBox at hW6
    obtain ⟨y0, y1, _⟩ := xcells_of (show V6.heap[w3.heap.size]? = some (.cells #[.pointer (some ⟨p3, 0, none⟩), .int .i64 E3] 40) from HV3.out)
    obtain ⟨z0, z1, _⟩ := xcells_of (show V6.heap[w6.heap.size]? = some (.cells #[.pointer (some ⟨p6, 0, none⟩), .int .i64 E6] 40) from HV6.out)
    have HCM := hid (xCmp_val p3 p6 4 4 E3 E6 _ _ _ V6 HX3.out HX6.out (by decide) (by decide) (by omega) (by omega))
    clear hx6 hb6 hbv HX4 HX5 hE6'
    go_wp2_with fail
    refine HCM.out.mono ?_
    rintro r w7 ⟨rfl, hb7⟩
    have HB7 := hid (HB6'.out.trans (hb7.mono HB6'.out.size))
    clear hb7
    go_wp2
    go_ret2
    exact ⟨rfl, HB7.out⟩
  · have hf : detF a b c d = false := by simpa using hf
    have e1 : detS a b c d = 0 := by unfold detS; rw [hf]; rfl
    have e2 : detE a b c d = 4 := by unfold detE; rw [hf]; rfl
    rw [e1, e2]
    rw [hf] at HAF
    clear ha hb hc hd hf e1 e2
    go_enter Tryd.func11, Tryd.ntmps11
    go_wp2_with fail
    refine (HAF.out _).mono ?_
    rintro r w0 ⟨rfl, hw0⟩
    have HB0 : Hid (Below w.heap.size w w0) := by rw [hw0]; exact (Below.refl _ _).alloc (Nat.le_refl _) _
    clear hw0
    go_wp2
    go_ret2
    exact ⟨rfl, HB0.out⟩
end Go.Proofs.YteidllapjokhlaaDoor
