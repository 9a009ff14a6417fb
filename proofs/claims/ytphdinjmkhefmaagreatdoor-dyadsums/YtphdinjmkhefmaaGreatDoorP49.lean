
/- The law DyadSums: the ways through it. (Written by mkdsi.py.) -/
import Derived.Test.YtphdinjmkhefmaaGreatDoorP48
import Derived.Test.YtphdinjmkhefmaaGreatDoorP41
namespace Go.Proofs.YtphdinjmkhefmaaGreatDoor
open Go.RowKit Go.IntWalk

/-- Four boxes. -/
def Bx (W : World) (p q r : Nat) (o1 o2 o3 o4 : Obj) : Prop := W.heap[p]? = some o1 ∧ W.heap[q]? = some o2 ∧ W.heap[r]? = some o3 ∧ W.heap[r + 1]? = some o4
theorem Bx.below {W W' : World} {p q r : Nat} {o1 o2 o3 o4 : Obj} (h : Bx W p q r o1 o2 o3 o4) (hb : Below W.heap.size W W') : Bx W' p q r o1 o2 o3 o4 :=
  ⟨by rw [hb.block _ (Array.getElem?_eq_some_iff.1 h.1).1]; exact h.1, by rw [hb.block _ (Array.getElem?_eq_some_iff.1 h.2.1).1]; exact h.2.1, by rw [hb.block _ (Array.getElem?_eq_some_iff.1 h.2.2.1).1]; exact h.2.2.1, by rw [hb.block _ (Array.getElem?_eq_some_iff.1 h.2.2.2).1]; exact h.2.2.2⟩
theorem Bx.third {W : World} {p q r : Nat} {o1 o2 o4 : Obj} {a : Option Addr} {e : Int} (h : Bx W p q r o1 o2 (XBox a e) o4) (hpq : p < q ∧ q < r) (a' : Option Addr) (e' : Int) : Bx ((W.setCell ⟨r, 0, none⟩ (.pointer a')).setCell ⟨r, 1, none⟩ (.int .i64 e')) p q r o1 o2 (XBox a' e') o4 :=
  ⟨by rw [box_keep (by omega)]; exact h.1, by rw [box_keep (by omega)]; exact h.2.1, box_set h.2.2.1, by rw [box_keep (by omega)]; exact h.2.2.2⟩
theorem Bx.fourth {W : World} {p q r : Nat} {o1 o2 o3 : Obj} {a : Option Addr} {e : Int} (h : Bx W p q r o1 o2 o3 (XBox a e)) (hpq : p < q ∧ q < r) (a' : Option Addr) (e' : Int) : Bx ((W.setCell ⟨r + 1, 0, none⟩ (.pointer a')).setCell ⟨r + 1, 1, none⟩ (.int .i64 e')) p q r o1 o2 o3 (XBox a' e') :=
  ⟨by rw [box_keep (by omega)]; exact h.1, by rw [box_keep (by omega)]; exact h.2.1, by rw [box_keep (by omega)]; exact h.2.2.1, box_set h.2.2.2⟩
theorem DyAt.xstored {W : World} {b : Nat} {n1 : Bool} {a1 q : Option Addr} {k1 c1 : Nat} {e1 z e e0 : Int} (h : DyAt W n1 a1 k1 c1 e1 z e) (hb : W.heap[b]? = some (XBox q e0)) (x y : Value) : DyAt ((W.setCell ⟨b, 0, none⟩ x).setCell ⟨b, 1, none⟩ y) n1 a1 k1 c1 e1 z e := by
  obtain ⟨L, h1, h2, h3, h4, h5⟩ := h
  refine ⟨L, h1, h2, h3.but (((But.refl b W).setCell 0 _).setCell 1 _) (fun b' off e h0 hc => ?_), h4, h5⟩
  obtain ⟨b2, off2, g1, _, g3⟩ := h3 0 (by omega)
  rw [e] at g1
  cases g1
  subst hc
  exact noword_ex hb _ _ g3
theorem ListAt.xstored {W : World} {b : Nat} {sa q : Option Addr} {n cap : Nat} {xs : List Nat} {e0 : Int} (h : ListAt W sa n cap xs) (hb : W.heap[b]? = some (XBox q e0)) (x y : Value) : ListAt ((W.setCell ⟨b, 0, none⟩ x).setCell ⟨b, 1, none⟩ y) sa n cap xs := by
  obtain ⟨h1, h2 | ⟨h2, b', h3, h4, h5⟩⟩ := h
  · exact ⟨h1, Or.inl h2⟩
  · refine ⟨h1, Or.inr ⟨h2, b', h3, NumsAt.but ⟨h4, h5⟩ (((But.refl b W).setCell 0 _).setCell 1 _) (fun hc => ?_)⟩⟩
    subst hc
    have := h5 0 (by omega)
    rw [Nat.zero_add] at this
    rw [(xcells_of hb).1] at this
    cases this
set_option maxRecDepth 8000 in
set_option maxHeartbeats 8000000 in
theorem sums_e (sa : Option Addr) (sn sc : Nat) (xs : List Nat) (ta : Option Addr) (tn tc : Nat) (ys : List Nat) (w : World) (hu : U64At w sa sn xs) (hn : sn ≤ 17592186043904) (hv : U64At w ta tn ys) (hm : tn ≤ 17592186043904) (hT : Tab w) (hg : 2 < w.heap.size) (hT3 : Tab32 w) (hs : 1 < w.heap.size)
    (c1 : allFin xs = true) (hne : sn = tn) (c2 : allFin ys = true) :
    Calls Tryz.prog 3 #[.slice sa sn sc, .slice ta tn tc] w fun r w' => r = .returned (.bool true) ∧ Below w.heap.size w w' := by
  have HT : Hid (∀ W, Below w.heap.size w W → Tab W ∧ 2 < W.heap.size ∧ Tab32 W ∧ 1 < W.heap.size) := fun W hW => ⟨hT.below hg hW, Nat.lt_of_lt_of_le hg hW.size, hT3.below hs hW, Nat.lt_of_lt_of_le hs hW.size⟩
  have HU := hid hu
  have HV := hid hv
  have HNM := hid (And.intro hn hm)
  have HC1 := hid c1
  have HC2 := hid c2
  have HNE := hid hne
  have HBX : Hid (∀ x ∈ xs, x < 18446744073709551616) := hu.2.1
  have HBY : Hid (∀ x ∈ ys, x < 18446744073709551616) := hv.2.1
  clear hT hg hT3 hs hu hv c1 hne hn hm c2
  go_enter Tryz.func3, Tryz.ntmps3
  go_wp2_with fail
  refine (Of64_list sa sn sc xs _ HU.out HNM.out.1).mono ?_
  rintro r w1 ⟨a1, d1, rfl, l1, hb1⟩
  have HL1 := hid l1
  have HB1 := hid hb1
  have HV := hid (HV.out.below hb1)
  clear l1 hb1
  go_wp2_with fail
  refine (Of64_list ta tn tc ys _ HV.out HNM.out.2).mono ?_
  rintro r w2 ⟨a2, d2, rfl, l2, hb2⟩
  have HL1 := hid (HL1.out.below hb2)
  have HL2 := hid l2
  have HB2 := hid (HB1.out.trans (hb2.mono HB1.out.size))
  clear l2 hb2
  have HTT := hid (HT.out _ HB2.out)
  go_wp2_with fail
  refine (Sum_list a1 sn d1 xs _ HL1.out HBX.out HNM.out.1 HTT.out.1 HTT.out.2.1 HTT.out.2.2.1 HTT.out.2.2.2).mono ?_
  rintro r w3 ⟨n3, b3, k3, c3, e3, E3, rfl, s1, s2, hb3⟩
  obtain ⟨rfl, hd3⟩ := s1 HC1.out
  have HL1 := hid (HL1.out.below hb3)
  have HL2 := hid (HL2.out.below hb3)
  have HB3 := hid (HB2.out.trans (hb3.mono HB2.out.size))
  have hal3 : Below w3.heap.size w3 (w3.alloc (DyBox n3 b3 k3 c3 e3)) := (Below.refl _ _).alloc (Nat.le_refl _) _
  have HBV3 : Hid (Below w.heap.size w (w3.alloc (DyBox n3 b3 k3 c3 e3))) := HB3.out.trans (hal3.mono HB3.out.size)
  have HL1 := hid (HL1.out.below hal3)
  have HL2 := hid (HL2.out.below hal3)
  have HD3 := hid ((hd3.below hal3))
  clear hd3
  have HX3 : Hid ((w3.alloc (DyBox n3 b3 k3 c3 e3)).heap[w3.heap.size]? = some (DyBox n3 b3 k3 c3 e3)) := new_blk _ _ _ rfl
  have HS3 : Hid ((w3.alloc (DyBox n3 b3 k3 c3 e3)).heap.size = w3.heap.size + 1) := by show (w3.alloc _).heap.size = _; simp
  obtain ⟨V3, hV3⟩ : ∃ V, Hid (w3.alloc (DyBox n3 b3 k3 c3 e3) = V) := ⟨_, rfl⟩
  rw [hV3.out] at HBV3 HL1 HL2 HX3 HS3 HD3
  unfold DyBox at hV3
  have HTT := hid (HT.out _ HBV3.out)
  clear s1 s2 hb3 hal3
  go_wp2_with fail
  rw [hV3.out]
  refine (Dot_list a1 a2 sn tn d1 d2 xs ys _ HL1.out HL2.out HBX.out HBY.out HNM.out.1 HTT.out.1 HTT.out.2.1 HTT.out.2.2.1 HTT.out.2.2.2).mono ?_
  rintro r w4 ⟨n4, b4, k4, c4, e4, E4, rfl, q1, q2, q3, hb4⟩
  obtain ⟨rfl, hd4⟩ := q1 HNE.out (by rw [HC1.out, HC2.out]; rfl)
  have HL1 := hid (HL1.out.below hb4)
  have HL2 := hid (HL2.out.below hb4)
  have HX4 : Hid (w4.heap[w3.heap.size]? = some (DyBox n3 b3 k3 c3 e3)) := by show w4.heap[_]? = _; rw [hb4.block _ (Array.getElem?_eq_some_iff.1 HX3.out).1]; exact HX3.out
  have HB4 := hid (HBV3.out.trans (hb4.mono HBV3.out.size))
  have HS4 : Hid (w3.heap.size < w4.heap.size) := by have := hb4.size; have := HS3.out; show _ < _; omega
  have HD3 := hid (HD3.out.below hb4)
  have hal4 : Below w4.heap.size w4 (w4.alloc (DyBox n4 b4 k4 c4 e4)) := (Below.refl _ _).alloc (Nat.le_refl _) _
  have HY4 : Hid ((w4.alloc (DyBox n4 b4 k4 c4 e4)).heap[w4.heap.size]? = some (DyBox n4 b4 k4 c4 e4)) := new_blk _ _ _ rfl
  have HX4 : Hid ((w4.alloc (DyBox n4 b4 k4 c4 e4)).heap[w3.heap.size]? = some (DyBox n3 b3 k3 c3 e3)) := by show (w4.alloc _).heap[_]? = _; rw [hal4.block _ (Array.getElem?_eq_some_iff.1 HX4.out).1]; exact HX4.out
  have HKA : Hid (∀ W, Below (w4.alloc (DyBox n4 b4 k4 c4 e4)).heap.size (w4.alloc (DyBox n4 b4 k4 c4 e4)) W → Below w4.heap.size w4 W) := fun W hW => hal4.trans (hW.mono (by simp))
  have HS5 : Hid ((w4.alloc (DyBox n4 b4 k4 c4 e4)).heap.size = w4.heap.size + 1) := by show (w4.alloc _).heap.size = _; simp
  obtain ⟨V4, hV4⟩ : ∃ V, Hid (w4.alloc (DyBox n4 b4 k4 c4 e4) = V) := ⟨_, rfl⟩
  rw [hV4.out] at HY4 HX4 HKA HS5
  unfold DyBox at hV4
  clear q1 q2 q3 hb4 hal4
  go_wp2_with fail
  rw [hV4.out]
  refine (xZero_any _).mono ?_
  rintro r w5 ⟨z1, rfl, hz1, hb5⟩
  have HZ1 := hid hz1
  have HB5 := hid hb5
  clear hz1 hb5
  go_wp2_with fail
  refine (xZero_any _).mono ?_
  rintro r w6 ⟨z2, rfl, hz2, hb6⟩
  have hal6 : Below w6.heap.size w6 ((w6.alloc (XBox (some ⟨z1, 0, none⟩) 0)).alloc (XBox (some ⟨z2, 0, none⟩) 0)) := ((Below.refl _ _).alloc (Nat.le_refl _) _).alloc (by simp) _
  have HB6 := hid (HB5.out.trans (hb6.mono HB5.out.size))
  have HKB := hid (HKA.out _ (HB6.out.trans (hal6.mono HB6.out.size)))
  have HBX6 : Hid (Bx ((w6.alloc (XBox (some ⟨z1, 0, none⟩) 0)).alloc (XBox (some ⟨z2, 0, none⟩) 0)) w3.heap.size w4.heap.size w6.heap.size (DyBox n3 b3 k3 c3 e3) (DyBox n4 b4 k4 c4 e4) (XBox (some ⟨z1, 0, none⟩) 0) (XBox (some ⟨z2, 0, none⟩) 0)) := by
    obtain ⟨f1, f2⟩ := two_blk w6 (XBox (some ⟨z1, 0, none⟩) 0) (XBox (some ⟨z2, 0, none⟩) 0)
    have hb := HB6.out.trans (hal6.mono HB6.out.size)
    exact ⟨by rw [hb.block _ (Array.getElem?_eq_some_iff.1 HX4.out).1]; exact HX4.out, by rw [hb.block _ (Array.getElem?_eq_some_iff.1 HY4.out).1]; exact HY4.out, f1, f2⟩
  have HPQ : Hid (w3.heap.size < w4.heap.size ∧ w4.heap.size < w6.heap.size) := ⟨HS4.out, by have := HB6.out.size; have := HS5.out; omega⟩
  have HE1 : Hid (ExV ((w6.alloc (XBox (some ⟨z1, 0, none⟩) 0)).alloc (XBox (some ⟨z2, 0, none⟩) 0)) z1 0 0 0 200) := ⟨0, 0, ((HZ1.out.below hb6).below hal6).more (by omega), rfl, rfl⟩
  have HE2 : Hid (ExV ((w6.alloc (XBox (some ⟨z1, 0, none⟩) 0)).alloc (XBox (some ⟨z2, 0, none⟩) 0)) z2 0 0 0 200) := ⟨0, 0, (hz2.below hal6).more (by omega), rfl, rfl⟩
  obtain ⟨V6, hV6⟩ : ∃ V, Hid ((w6.alloc (XBox (some ⟨z1, 0, none⟩) 0)).alloc (XBox (some ⟨z2, 0, none⟩) 0) = V) := ⟨_, rfl⟩
  rw [hV6.out] at HBX6 HKB HE1 HE2
  have HL1 := hid (HL1.out.below HKB.out)
  have HL2 := hid (HL2.out.below HKB.out)
  have HD3 := hid (HD3.out.below HKB.out)
  have HD4 := hid (hd4.below HKB.out)
  clear hd4
  have HBV6 : Hid (Below w.heap.size w V6) := HB4.out.trans (HKB.out.mono HB4.out.size)
  unfold XBox at hV6
  clear hz2 hb6 hal6
  have HPW : Hid (w.heap.size ≤ w6.heap.size) := by have h1 := HPQ.out; have h2 := HB4.out.size; show _ ≤ _; omega
  have hnm2 : ((sn : Int) != (tn : Int)) = false := by have := HNE.out; simp; omega
  go_wp2_with fail
  rw [hV6.out]
  obtain ⟨p, hp⟩ : ∃ p, Hid (w3.heap.size = p) := ⟨_, rfl⟩
  obtain ⟨q, hq⟩ : ∃ p, Hid (w4.heap.size = p) := ⟨_, rfl⟩
  obtain ⟨t, ht⟩ : ∃ p, Hid (w6.heap.size = p) := ⟨_, rfl⟩
  rw [hp.out, hq.out, ht.out] at HBX6 HPQ
  rw [ht.out] at HPW
  rw [hp.out, hq.out, ht.out]
  refine (rall_list a1 sn d1 xs _ HL1.out HBX.out HNM.out.1).mono ?_
  rw [HC1.out]
  rintro r w7 ⟨rfl, rfl⟩
  go_wp2_with fail
  refine (xSum_list a1 sn d1 xs _ HL1.out HBX.out HNM.out.1 HC1.out).mono ?_
  rintro r w8 ⟨p8, e8, rfl, ⟨f8, g8⟩, hx8, hb8⟩
  have B8 := HBX6.out.below hb8
  obtain ⟨u0, u1, u2⟩ := xcells_of B8.2.2.1
  obtain ⟨V8, hV8⟩ : ∃ V, Hid ((w8.setCell ⟨t, 0, none⟩ (.pointer (some ⟨p8, 0, none⟩))).setCell ⟨t, 1, none⟩ (.int .i64 e8) = V) := ⟨_, rfl⟩
  have HBX8 : Hid (Bx V8 p q t (DyBox n3 b3 k3 c3 e3) (DyBox n4 b4 k4 c4 e4) (XBox (some ⟨p8, 0, none⟩) e8) (XBox (some ⟨z2, 0, none⟩) 0)) := by rw [← hV8.out]; exact B8.third HPQ.out _ _
  have HX8 : Hid (ExV V8 p8 e8 (-1074) (sumSv xs sn) 200) := by rw [← hV8.out]; exact hx8.stored B8.2.2.1 _ _
  have HL1 := hid ((HL1.out.below hb8).xstored B8.2.2.1 (.pointer (some ⟨p8, 0, none⟩)) (.int .i64 e8))
  have HL2 := hid ((HL2.out.below hb8).xstored B8.2.2.1 (.pointer (some ⟨p8, 0, none⟩)) (.int .i64 e8))
  have HD3 := hid ((HD3.out.below hb8).xstored B8.2.2.1 (.pointer (some ⟨p8, 0, none⟩)) (.int .i64 e8))
  have HD4 := hid ((HD4.out.below hb8).xstored B8.2.2.1 (.pointer (some ⟨p8, 0, none⟩)) (.int .i64 e8))
  rw [hV8.out] at HL1 HL2 HD3 HD4
  have HBV8 : Hid (Below w.heap.size w V8) := by
    have hb := HBV6.out.trans (hb8.mono HBV6.out.size)
    have := HPW.out
    rw [← hV8.out]
    exact Below.setCell (Below.setCell hb (by show w.heap.size ≤ t; omega) _) (by show w.heap.size ≤ t; omega) _
  obtain ⟨j0, j1, j2⟩ := dcells_of HBX8.out.1
  obtain ⟨i0, i1, _⟩ := xcells_of HBX8.out.2.2.1
  have hV8' := hV8.out
  clear hx8 hb8 B8
  go_wp2_with fail
  refine (rall_list a2 tn d2 ys _ HL2.out HBY.out HNM.out.2).mono ?_
  rw [HC2.out]
  rintro r w18 ⟨rfl, rfl⟩
  have HDOT : Hid (Calls Tryz.prog 10 #[.slice a1 sn d1, .slice a2 tn d2] w18 fun r w' => ∃ p e, r = .returned (.agg #[.pointer (some ⟨p, 0, none⟩), .int .i64 e]) ∧ (-2148 ≤ e ∧ e ≤ 4000) ∧ ExV w' p e (-2148) (dotSv xs ys sn) 200 ∧ Below w18.heap.size w18 w') := by
    have e := HNE.out
    subst e
    exact xDot_list a1 a2 sn d1 d2 xs ys _ HL1.out HL2.out HBX.out HBY.out HNM.out.1 HC1.out HC2.out
  clear j0 j1 j2 i0 i1
  go_wp2_with fail
  refine (HDOT.out).mono ?_
  rintro r w9 ⟨p9, e9, rfl, ⟨f9, g9⟩, hx9, hb9⟩
  have B9 := HBX8.out.below hb9
  obtain ⟨u0, u1, u2⟩ := xcells_of B9.2.2.2
  obtain ⟨V9, hV9⟩ : ∃ V, Hid ((w9.setCell ⟨t + 1, 0, none⟩ (.pointer (some ⟨p9, 0, none⟩))).setCell ⟨t + 1, 1, none⟩ (.int .i64 e9) = V) := ⟨_, rfl⟩
  have HBX9 : Hid (Bx V9 p q t (DyBox n3 b3 k3 c3 e3) (DyBox n4 b4 k4 c4 e4) (XBox (some ⟨p8, 0, none⟩) e8) (XBox (some ⟨p9, 0, none⟩) e9)) := by rw [← hV9.out]; exact B9.fourth HPQ.out _ _
  have HX9 : Hid (ExV V9 p9 e9 (-2148) (dotSv xs ys sn) 200) := by rw [← hV9.out]; exact hx9.stored B9.2.2.2 _ _
  have HL1 := hid ((HL1.out.below hb9).xstored B9.2.2.2 (.pointer (some ⟨p9, 0, none⟩)) (.int .i64 e9))
  have HL2 := hid ((HL2.out.below hb9).xstored B9.2.2.2 (.pointer (some ⟨p9, 0, none⟩)) (.int .i64 e9))
  have HD3 := hid ((HD3.out.below hb9).xstored B9.2.2.2 (.pointer (some ⟨p9, 0, none⟩)) (.int .i64 e9))
  have HD4 := hid ((HD4.out.below hb9).xstored B9.2.2.2 (.pointer (some ⟨p9, 0, none⟩)) (.int .i64 e9))
  rw [hV9.out] at HL1 HL2 HD3 HD4
  have HX8 := hid ((HX8.out.below hb9).stored B9.2.2.2 (.pointer (some ⟨p9, 0, none⟩)) (.int .i64 e9))
  rw [hV9.out] at HX8
  have HBV9 : Hid (Below w.heap.size w V9) := by
    have hb := HBV8.out.trans (hb9.mono HBV8.out.size)
    have := HPW.out
    rw [← hV9.out]
    exact Below.setCell (Below.setCell hb (by show w.heap.size ≤ t + 1; omega) _) (by show w.heap.size ≤ t + 1; omega) _
  obtain ⟨j0, j1, j2⟩ := dcells_of HBX9.out.1
  obtain ⟨i0, i1, _⟩ := xcells_of HBX9.out.2.2.1
  have hV9' := hV9.out
  clear hx9 hb9 B9
  have HTT := hid (HT.out _ HBV9.out)
  go_wp2_with fail
  refine (is_ok n3 b3 k3 c3 p8 e3 _ (-1074) e8 _ HD3.out HX8.out (by omega) (by omega) HTT.out.2.2.1 HTT.out.2.2.2).mono ?_
  rintro r w20 ⟨rfl, hb20⟩
  have HB20 := hid (HBV9.out.trans (hb20.mono HBV9.out.size))
  have B20 := HBX9.out.below hb20
  obtain ⟨m0, m1, m2⟩ := dcells_of B20.2.1
  obtain ⟨o0, o1, _⟩ := xcells_of B20.2.2.2
  have HD4 := hid (HD4.out.below hb20)
  have HX9 := hid (HX9.out.below hb20)
  have HTT := hid (HT.out _ HB20.out)
  clear hb20 B20
  go_wp2_with fail
  refine (is_ok n4 b4 k4 c4 p9 e4 _ (-2148) e9 _ HD4.out HX9.out (by omega) (by omega) HTT.out.2.2.1 HTT.out.2.2.2).mono ?_
  rintro r w21 ⟨rfl, hb21⟩
  have HB21 := hid (HB20.out.trans (hb21.mono HB20.out.size))
  have HTT := hid (HT.out _ HB21.out)
  clear hb21
  go_wp2_with fail
  refine (awake3_any _ HTT.out.1 HTT.out.2.1 HTT.out.2.2.1 HTT.out.2.2.2).mono ?_
  rintro r w22 ⟨rfl, hb22⟩
  have HB22 := hid (HB21.out.trans (hb22.mono HB21.out.size))
  clear hb22
  go_wp2
  go_ret
  exact ⟨rfl, HB22.out⟩
set_option maxRecDepth 8000 in
set_option maxHeartbeats 8000000 in
theorem sums_d (sa : Option Addr) (sn sc : Nat) (xs : List Nat) (ta : Option Addr) (tn tc : Nat) (ys : List Nat) (w : World) (hu : U64At w sa sn xs) (hn : sn ≤ 17592186043904) (hv : U64At w ta tn ys) (hm : tn ≤ 17592186043904) (hT : Tab w) (hg : 2 < w.heap.size) (hT3 : Tab32 w) (hs : 1 < w.heap.size)
    (c1 : allFin xs = true) (hne : sn = tn) (c2 : allFin ys = false) :
    Calls Tryz.prog 3 #[.slice sa sn sc, .slice ta tn tc] w fun r w' => r = .returned (.bool true) ∧ Below w.heap.size w w' := by
  have HT : Hid (∀ W, Below w.heap.size w W → Tab W ∧ 2 < W.heap.size ∧ Tab32 W ∧ 1 < W.heap.size) := fun W hW => ⟨hT.below hg hW, Nat.lt_of_lt_of_le hg hW.size, hT3.below hs hW, Nat.lt_of_lt_of_le hs hW.size⟩
  have HU := hid hu
  have HV := hid hv
  have HNM := hid (And.intro hn hm)
  have HC1 := hid c1
  have HC2 := hid c2
  have HNE := hid hne
  have HBX : Hid (∀ x ∈ xs, x < 18446744073709551616) := hu.2.1
  have HBY : Hid (∀ x ∈ ys, x < 18446744073709551616) := hv.2.1
  clear hT hg hT3 hs hu hv c1 hne hn hm c2
  go_enter Tryz.func3, Tryz.ntmps3
  go_wp2_with fail
  refine (Of64_list sa sn sc xs _ HU.out HNM.out.1).mono ?_
  rintro r w1 ⟨a1, d1, rfl, l1, hb1⟩
  have HL1 := hid l1
  have HB1 := hid hb1
  have HV := hid (HV.out.below hb1)
  clear l1 hb1
  go_wp2_with fail
  refine (Of64_list ta tn tc ys _ HV.out HNM.out.2).mono ?_
  rintro r w2 ⟨a2, d2, rfl, l2, hb2⟩
  have HL1 := hid (HL1.out.below hb2)
  have HL2 := hid l2
  have HB2 := hid (HB1.out.trans (hb2.mono HB1.out.size))
  clear l2 hb2
  have HTT := hid (HT.out _ HB2.out)
  go_wp2_with fail
  refine (Sum_list a1 sn d1 xs _ HL1.out HBX.out HNM.out.1 HTT.out.1 HTT.out.2.1 HTT.out.2.2.1 HTT.out.2.2.2).mono ?_
  rintro r w3 ⟨n3, b3, k3, c3, e3, E3, rfl, s1, s2, hb3⟩
  obtain ⟨rfl, hd3⟩ := s1 HC1.out
  have HL1 := hid (HL1.out.below hb3)
  have HL2 := hid (HL2.out.below hb3)
  have HB3 := hid (HB2.out.trans (hb3.mono HB2.out.size))
  have hal3 : Below w3.heap.size w3 (w3.alloc (DyBox n3 b3 k3 c3 e3)) := (Below.refl _ _).alloc (Nat.le_refl _) _
  have HBV3 : Hid (Below w.heap.size w (w3.alloc (DyBox n3 b3 k3 c3 e3))) := HB3.out.trans (hal3.mono HB3.out.size)
  have HL1 := hid (HL1.out.below hal3)
  have HL2 := hid (HL2.out.below hal3)
  have HD3 := hid ((hd3.below hal3))
  clear hd3
  have HX3 : Hid ((w3.alloc (DyBox n3 b3 k3 c3 e3)).heap[w3.heap.size]? = some (DyBox n3 b3 k3 c3 e3)) := new_blk _ _ _ rfl
  have HS3 : Hid ((w3.alloc (DyBox n3 b3 k3 c3 e3)).heap.size = w3.heap.size + 1) := by show (w3.alloc _).heap.size = _; simp
  obtain ⟨V3, hV3⟩ : ∃ V, Hid (w3.alloc (DyBox n3 b3 k3 c3 e3) = V) := ⟨_, rfl⟩
  rw [hV3.out] at HBV3 HL1 HL2 HX3 HS3 HD3
  unfold DyBox at hV3
  have HTT := hid (HT.out _ HBV3.out)
  clear s1 s2 hb3 hal3
  go_wp2_with fail
  rw [hV3.out]
  refine (Dot_list a1 a2 sn tn d1 d2 xs ys _ HL1.out HL2.out HBX.out HBY.out HNM.out.1 HTT.out.1 HTT.out.2.1 HTT.out.2.2.1 HTT.out.2.2.2).mono ?_
  rintro r w4 ⟨n4, b4, k4, c4, e4, E4, rfl, q1, q2, q3, hb4⟩
  obtain ⟨rfl, rfl, rfl, rfl, rfl, rfl⟩ := q2 HNE.out (by rw [HC1.out, HC2.out]; rfl)
  have HL1 := hid (HL1.out.below hb4)
  have HL2 := hid (HL2.out.below hb4)
  have HX4 : Hid (w4.heap[w3.heap.size]? = some (DyBox n3 b3 k3 c3 e3)) := by show w4.heap[_]? = _; rw [hb4.block _ (Array.getElem?_eq_some_iff.1 HX3.out).1]; exact HX3.out
  have HB4 := hid (HBV3.out.trans (hb4.mono HBV3.out.size))
  have HS4 : Hid (w3.heap.size < w4.heap.size) := by have := hb4.size; have := HS3.out; show _ < _; omega
  have HD3 := hid (HD3.out.below hb4)
  have hal4 : Below w4.heap.size w4 (w4.alloc (DyBox false none 0 0 0)) := (Below.refl _ _).alloc (Nat.le_refl _) _
  have HY4 : Hid ((w4.alloc (DyBox false none 0 0 0)).heap[w4.heap.size]? = some (DyBox false none 0 0 0)) := new_blk _ _ _ rfl
  have HX4 : Hid ((w4.alloc (DyBox false none 0 0 0)).heap[w3.heap.size]? = some (DyBox n3 b3 k3 c3 e3)) := by show (w4.alloc _).heap[_]? = _; rw [hal4.block _ (Array.getElem?_eq_some_iff.1 HX4.out).1]; exact HX4.out
  have HKA : Hid (∀ W, Below (w4.alloc (DyBox false none 0 0 0)).heap.size (w4.alloc (DyBox false none 0 0 0)) W → Below w4.heap.size w4 W) := fun W hW => hal4.trans (hW.mono (by simp))
  have HS5 : Hid ((w4.alloc (DyBox false none 0 0 0)).heap.size = w4.heap.size + 1) := by show (w4.alloc _).heap.size = _; simp
  obtain ⟨V4, hV4⟩ : ∃ V, Hid (w4.alloc (DyBox false none 0 0 0) = V) := ⟨_, rfl⟩
  rw [hV4.out] at HY4 HX4 HKA HS5
  unfold DyBox at hV4
  clear q1 q2 q3 hb4 hal4
  go_wp2_with fail
  rw [hV4.out]
  refine (xZero_any _).mono ?_
  rintro r w5 ⟨z1, rfl, hz1, hb5⟩
  have HZ1 := hid hz1
  have HB5 := hid hb5
  clear hz1 hb5
  go_wp2_with fail
  refine (xZero_any _).mono ?_
  rintro r w6 ⟨z2, rfl, hz2, hb6⟩
  have hal6 : Below w6.heap.size w6 ((w6.alloc (XBox (some ⟨z1, 0, none⟩) 0)).alloc (XBox (some ⟨z2, 0, none⟩) 0)) := ((Below.refl _ _).alloc (Nat.le_refl _) _).alloc (by simp) _
  have HB6 := hid (HB5.out.trans (hb6.mono HB5.out.size))
  have HKB := hid (HKA.out _ (HB6.out.trans (hal6.mono HB6.out.size)))
  have HBX6 : Hid (Bx ((w6.alloc (XBox (some ⟨z1, 0, none⟩) 0)).alloc (XBox (some ⟨z2, 0, none⟩) 0)) w3.heap.size w4.heap.size w6.heap.size (DyBox n3 b3 k3 c3 e3) (DyBox false none 0 0 0) (XBox (some ⟨z1, 0, none⟩) 0) (XBox (some ⟨z2, 0, none⟩) 0)) := by
    obtain ⟨f1, f2⟩ := two_blk w6 (XBox (some ⟨z1, 0, none⟩) 0) (XBox (some ⟨z2, 0, none⟩) 0)
    have hb := HB6.out.trans (hal6.mono HB6.out.size)
    exact ⟨by rw [hb.block _ (Array.getElem?_eq_some_iff.1 HX4.out).1]; exact HX4.out, by rw [hb.block _ (Array.getElem?_eq_some_iff.1 HY4.out).1]; exact HY4.out, f1, f2⟩
  have HPQ : Hid (w3.heap.size < w4.heap.size ∧ w4.heap.size < w6.heap.size) := ⟨HS4.out, by have := HB6.out.size; have := HS5.out; omega⟩
  have HE1 : Hid (ExV ((w6.alloc (XBox (some ⟨z1, 0, none⟩) 0)).alloc (XBox (some ⟨z2, 0, none⟩) 0)) z1 0 0 0 200) := ⟨0, 0, ((HZ1.out.below hb6).below hal6).more (by omega), rfl, rfl⟩
  have HE2 : Hid (ExV ((w6.alloc (XBox (some ⟨z1, 0, none⟩) 0)).alloc (XBox (some ⟨z2, 0, none⟩) 0)) z2 0 0 0 200) := ⟨0, 0, (hz2.below hal6).more (by omega), rfl, rfl⟩
  obtain ⟨V6, hV6⟩ : ∃ V, Hid ((w6.alloc (XBox (some ⟨z1, 0, none⟩) 0)).alloc (XBox (some ⟨z2, 0, none⟩) 0) = V) := ⟨_, rfl⟩
  rw [hV6.out] at HBX6 HKB HE1 HE2
  have HL1 := hid (HL1.out.below HKB.out)
  have HL2 := hid (HL2.out.below HKB.out)
  have HD3 := hid (HD3.out.below HKB.out)
  have HBV6 : Hid (Below w.heap.size w V6) := HB4.out.trans (HKB.out.mono HB4.out.size)
  unfold XBox at hV6
  clear hz2 hb6 hal6
  have HPW : Hid (w.heap.size ≤ w6.heap.size) := by have h1 := HPQ.out; have h2 := HB4.out.size; show _ ≤ _; omega
  have hnm2 : ((sn : Int) != (tn : Int)) = false := by have := HNE.out; simp; omega
  go_wp2_with fail
  rw [hV6.out]
  obtain ⟨p, hp⟩ : ∃ p, Hid (w3.heap.size = p) := ⟨_, rfl⟩
  obtain ⟨q, hq⟩ : ∃ p, Hid (w4.heap.size = p) := ⟨_, rfl⟩
  obtain ⟨t, ht⟩ : ∃ p, Hid (w6.heap.size = p) := ⟨_, rfl⟩
  rw [hp.out, hq.out, ht.out] at HBX6 HPQ
  rw [ht.out] at HPW
  rw [hp.out, hq.out, ht.out]
  refine (rall_list a1 sn d1 xs _ HL1.out HBX.out HNM.out.1).mono ?_
  rw [HC1.out]
  rintro r w7 ⟨rfl, rfl⟩
  go_wp2_with fail
  refine (xSum_list a1 sn d1 xs _ HL1.out HBX.out HNM.out.1 HC1.out).mono ?_
  rintro r w8 ⟨p8, e8, rfl, ⟨f8, g8⟩, hx8, hb8⟩
  have B8 := HBX6.out.below hb8
  obtain ⟨u0, u1, u2⟩ := xcells_of B8.2.2.1
  obtain ⟨V8, hV8⟩ : ∃ V, Hid ((w8.setCell ⟨t, 0, none⟩ (.pointer (some ⟨p8, 0, none⟩))).setCell ⟨t, 1, none⟩ (.int .i64 e8) = V) := ⟨_, rfl⟩
  have HBX8 : Hid (Bx V8 p q t (DyBox n3 b3 k3 c3 e3) (DyBox false none 0 0 0) (XBox (some ⟨p8, 0, none⟩) e8) (XBox (some ⟨z2, 0, none⟩) 0)) := by rw [← hV8.out]; exact B8.third HPQ.out _ _
  have HX8 : Hid (ExV V8 p8 e8 (-1074) (sumSv xs sn) 200) := by rw [← hV8.out]; exact hx8.stored B8.2.2.1 _ _
  have HL1 := hid ((HL1.out.below hb8).xstored B8.2.2.1 (.pointer (some ⟨p8, 0, none⟩)) (.int .i64 e8))
  have HL2 := hid ((HL2.out.below hb8).xstored B8.2.2.1 (.pointer (some ⟨p8, 0, none⟩)) (.int .i64 e8))
  have HD3 := hid ((HD3.out.below hb8).xstored B8.2.2.1 (.pointer (some ⟨p8, 0, none⟩)) (.int .i64 e8))
  rw [hV8.out] at HL1 HL2 HD3
  have HBV8 : Hid (Below w.heap.size w V8) := by
    have hb := HBV6.out.trans (hb8.mono HBV6.out.size)
    have := HPW.out
    rw [← hV8.out]
    exact Below.setCell (Below.setCell hb (by show w.heap.size ≤ t; omega) _) (by show w.heap.size ≤ t; omega) _
  obtain ⟨j0, j1, j2⟩ := dcells_of HBX8.out.1
  obtain ⟨i0, i1, _⟩ := xcells_of HBX8.out.2.2.1
  have hV8' := hV8.out
  clear hx8 hb8 B8
  go_wp2_with fail
  refine (rall_list a2 tn d2 ys _ HL2.out HBY.out HNM.out.2).mono ?_
  rw [HC2.out]
  rintro r w18 ⟨rfl, rfl⟩
  have HTT := hid (HT.out _ HBV8.out)
  go_wp2_with fail
  refine (is_ok n3 b3 k3 c3 p8 e3 _ (-1074) e8 _ HD3.out HX8.out (by omega) (by omega) HTT.out.2.2.1 HTT.out.2.2.2).mono ?_
  rintro r w20 ⟨rfl, hb20⟩
  have HB20 := hid (HBV8.out.trans (hb20.mono HBV8.out.size))
  have B20 := HBX8.out.below hb20
  obtain ⟨m0, m1, m2⟩ := dcells_of B20.2.1
  obtain ⟨o0, o1, _⟩ := xcells_of B20.2.2.2
  have HTT := hid (HT.out _ HB20.out)
  clear hb20 B20
  go_wp2_with fail
  refine (is_bad z2 0 4 _ (by decide)).mono ?_
  rintro r w21 ⟨rfl, hb21⟩
  have HB21 := hid (HB20.out.trans (hb21.mono HB20.out.size))
  have HTT := hid (HT.out _ HB21.out)
  clear hb21
  go_wp2_with fail
  refine (awake3_any _ HTT.out.1 HTT.out.2.1 HTT.out.2.2.1 HTT.out.2.2.2).mono ?_
  rintro r w22 ⟨rfl, hb22⟩
  have HB22 := hid (HB21.out.trans (hb22.mono HB21.out.size))
  clear hb22
  go_wp2
  go_ret
  exact ⟨rfl, HB22.out⟩
set_option maxRecDepth 8000 in
set_option maxHeartbeats 8000000 in
theorem sums_c (sa : Option Addr) (sn sc : Nat) (xs : List Nat) (ta : Option Addr) (tn tc : Nat) (ys : List Nat) (w : World) (hu : U64At w sa sn xs) (hn : sn ≤ 17592186043904) (hv : U64At w ta tn ys) (hm : tn ≤ 17592186043904) (hT : Tab w) (hg : 2 < w.heap.size) (hT3 : Tab32 w) (hs : 1 < w.heap.size)
    (c1 : allFin xs = true) (hne : sn ≠ tn) :
    Calls Tryz.prog 3 #[.slice sa sn sc, .slice ta tn tc] w fun r w' => r = .returned (.bool true) ∧ Below w.heap.size w w' := by
  have HT : Hid (∀ W, Below w.heap.size w W → Tab W ∧ 2 < W.heap.size ∧ Tab32 W ∧ 1 < W.heap.size) := fun W hW => ⟨hT.below hg hW, Nat.lt_of_lt_of_le hg hW.size, hT3.below hs hW, Nat.lt_of_lt_of_le hs hW.size⟩
  have HU := hid hu
  have HV := hid hv
  have HNM := hid (And.intro hn hm)
  have HC1 := hid c1
  have HNE := hid hne
  have HBX : Hid (∀ x ∈ xs, x < 18446744073709551616) := hu.2.1
  have HBY : Hid (∀ x ∈ ys, x < 18446744073709551616) := hv.2.1
  clear hT hg hT3 hs hu hv c1 hne hn hm
  go_enter Tryz.func3, Tryz.ntmps3
  go_wp2_with fail
  refine (Of64_list sa sn sc xs _ HU.out HNM.out.1).mono ?_
  rintro r w1 ⟨a1, d1, rfl, l1, hb1⟩
  have HL1 := hid l1
  have HB1 := hid hb1
  have HV := hid (HV.out.below hb1)
  clear l1 hb1
  go_wp2_with fail
  refine (Of64_list ta tn tc ys _ HV.out HNM.out.2).mono ?_
  rintro r w2 ⟨a2, d2, rfl, l2, hb2⟩
  have HL1 := hid (HL1.out.below hb2)
  have HL2 := hid l2
  have HB2 := hid (HB1.out.trans (hb2.mono HB1.out.size))
  clear l2 hb2
  have HTT := hid (HT.out _ HB2.out)
  go_wp2_with fail
  refine (Sum_list a1 sn d1 xs _ HL1.out HBX.out HNM.out.1 HTT.out.1 HTT.out.2.1 HTT.out.2.2.1 HTT.out.2.2.2).mono ?_
  rintro r w3 ⟨n3, b3, k3, c3, e3, E3, rfl, s1, s2, hb3⟩
  obtain ⟨rfl, hd3⟩ := s1 HC1.out
  have HL1 := hid (HL1.out.below hb3)
  have HL2 := hid (HL2.out.below hb3)
  have HB3 := hid (HB2.out.trans (hb3.mono HB2.out.size))
  have hal3 : Below w3.heap.size w3 (w3.alloc (DyBox n3 b3 k3 c3 e3)) := (Below.refl _ _).alloc (Nat.le_refl _) _
  have HBV3 : Hid (Below w.heap.size w (w3.alloc (DyBox n3 b3 k3 c3 e3))) := HB3.out.trans (hal3.mono HB3.out.size)
  have HL1 := hid (HL1.out.below hal3)
  have HL2 := hid (HL2.out.below hal3)
  have HD3 := hid ((hd3.below hal3))
  clear hd3
  have HX3 : Hid ((w3.alloc (DyBox n3 b3 k3 c3 e3)).heap[w3.heap.size]? = some (DyBox n3 b3 k3 c3 e3)) := new_blk _ _ _ rfl
  have HS3 : Hid ((w3.alloc (DyBox n3 b3 k3 c3 e3)).heap.size = w3.heap.size + 1) := by show (w3.alloc _).heap.size = _; simp
  obtain ⟨V3, hV3⟩ : ∃ V, Hid (w3.alloc (DyBox n3 b3 k3 c3 e3) = V) := ⟨_, rfl⟩
  rw [hV3.out] at HBV3 HL1 HL2 HX3 HS3 HD3
  unfold DyBox at hV3
  have HTT := hid (HT.out _ HBV3.out)
  clear s1 s2 hb3 hal3
  go_wp2_with fail
  rw [hV3.out]
  refine (Dot_list a1 a2 sn tn d1 d2 xs ys _ HL1.out HL2.out HBX.out HBY.out HNM.out.1 HTT.out.1 HTT.out.2.1 HTT.out.2.2.1 HTT.out.2.2.2).mono ?_
  rintro r w4 ⟨n4, b4, k4, c4, e4, E4, rfl, q1, q2, q3, hb4⟩
  obtain ⟨rfl, rfl, rfl, rfl, rfl, rfl⟩ := q3 HNE.out
  have HL1 := hid (HL1.out.below hb4)
  have HL2 := hid (HL2.out.below hb4)
  have HX4 : Hid (w4.heap[w3.heap.size]? = some (DyBox n3 b3 k3 c3 e3)) := by show w4.heap[_]? = _; rw [hb4.block _ (Array.getElem?_eq_some_iff.1 HX3.out).1]; exact HX3.out
  have HB4 := hid (HBV3.out.trans (hb4.mono HBV3.out.size))
  have HS4 : Hid (w3.heap.size < w4.heap.size) := by have := hb4.size; have := HS3.out; show _ < _; omega
  have HD3 := hid (HD3.out.below hb4)
  have hal4 : Below w4.heap.size w4 (w4.alloc (DyBox false none 0 0 0)) := (Below.refl _ _).alloc (Nat.le_refl _) _
  have HY4 : Hid ((w4.alloc (DyBox false none 0 0 0)).heap[w4.heap.size]? = some (DyBox false none 0 0 0)) := new_blk _ _ _ rfl
  have HX4 : Hid ((w4.alloc (DyBox false none 0 0 0)).heap[w3.heap.size]? = some (DyBox n3 b3 k3 c3 e3)) := by show (w4.alloc _).heap[_]? = _; rw [hal4.block _ (Array.getElem?_eq_some_iff.1 HX4.out).1]; exact HX4.out
  have HKA : Hid (∀ W, Below (w4.alloc (DyBox false none 0 0 0)).heap.size (w4.alloc (DyBox false none 0 0 0)) W → Below w4.heap.size w4 W) := fun W hW => hal4.trans (hW.mono (by simp))
  have HS5 : Hid ((w4.alloc (DyBox false none 0 0 0)).heap.size = w4.heap.size + 1) := by show (w4.alloc _).heap.size = _; simp
  obtain ⟨V4, hV4⟩ : ∃ V, Hid (w4.alloc (DyBox false none 0 0 0) = V) := ⟨_, rfl⟩
  rw [hV4.out] at HY4 HX4 HKA HS5
  unfold DyBox at hV4
  clear q1 q2 q3 hb4 hal4
  go_wp2_with fail
  rw [hV4.out]
  refine (xZero_any _).mono ?_
  rintro r w5 ⟨z1, rfl, hz1, hb5⟩
  have HZ1 := hid hz1
  have HB5 := hid hb5
  clear hz1 hb5
  go_wp2_with fail
  refine (xZero_any _).mono ?_
  rintro r w6 ⟨z2, rfl, hz2, hb6⟩
  have hal6 : Below w6.heap.size w6 ((w6.alloc (XBox (some ⟨z1, 0, none⟩) 0)).alloc (XBox (some ⟨z2, 0, none⟩) 0)) := ((Below.refl _ _).alloc (Nat.le_refl _) _).alloc (by simp) _
  have HB6 := hid (HB5.out.trans (hb6.mono HB5.out.size))
  have HKB := hid (HKA.out _ (HB6.out.trans (hal6.mono HB6.out.size)))
  have HBX6 : Hid (Bx ((w6.alloc (XBox (some ⟨z1, 0, none⟩) 0)).alloc (XBox (some ⟨z2, 0, none⟩) 0)) w3.heap.size w4.heap.size w6.heap.size (DyBox n3 b3 k3 c3 e3) (DyBox false none 0 0 0) (XBox (some ⟨z1, 0, none⟩) 0) (XBox (some ⟨z2, 0, none⟩) 0)) := by
    obtain ⟨f1, f2⟩ := two_blk w6 (XBox (some ⟨z1, 0, none⟩) 0) (XBox (some ⟨z2, 0, none⟩) 0)
    have hb := HB6.out.trans (hal6.mono HB6.out.size)
    exact ⟨by rw [hb.block _ (Array.getElem?_eq_some_iff.1 HX4.out).1]; exact HX4.out, by rw [hb.block _ (Array.getElem?_eq_some_iff.1 HY4.out).1]; exact HY4.out, f1, f2⟩
  have HPQ : Hid (w3.heap.size < w4.heap.size ∧ w4.heap.size < w6.heap.size) := ⟨HS4.out, by have := HB6.out.size; have := HS5.out; omega⟩
  have HE1 : Hid (ExV ((w6.alloc (XBox (some ⟨z1, 0, none⟩) 0)).alloc (XBox (some ⟨z2, 0, none⟩) 0)) z1 0 0 0 200) := ⟨0, 0, ((HZ1.out.below hb6).below hal6).more (by omega), rfl, rfl⟩
  have HE2 : Hid (ExV ((w6.alloc (XBox (some ⟨z1, 0, none⟩) 0)).alloc (XBox (some ⟨z2, 0, none⟩) 0)) z2 0 0 0 200) := ⟨0, 0, (hz2.below hal6).more (by omega), rfl, rfl⟩
  obtain ⟨V6, hV6⟩ : ∃ V, Hid ((w6.alloc (XBox (some ⟨z1, 0, none⟩) 0)).alloc (XBox (some ⟨z2, 0, none⟩) 0) = V) := ⟨_, rfl⟩
  rw [hV6.out] at HBX6 HKB HE1 HE2
  have HL1 := hid (HL1.out.below HKB.out)
  have HL2 := hid (HL2.out.below HKB.out)
  have HD3 := hid (HD3.out.below HKB.out)
  have HBV6 : Hid (Below w.heap.size w V6) := HB4.out.trans (HKB.out.mono HB4.out.size)
  unfold XBox at hV6
  clear hz2 hb6 hal6
  have HPW : Hid (w.heap.size ≤ w6.heap.size) := by have h1 := HPQ.out; have h2 := HB4.out.size; show _ ≤ _; omega
  have hnm2 : ((sn : Int) != (tn : Int)) = true := by have := HNE.out; simp; omega
  go_wp2_with fail
  rw [hV6.out]
  obtain ⟨p, hp⟩ : ∃ p, Hid (w3.heap.size = p) := ⟨_, rfl⟩
  obtain ⟨q, hq⟩ : ∃ p, Hid (w4.heap.size = p) := ⟨_, rfl⟩
  obtain ⟨t, ht⟩ : ∃ p, Hid (w6.heap.size = p) := ⟨_, rfl⟩
  rw [hp.out, hq.out, ht.out] at HBX6 HPQ
  rw [ht.out] at HPW
  rw [hp.out, hq.out, ht.out]
  refine (rall_list a1 sn d1 xs _ HL1.out HBX.out HNM.out.1).mono ?_
  rw [HC1.out]
  rintro r w7 ⟨rfl, rfl⟩
  go_wp2_with fail
  refine (xSum_list a1 sn d1 xs _ HL1.out HBX.out HNM.out.1 HC1.out).mono ?_
  rintro r w8 ⟨p8, e8, rfl, ⟨f8, g8⟩, hx8, hb8⟩
  have B8 := HBX6.out.below hb8
  obtain ⟨u0, u1, u2⟩ := xcells_of B8.2.2.1
  obtain ⟨V8, hV8⟩ : ∃ V, Hid ((w8.setCell ⟨t, 0, none⟩ (.pointer (some ⟨p8, 0, none⟩))).setCell ⟨t, 1, none⟩ (.int .i64 e8) = V) := ⟨_, rfl⟩
  have HBX8 : Hid (Bx V8 p q t (DyBox n3 b3 k3 c3 e3) (DyBox false none 0 0 0) (XBox (some ⟨p8, 0, none⟩) e8) (XBox (some ⟨z2, 0, none⟩) 0)) := by rw [← hV8.out]; exact B8.third HPQ.out _ _
  have HX8 : Hid (ExV V8 p8 e8 (-1074) (sumSv xs sn) 200) := by rw [← hV8.out]; exact hx8.stored B8.2.2.1 _ _
  have HL1 := hid ((HL1.out.below hb8).xstored B8.2.2.1 (.pointer (some ⟨p8, 0, none⟩)) (.int .i64 e8))
  have HL2 := hid ((HL2.out.below hb8).xstored B8.2.2.1 (.pointer (some ⟨p8, 0, none⟩)) (.int .i64 e8))
  have HD3 := hid ((HD3.out.below hb8).xstored B8.2.2.1 (.pointer (some ⟨p8, 0, none⟩)) (.int .i64 e8))
  rw [hV8.out] at HL1 HL2 HD3
  have HBV8 : Hid (Below w.heap.size w V8) := by
    have hb := HBV6.out.trans (hb8.mono HBV6.out.size)
    have := HPW.out
    rw [← hV8.out]
    exact Below.setCell (Below.setCell hb (by show w.heap.size ≤ t; omega) _) (by show w.heap.size ≤ t; omega) _
  obtain ⟨j0, j1, j2⟩ := dcells_of HBX8.out.1
  obtain ⟨i0, i1, _⟩ := xcells_of HBX8.out.2.2.1
  have hV8' := hV8.out
  clear hx8 hb8 B8
  have HTT := hid (HT.out _ HBV8.out)
  go_wp2_with fail
  refine (is_ok n3 b3 k3 c3 p8 e3 _ (-1074) e8 _ HD3.out HX8.out (by omega) (by omega) HTT.out.2.2.1 HTT.out.2.2.2).mono ?_
  rintro r w20 ⟨rfl, hb20⟩
  have HB20 := hid (HBV8.out.trans (hb20.mono HBV8.out.size))
  have B20 := HBX8.out.below hb20
  obtain ⟨m0, m1, m2⟩ := dcells_of B20.2.1
  obtain ⟨o0, o1, _⟩ := xcells_of B20.2.2.2
  have HTT := hid (HT.out _ HB20.out)
  clear hb20 B20
  go_wp2_with fail
  refine (is_bad z2 0 3 _ (by decide)).mono ?_
  rintro r w21 ⟨rfl, hb21⟩
  have HB21 := hid (HB20.out.trans (hb21.mono HB20.out.size))
  have HTT := hid (HT.out _ HB21.out)
  clear hb21
  go_wp2_with fail
  refine (awake3_any _ HTT.out.1 HTT.out.2.1 HTT.out.2.2.1 HTT.out.2.2.2).mono ?_
  rintro r w22 ⟨rfl, hb22⟩
  have HB22 := hid (HB21.out.trans (hb22.mono HB21.out.size))
  clear hb22
  go_wp2
  go_ret
  exact ⟨rfl, HB22.out⟩
set_option maxRecDepth 8000 in
set_option maxHeartbeats 8000000 in
theorem sums_b (sa : Option Addr) (sn sc : Nat) (xs : List Nat) (ta : Option Addr) (tn tc : Nat) (ys : List Nat) (w : World) (hu : U64At w sa sn xs) (hn : sn ≤ 17592186043904) (hv : U64At w ta tn ys) (hm : tn ≤ 17592186043904) (hT : Tab w) (hg : 2 < w.heap.size) (hT3 : Tab32 w) (hs : 1 < w.heap.size)
    (c1 : allFin xs = false) (hne : sn = tn) :
    Calls Tryz.prog 3 #[.slice sa sn sc, .slice ta tn tc] w fun r w' => r = .returned (.bool true) ∧ Below w.heap.size w w' := by
  have HT : Hid (∀ W, Below w.heap.size w W → Tab W ∧ 2 < W.heap.size ∧ Tab32 W ∧ 1 < W.heap.size) := fun W hW => ⟨hT.below hg hW, Nat.lt_of_lt_of_le hg hW.size, hT3.below hs hW, Nat.lt_of_lt_of_le hs hW.size⟩
  have HU := hid hu
  have HV := hid hv
  have HNM := hid (And.intro hn hm)
  have HC1 := hid c1
  have HNE := hid hne
  have HBX : Hid (∀ x ∈ xs, x < 18446744073709551616) := hu.2.1
  have HBY : Hid (∀ x ∈ ys, x < 18446744073709551616) := hv.2.1
  clear hT hg hT3 hs hu hv c1 hne hn hm
  go_enter Tryz.func3, Tryz.ntmps3
  go_wp2_with fail
  refine (Of64_list sa sn sc xs _ HU.out HNM.out.1).mono ?_
  rintro r w1 ⟨a1, d1, rfl, l1, hb1⟩
  have HL1 := hid l1
  have HB1 := hid hb1
  have HV := hid (HV.out.below hb1)
  clear l1 hb1
  go_wp2_with fail
  refine (Of64_list ta tn tc ys _ HV.out HNM.out.2).mono ?_
  rintro r w2 ⟨a2, d2, rfl, l2, hb2⟩
  have HL1 := hid (HL1.out.below hb2)
  have HL2 := hid l2
  have HB2 := hid (HB1.out.trans (hb2.mono HB1.out.size))
  clear l2 hb2
  have HTT := hid (HT.out _ HB2.out)
  go_wp2_with fail
  refine (Sum_list a1 sn d1 xs _ HL1.out HBX.out HNM.out.1 HTT.out.1 HTT.out.2.1 HTT.out.2.2.1 HTT.out.2.2.2).mono ?_
  rintro r w3 ⟨n3, b3, k3, c3, e3, E3, rfl, s1, s2, hb3⟩
  obtain ⟨rfl, rfl, rfl, rfl, rfl, rfl⟩ := s2 HC1.out
  have HL1 := hid (HL1.out.below hb3)
  have HL2 := hid (HL2.out.below hb3)
  have HB3 := hid (HB2.out.trans (hb3.mono HB2.out.size))
  have hal3 : Below w3.heap.size w3 (w3.alloc (DyBox false none 0 0 0)) := (Below.refl _ _).alloc (Nat.le_refl _) _
  have HBV3 : Hid (Below w.heap.size w (w3.alloc (DyBox false none 0 0 0))) := HB3.out.trans (hal3.mono HB3.out.size)
  have HL1 := hid (HL1.out.below hal3)
  have HL2 := hid (HL2.out.below hal3)
  have HX3 : Hid ((w3.alloc (DyBox false none 0 0 0)).heap[w3.heap.size]? = some (DyBox false none 0 0 0)) := new_blk _ _ _ rfl
  have HS3 : Hid ((w3.alloc (DyBox false none 0 0 0)).heap.size = w3.heap.size + 1) := by show (w3.alloc _).heap.size = _; simp
  obtain ⟨V3, hV3⟩ : ∃ V, Hid (w3.alloc (DyBox false none 0 0 0) = V) := ⟨_, rfl⟩
  rw [hV3.out] at HBV3 HL1 HL2 HX3 HS3
  unfold DyBox at hV3
  have HTT := hid (HT.out _ HBV3.out)
  clear s1 s2 hb3 hal3
  go_wp2_with fail
  rw [hV3.out]
  refine (Dot_list a1 a2 sn tn d1 d2 xs ys _ HL1.out HL2.out HBX.out HBY.out HNM.out.1 HTT.out.1 HTT.out.2.1 HTT.out.2.2.1 HTT.out.2.2.2).mono ?_
  rintro r w4 ⟨n4, b4, k4, c4, e4, E4, rfl, q1, q2, q3, hb4⟩
  obtain ⟨rfl, rfl, rfl, rfl, rfl, rfl⟩ := q2 HNE.out (by rw [HC1.out]; rfl)
  have HL1 := hid (HL1.out.below hb4)
  have HL2 := hid (HL2.out.below hb4)
  have HX4 : Hid (w4.heap[w3.heap.size]? = some (DyBox false none 0 0 0)) := by show w4.heap[_]? = _; rw [hb4.block _ (Array.getElem?_eq_some_iff.1 HX3.out).1]; exact HX3.out
  have HB4 := hid (HBV3.out.trans (hb4.mono HBV3.out.size))
  have HS4 : Hid (w3.heap.size < w4.heap.size) := by have := hb4.size; have := HS3.out; show _ < _; omega
  have hal4 : Below w4.heap.size w4 (w4.alloc (DyBox false none 0 0 0)) := (Below.refl _ _).alloc (Nat.le_refl _) _
  have HY4 : Hid ((w4.alloc (DyBox false none 0 0 0)).heap[w4.heap.size]? = some (DyBox false none 0 0 0)) := new_blk _ _ _ rfl
  have HX4 : Hid ((w4.alloc (DyBox false none 0 0 0)).heap[w3.heap.size]? = some (DyBox false none 0 0 0)) := by show (w4.alloc _).heap[_]? = _; rw [hal4.block _ (Array.getElem?_eq_some_iff.1 HX4.out).1]; exact HX4.out
  have HKA : Hid (∀ W, Below (w4.alloc (DyBox false none 0 0 0)).heap.size (w4.alloc (DyBox false none 0 0 0)) W → Below w4.heap.size w4 W) := fun W hW => hal4.trans (hW.mono (by simp))
  have HS5 : Hid ((w4.alloc (DyBox false none 0 0 0)).heap.size = w4.heap.size + 1) := by show (w4.alloc _).heap.size = _; simp
  obtain ⟨V4, hV4⟩ : ∃ V, Hid (w4.alloc (DyBox false none 0 0 0) = V) := ⟨_, rfl⟩
  rw [hV4.out] at HY4 HX4 HKA HS5
  unfold DyBox at hV4
  clear q1 q2 q3 hb4 hal4
  go_wp2_with fail
  rw [hV4.out]
  refine (xZero_any _).mono ?_
  rintro r w5 ⟨z1, rfl, hz1, hb5⟩
  have HZ1 := hid hz1
  have HB5 := hid hb5
  clear hz1 hb5
  go_wp2_with fail
  refine (xZero_any _).mono ?_
  rintro r w6 ⟨z2, rfl, hz2, hb6⟩
  have hal6 : Below w6.heap.size w6 ((w6.alloc (XBox (some ⟨z1, 0, none⟩) 0)).alloc (XBox (some ⟨z2, 0, none⟩) 0)) := ((Below.refl _ _).alloc (Nat.le_refl _) _).alloc (by simp) _
  have HB6 := hid (HB5.out.trans (hb6.mono HB5.out.size))
  have HKB := hid (HKA.out _ (HB6.out.trans (hal6.mono HB6.out.size)))
  have HBX6 : Hid (Bx ((w6.alloc (XBox (some ⟨z1, 0, none⟩) 0)).alloc (XBox (some ⟨z2, 0, none⟩) 0)) w3.heap.size w4.heap.size w6.heap.size (DyBox false none 0 0 0) (DyBox false none 0 0 0) (XBox (some ⟨z1, 0, none⟩) 0) (XBox (some ⟨z2, 0, none⟩) 0)) := by
    obtain ⟨f1, f2⟩ := two_blk w6 (XBox (some ⟨z1, 0, none⟩) 0) (XBox (some ⟨z2, 0, none⟩) 0)
    have hb := HB6.out.trans (hal6.mono HB6.out.size)
    exact ⟨by rw [hb.block _ (Array.getElem?_eq_some_iff.1 HX4.out).1]; exact HX4.out, by rw [hb.block _ (Array.getElem?_eq_some_iff.1 HY4.out).1]; exact HY4.out, f1, f2⟩
  have HPQ : Hid (w3.heap.size < w4.heap.size ∧ w4.heap.size < w6.heap.size) := ⟨HS4.out, by have := HB6.out.size; have := HS5.out; omega⟩
  have HE1 : Hid (ExV ((w6.alloc (XBox (some ⟨z1, 0, none⟩) 0)).alloc (XBox (some ⟨z2, 0, none⟩) 0)) z1 0 0 0 200) := ⟨0, 0, ((HZ1.out.below hb6).below hal6).more (by omega), rfl, rfl⟩
  have HE2 : Hid (ExV ((w6.alloc (XBox (some ⟨z1, 0, none⟩) 0)).alloc (XBox (some ⟨z2, 0, none⟩) 0)) z2 0 0 0 200) := ⟨0, 0, (hz2.below hal6).more (by omega), rfl, rfl⟩
  obtain ⟨V6, hV6⟩ : ∃ V, Hid ((w6.alloc (XBox (some ⟨z1, 0, none⟩) 0)).alloc (XBox (some ⟨z2, 0, none⟩) 0) = V) := ⟨_, rfl⟩
  rw [hV6.out] at HBX6 HKB HE1 HE2
  have HL1 := hid (HL1.out.below HKB.out)
  have HL2 := hid (HL2.out.below HKB.out)
  have HBV6 : Hid (Below w.heap.size w V6) := HB4.out.trans (HKB.out.mono HB4.out.size)
  unfold XBox at hV6
  clear hz2 hb6 hal6
  have HPW : Hid (w.heap.size ≤ w6.heap.size) := by have h1 := HPQ.out; have h2 := HB4.out.size; show _ ≤ _; omega
  have hnm2 : ((sn : Int) != (tn : Int)) = false := by have := HNE.out; simp; omega
  go_wp2_with fail
  rw [hV6.out]
  obtain ⟨p, hp⟩ : ∃ p, Hid (w3.heap.size = p) := ⟨_, rfl⟩
  obtain ⟨q, hq⟩ : ∃ p, Hid (w4.heap.size = p) := ⟨_, rfl⟩
  obtain ⟨t, ht⟩ : ∃ p, Hid (w6.heap.size = p) := ⟨_, rfl⟩
  rw [hp.out, hq.out, ht.out] at HBX6 HPQ
  rw [ht.out] at HPW
  rw [hp.out, hq.out, ht.out]
  refine (rall_list a1 sn d1 xs _ HL1.out HBX.out HNM.out.1).mono ?_
  rw [HC1.out]
  rintro r w7 ⟨rfl, rfl⟩
  obtain ⟨j0, j1, j2⟩ := dcells_of HBX6.out.1
  obtain ⟨i0, i1, _⟩ := xcells_of HBX6.out.2.2.1
  have HTT := hid (HT.out _ HBV6.out)
  go_wp2_with fail
  refine (is_bad z1 0 4 _ (by decide)).mono ?_
  rintro r w20 ⟨rfl, hb20⟩
  have HB20 := hid (HBV6.out.trans (hb20.mono HBV6.out.size))
  have B20 := HBX6.out.below hb20
  obtain ⟨m0, m1, m2⟩ := dcells_of B20.2.1
  obtain ⟨o0, o1, _⟩ := xcells_of B20.2.2.2
  have HTT := hid (HT.out _ HB20.out)
  clear hb20 B20
  go_wp2_with fail
  refine (is_bad z2 0 4 _ (by decide)).mono ?_
  rintro r w21 ⟨rfl, hb21⟩
  have HB21 := hid (HB20.out.trans (hb21.mono HB20.out.size))
  have HTT := hid (HT.out _ HB21.out)
  clear hb21
  go_wp2_with fail
  refine (awake3_any _ HTT.out.1 HTT.out.2.1 HTT.out.2.2.1 HTT.out.2.2.2).mono ?_
  rintro r w22 ⟨rfl, hb22⟩
  have HB22 := hid (HB21.out.trans (hb22.mono HB21.out.size))
  clear hb22
  go_wp2
  go_ret
  exact ⟨rfl, HB22.out⟩
set_option maxRecDepth 8000 in
set_option maxHeartbeats 8000000 in
theorem sums_a (sa : Option Addr) (sn sc : Nat) (xs : List Nat) (ta : Option Addr) (tn tc : Nat) (ys : List Nat) (w : World) (hu : U64At w sa sn xs) (hn : sn ≤ 17592186043904) (hv : U64At w ta tn ys) (hm : tn ≤ 17592186043904) (hT : Tab w) (hg : 2 < w.heap.size) (hT3 : Tab32 w) (hs : 1 < w.heap.size)
    (c1 : allFin xs = false) (hne : sn ≠ tn) :
    Calls Tryz.prog 3 #[.slice sa sn sc, .slice ta tn tc] w fun r w' => r = .returned (.bool true) ∧ Below w.heap.size w w' := by
  have HT : Hid (∀ W, Below w.heap.size w W → Tab W ∧ 2 < W.heap.size ∧ Tab32 W ∧ 1 < W.heap.size) := fun W hW => ⟨hT.below hg hW, Nat.lt_of_lt_of_le hg hW.size, hT3.below hs hW, Nat.lt_of_lt_of_le hs hW.size⟩
  have HU := hid hu
  have HV := hid hv
  have HNM := hid (And.intro hn hm)
  have HC1 := hid c1
  have HNE := hid hne
  have HBX : Hid (∀ x ∈ xs, x < 18446744073709551616) := hu.2.1
  have HBY : Hid (∀ x ∈ ys, x < 18446744073709551616) := hv.2.1
  clear hT hg hT3 hs hu hv c1 hne hn hm
  go_enter Tryz.func3, Tryz.ntmps3
  go_wp2_with fail
  refine (Of64_list sa sn sc xs _ HU.out HNM.out.1).mono ?_
  rintro r w1 ⟨a1, d1, rfl, l1, hb1⟩
  have HL1 := hid l1
  have HB1 := hid hb1
  have HV := hid (HV.out.below hb1)
  clear l1 hb1
  go_wp2_with fail
  refine (Of64_list ta tn tc ys _ HV.out HNM.out.2).mono ?_
  rintro r w2 ⟨a2, d2, rfl, l2, hb2⟩
  have HL1 := hid (HL1.out.below hb2)
  have HL2 := hid l2
  have HB2 := hid (HB1.out.trans (hb2.mono HB1.out.size))
  clear l2 hb2
  have HTT := hid (HT.out _ HB2.out)
  go_wp2_with fail
  refine (Sum_list a1 sn d1 xs _ HL1.out HBX.out HNM.out.1 HTT.out.1 HTT.out.2.1 HTT.out.2.2.1 HTT.out.2.2.2).mono ?_
  rintro r w3 ⟨n3, b3, k3, c3, e3, E3, rfl, s1, s2, hb3⟩
  obtain ⟨rfl, rfl, rfl, rfl, rfl, rfl⟩ := s2 HC1.out
  have HL1 := hid (HL1.out.below hb3)
  have HL2 := hid (HL2.out.below hb3)
  have HB3 := hid (HB2.out.trans (hb3.mono HB2.out.size))
  have hal3 : Below w3.heap.size w3 (w3.alloc (DyBox false none 0 0 0)) := (Below.refl _ _).alloc (Nat.le_refl _) _
  have HBV3 : Hid (Below w.heap.size w (w3.alloc (DyBox false none 0 0 0))) := HB3.out.trans (hal3.mono HB3.out.size)
  have HL1 := hid (HL1.out.below hal3)
  have HL2 := hid (HL2.out.below hal3)
  have HX3 : Hid ((w3.alloc (DyBox false none 0 0 0)).heap[w3.heap.size]? = some (DyBox false none 0 0 0)) := new_blk _ _ _ rfl
  have HS3 : Hid ((w3.alloc (DyBox false none 0 0 0)).heap.size = w3.heap.size + 1) := by show (w3.alloc _).heap.size = _; simp
  obtain ⟨V3, hV3⟩ : ∃ V, Hid (w3.alloc (DyBox false none 0 0 0) = V) := ⟨_, rfl⟩
  rw [hV3.out] at HBV3 HL1 HL2 HX3 HS3
  unfold DyBox at hV3
  have HTT := hid (HT.out _ HBV3.out)
  clear s1 s2 hb3 hal3
  go_wp2_with fail
  rw [hV3.out]
  refine (Dot_list a1 a2 sn tn d1 d2 xs ys _ HL1.out HL2.out HBX.out HBY.out HNM.out.1 HTT.out.1 HTT.out.2.1 HTT.out.2.2.1 HTT.out.2.2.2).mono ?_
  rintro r w4 ⟨n4, b4, k4, c4, e4, E4, rfl, q1, q2, q3, hb4⟩
  obtain ⟨rfl, rfl, rfl, rfl, rfl, rfl⟩ := q3 HNE.out
  have HL1 := hid (HL1.out.below hb4)
  have HL2 := hid (HL2.out.below hb4)
  have HX4 : Hid (w4.heap[w3.heap.size]? = some (DyBox false none 0 0 0)) := by show w4.heap[_]? = _; rw [hb4.block _ (Array.getElem?_eq_some_iff.1 HX3.out).1]; exact HX3.out
  have HB4 := hid (HBV3.out.trans (hb4.mono HBV3.out.size))
  have HS4 : Hid (w3.heap.size < w4.heap.size) := by have := hb4.size; have := HS3.out; show _ < _; omega
  have hal4 : Below w4.heap.size w4 (w4.alloc (DyBox false none 0 0 0)) := (Below.refl _ _).alloc (Nat.le_refl _) _
  have HY4 : Hid ((w4.alloc (DyBox false none 0 0 0)).heap[w4.heap.size]? = some (DyBox false none 0 0 0)) := new_blk _ _ _ rfl
  have HX4 : Hid ((w4.alloc (DyBox false none 0 0 0)).heap[w3.heap.size]? = some (DyBox false none 0 0 0)) := by show (w4.alloc _).heap[_]? = _; rw [hal4.block _ (Array.getElem?_eq_some_iff.1 HX4.out).1]; exact HX4.out
  have HKA : Hid (∀ W, Below (w4.alloc (DyBox false none 0 0 0)).heap.size (w4.alloc (DyBox false none 0 0 0)) W → Below w4.heap.size w4 W) := fun W hW => hal4.trans (hW.mono (by simp))
  have HS5 : Hid ((w4.alloc (DyBox false none 0 0 0)).heap.size = w4.heap.size + 1) := by show (w4.alloc _).heap.size = _; simp
  obtain ⟨V4, hV4⟩ : ∃ V, Hid (w4.alloc (DyBox false none 0 0 0) = V) := ⟨_, rfl⟩
  rw [hV4.out] at HY4 HX4 HKA HS5
  unfold DyBox at hV4
  clear q1 q2 q3 hb4 hal4
  go_wp2_with fail
  rw [hV4.out]
  refine (xZero_any _).mono ?_
  rintro r w5 ⟨z1, rfl, hz1, hb5⟩
  have HZ1 := hid hz1
  have HB5 := hid hb5
  clear hz1 hb5
  go_wp2_with fail
  refine (xZero_any _).mono ?_
  rintro r w6 ⟨z2, rfl, hz2, hb6⟩
  have hal6 : Below w6.heap.size w6 ((w6.alloc (XBox (some ⟨z1, 0, none⟩) 0)).alloc (XBox (some ⟨z2, 0, none⟩) 0)) := ((Below.refl _ _).alloc (Nat.le_refl _) _).alloc (by simp) _
  have HB6 := hid (HB5.out.trans (hb6.mono HB5.out.size))
  have HKB := hid (HKA.out _ (HB6.out.trans (hal6.mono HB6.out.size)))
  have HBX6 : Hid (Bx ((w6.alloc (XBox (some ⟨z1, 0, none⟩) 0)).alloc (XBox (some ⟨z2, 0, none⟩) 0)) w3.heap.size w4.heap.size w6.heap.size (DyBox false none 0 0 0) (DyBox false none 0 0 0) (XBox (some ⟨z1, 0, none⟩) 0) (XBox (some ⟨z2, 0, none⟩) 0)) := by
    obtain ⟨f1, f2⟩ := two_blk w6 (XBox (some ⟨z1, 0, none⟩) 0) (XBox (some ⟨z2, 0, none⟩) 0)
    have hb := HB6.out.trans (hal6.mono HB6.out.size)
    exact ⟨by rw [hb.block _ (Array.getElem?_eq_some_iff.1 HX4.out).1]; exact HX4.out, by rw [hb.block _ (Array.getElem?_eq_some_iff.1 HY4.out).1]; exact HY4.out, f1, f2⟩
  have HPQ : Hid (w3.heap.size < w4.heap.size ∧ w4.heap.size < w6.heap.size) := ⟨HS4.out, by have := HB6.out.size; have := HS5.out; omega⟩
  have HE1 : Hid (ExV ((w6.alloc (XBox (some ⟨z1, 0, none⟩) 0)).alloc (XBox (some ⟨z2, 0, none⟩) 0)) z1 0 0 0 200) := ⟨0, 0, ((HZ1.out.below hb6).below hal6).more (by omega), rfl, rfl⟩
  have HE2 : Hid (ExV ((w6.alloc (XBox (some ⟨z1, 0, none⟩) 0)).alloc (XBox (some ⟨z2, 0, none⟩) 0)) z2 0 0 0 200) := ⟨0, 0, (hz2.below hal6).more (by omega), rfl, rfl⟩
  obtain ⟨V6, hV6⟩ : ∃ V, Hid ((w6.alloc (XBox (some ⟨z1, 0, none⟩) 0)).alloc (XBox (some ⟨z2, 0, none⟩) 0) = V) := ⟨_, rfl⟩
  rw [hV6.out] at HBX6 HKB HE1 HE2
  have HL1 := hid (HL1.out.below HKB.out)
  have HL2 := hid (HL2.out.below HKB.out)
  have HBV6 : Hid (Below w.heap.size w V6) := HB4.out.trans (HKB.out.mono HB4.out.size)
  unfold XBox at hV6
  clear hz2 hb6 hal6
  have HPW : Hid (w.heap.size ≤ w6.heap.size) := by have h1 := HPQ.out; have h2 := HB4.out.size; show _ ≤ _; omega
  have hnm2 : ((sn : Int) != (tn : Int)) = true := by have := HNE.out; simp; omega
  go_wp2_with fail
  rw [hV6.out]
  obtain ⟨p, hp⟩ : ∃ p, Hid (w3.heap.size = p) := ⟨_, rfl⟩
  obtain ⟨q, hq⟩ : ∃ p, Hid (w4.heap.size = p) := ⟨_, rfl⟩
  obtain ⟨t, ht⟩ : ∃ p, Hid (w6.heap.size = p) := ⟨_, rfl⟩
  rw [hp.out, hq.out, ht.out] at HBX6 HPQ
  rw [ht.out] at HPW
  rw [hp.out, hq.out, ht.out]
  refine (rall_list a1 sn d1 xs _ HL1.out HBX.out HNM.out.1).mono ?_
  rw [HC1.out]
  rintro r w7 ⟨rfl, rfl⟩
  obtain ⟨j0, j1, j2⟩ := dcells_of HBX6.out.1
  obtain ⟨i0, i1, _⟩ := xcells_of HBX6.out.2.2.1
  have HTT := hid (HT.out _ HBV6.out)
  go_wp2_with fail
  refine (is_bad z1 0 4 _ (by decide)).mono ?_
  rintro r w20 ⟨rfl, hb20⟩
  have HB20 := hid (HBV6.out.trans (hb20.mono HBV6.out.size))
  have B20 := HBX6.out.below hb20
  obtain ⟨m0, m1, m2⟩ := dcells_of B20.2.1
  obtain ⟨o0, o1, _⟩ := xcells_of B20.2.2.2
  have HTT := hid (HT.out _ HB20.out)
  clear hb20 B20
  go_wp2_with fail
  refine (is_bad z2 0 3 _ (by decide)).mono ?_
  rintro r w21 ⟨rfl, hb21⟩
  have HB21 := hid (HB20.out.trans (hb21.mono HB20.out.size))
  have HTT := hid (HT.out _ HB21.out)
  clear hb21
  go_wp2_with fail
  refine (awake3_any _ HTT.out.1 HTT.out.2.1 HTT.out.2.2.1 HTT.out.2.2.2).mono ?_
  rintro r w22 ⟨rfl, hb22⟩
  have HB22 := hid (HB21.out.trans (hb22.mono HB21.out.size))
  clear hb22
  go_wp2
  go_ret
  exact ⟨rfl, HB22.out⟩
end Go.Proofs.YtphdinjmkhefmaaGreatDoor
