
/- The law IntervalTells: its walk. -/
import Derived.Test.YtdahhpimhmloiaaDoorP30
namespace Go.Proofs.YtdahhpimhmloiaaDoor
open Go.RowKit Go.IntWalk

theorem fr {f : FuncId} {args : Array Value} {R : Ending} (V : World) (h : ∀ W, Calls Tryd.prog f args W fun r w' => r = R ∧ Below W.heap.size W w') (W : World) (hW : Hid (Below V.heap.size V W)) : Calls Tryd.prog f args W fun r w' => r = R ∧ Lft V W w' := by
  refine (h W).mono ?_
  rintro r w' ⟨rfl, hb⟩
  exact ⟨rfl, lft hW hb⟩
theorem same_eq (x y z u : Nat) (W : World) (h : EqN x y z u) : Calls Tryd.prog 11 #[.agg #[.float .f64 x, .float .f64 y], .agg #[.float .f64 z, .float .f64 u]] W fun r w' => r = .returned (.bool true) ∧ Below W.heap.size W w' := by
  refine (same_fr W x y z u W h (Below.refl _ _)).mono ?_
  rintro r w' ⟨rfl, hl⟩
  exact ⟨rfl, hl.2.1.out⟩
theorem newV_is (a b : Nat) (ha : a < 18446744073709551616) (hb : b < 18446744073709551616) : ∃ p q e, newV a b = .tuple #[.agg #[.float .f64 p, .float .f64 q], .int .i64 e] ∧ EqN p q p q := by
  unfold newV
  split
  · rename_i c
    refine ⟨_, _, _, rfl, rfl, rfl, ?_⟩
    rw [← (bt_yes c).1, ← (bt_yes c).2]
    exact nrm_any ha hb
  · refine ⟨_, _, _, rfl, rfl, rfl, ⟨cn_0, cn_0, Or.inl ?_⟩⟩
    decide +kernel
theorem nrm_all : Nrm 18442240474082181120 9218868437227405312 := ⟨cn_ni, cn_pi, Or.inl (by decide +kernel)⟩
/-- A box's cells. -/
def BX (W : World) (n p q : Nat) : Prop := W.heap[n]? = some (IBox p q)
theorem BX.cells {W : World} {n p q : Nat} (h : BX W n p q) : W.cell? ⟨n, 0, none⟩ = some (.float .f64 p) ∧ W.cell? ⟨n, 1, none⟩ = some (.float .f64 q) ∧ (∀ o, W.frozen? ⟨n, o, none⟩ = false) := icells_of (show W.heap[n]? = some (.cells #[.float .f64 p, .float .f64 q] 28) from h)
theorem BX.lt {W : World} {n p q : Nat} (h : BX W n p q) : n < W.heap.size := (Array.getElem?_eq_some_iff.1 h).1
theorem BX.keep {W W' : World} {n p q : Nat} (h : BX W n p q) (k : Below W.heap.size W W') : BX W' n p q := keepH (Below.keepH k) h
theorem BX.al {W : World} {n p q : Nat} (h : BX W n p q) (o : Obj) : BX (W.alloc o) n p q := keep_al h
theorem BX.new (W : World) (p q : Nat) : BX (W.alloc (.cells #[.float .f64 p, .float .f64 q] 28)) W.heap.size p q := new_al rfl
theorem BX.put {W : World} {n p q : Nat} (h : BX W n p q) (r s : Nat) : BX ((W.setCell ⟨n, 0, none⟩ (.float .f64 r)).setCell ⟨n, 1, none⟩ (.float .f64 s)) n r s := by
  have h' : W.heap[n]? = some (.cells #[.float .f64 p, .float .f64 q] 28) := h
  show _ = some (IBox r s)
  simp [World.setCell, Array.getElem?_modify, h', IBox]
theorem BX.far {W : World} {n m p q : Nat} (h : BX W n p q) (hn : n ≠ m) (r s : Value) : BX ((W.setCell ⟨m, 0, none⟩ r).setCell ⟨m, 1, none⟩ s) n p q := by
  show _ = _
  rw [Below.heap_setCell _ _ _ _ hn, Below.heap_setCell _ _ _ _ hn]
  exact h
theorem BX.of {W : World} {n p q : Nat} (h : W.heap[n]? = some (.cells #[.float .f64 p, .float .f64 q] 28)) : BX W n p q := h
set_option maxRecDepth 8000 in
set_option maxHeartbeats 40000000 in
theorem tells_law (a b c d x : Nat) (w : World) (ha : a < 18446744073709551616) (hb : b < 18446744073709551616) (hc : c < 18446744073709551616) (hd : d < 18446744073709551616) (hx : x < 18446744073709551616) (hA : ∀ W, Below w.heap.size w W → Calls Tryd.prog 6 #[] W fun r w' => r = .returned (.bool true) ∧ Below W.heap.size W w') : Calls Tryd.prog 4 #[.agg #[.int .u64 a, .int .u64 b], .agg #[.int .u64 c, .int .u64 d], .int .u64 x] w fun r w' => r = .returned (.bool true) ∧ Below w.heap.size w w' := by
  obtain ⟨g1, g2⟩ := iblk2 w (.cells #[.int .u64 a, .int .u64 b] 24) (.cells #[.int .u64 c, .int .u64 d] 24)
  have HB0 : Hid (Below w.heap.size w ((w.alloc (.cells #[.int .u64 a, .int .u64 b] 24)).alloc (.cells #[.int .u64 c, .int .u64 d] 24))) := ((Below.refl _ _).alloc (Nat.le_refl _) _).alloc (by simp) _
  obtain ⟨W0, hW0⟩ : ∃ V, Hid ((w.alloc (.cells #[.int .u64 a, .int .u64 b] 24)).alloc (.cells #[.int .u64 c, .int .u64 d] 24) = V) := ⟨_, rfl⟩
  rw [hW0.out] at HB0 g1 g2
  have HC : Hid (∀ W, Hid (Below W0.heap.size W0 W) → ((W.cell? ⟨w.heap.size, 0, none⟩ = some (.int .u64 a) ∧ W.cell? ⟨w.heap.size, 1, none⟩ = some (.int .u64 b)) ∧ (W.cell? ⟨w.heap.size + 1, 0, none⟩ = some (.int .u64 c) ∧ W.cell? ⟨w.heap.size + 1, 1, none⟩ = some (.int .u64 d))) ∧ Hid (Below W0.heap.size W0 W)) := fun W hW => by
    have t1 := icells_of ((hW.out.block _ (Array.getElem?_eq_some_iff.1 g1).1).trans g1)
    have t2 := icells_of ((hW.out.block _ (Array.getElem?_eq_some_iff.1 g2).1).trans g2)
    exact ⟨⟨⟨t1.1, t1.2.1⟩, t2.1, t2.2.1⟩, hW⟩
  have HO : Hid (∀ (x y : Nat) W, Hid (Below W0.heap.size W0 W) → Calls Tryd.prog 7 #[.agg #[.int .u64 x, .int .u64 y]] W fun r w' => r = .returned (.agg #[.float .f64 x, .float .f64 y]) ∧ ((∀ b o, b < W.heap.size → w'.cell? ⟨b, o, none⟩ = W.cell? ⟨b, o, none⟩) ∧ (∀ b o, b < W.heap.size → w'.frozen? ⟨b, o, none⟩ = W.frozen? ⟨b, o, none⟩)) ∧ Hid (Below W0.heap.size W0 w') ∧ w'.heap.size = W.heap.size + 2) := fun x y W hW => by
    refine (of6_any x y W).mono ?_
    rintro r w' ⟨rfl, h, hz⟩
    have h' : Below W0.heap.size W0 w' := hW.out.trans (h.mono hW.out.size)
    exact ⟨rfl, bcell h, h', hz⟩
  have hst := fstore
  have hW0' := hW0.out
  have HC0 : Hid (W0.heap.size ≤ W0.heap.size) := Nat.le_refl _
  have hE1 : E2 a b := ⟨ha, hb⟩
  have hEc : E2 c d := ⟨hc, hd⟩
  have HX := hid hx
  have HAW := hid hA
  obtain ⟨⟨⟨y0, y1⟩, y2, y3⟩, HF1⟩ := HC.out W0 (Below.refl _ _)
  clear ha hb hc hd hx hA g1 g2
  go_enter Tryd.func4, Tryd.ntmps4
  go_wp2_with fail
  have HQ0 : Hid (Below W0.heap.size W0 W0.drew) := (Below.refl _ _).drew
  rename_i K hK
  have HK := hid hK
  clear hK
  refine region_merge2 (fun a0 a' w' => ∃ P Q, a' = Act.put (Act.put (Act.put (Act.put (Act.put (Act.put a0 (some 13) (.agg #[.int .u64 a, .int .u64 b])) (some 14) (.agg #[.float .f64 a, .float .f64 b])) (some 15) (.agg #[.int .u64 c, .int .u64 d])) (some 16) (.agg #[.float .f64 c, .float .f64 d])) (some 7) (.pointer (some ⟨P, 0, none⟩))) (some 8) (.pointer (some ⟨Q, 0, none⟩)) ∧ ((w'.cell? ⟨P, 0, none⟩ = some (.float .f64 a) ∧ w'.cell? ⟨P, 1, none⟩ = some (.float .f64 b)) ∧ (w'.cell? ⟨Q, 0, none⟩ = some (.float .f64 c) ∧ w'.cell? ⟨Q, 1, none⟩ = some (.float .f64 d))) ∧ (P < w'.heap.size ∧ Q < w'.heap.size) ∧ Hid (Below W0.heap.size W0 w')) (fun HR => ?_) ?_
  · simp only [Act.put, List.setIfInBounds_toArray, List.set_cons_zero, List.set_cons_succ] at HR
    go_region_held3 (fun W => ((W.cell? ⟨w.heap.size, 0, none⟩ = some (.int .u64 a) ∧ W.cell? ⟨w.heap.size, 1, none⟩ = some (.int .u64 b)) ∧ (W.cell? ⟨w.heap.size + 1, 0, none⟩ = some (.int .u64 c) ∧ W.cell? ⟨w.heap.size + 1, 1, none⟩ = some (.int .u64 d))) ∧ Hid (Below W0.heap.size W0 W))
      ((refine HC.out _ ?_; repeat' (first | with_reducible assumption | with_reducible exact HQ0 | with_reducible exact HF1 | with_reducible exact And.right (by assumption) | with_reducible refine dr2 ?_ | with_reducible refine al2 ?_ HC0 _ | with_reducible refine st2 ?_ _ (by omega) _ _)))
      (first
        | (go_at_call 7; refine (HO.out _ _ _ (And.right (by assumption))).mono ?_; rintro r w2 ⟨rfl, ⟨hk1, hk2⟩, HF, hsz⟩; try simp at hsz)
        | fail)
    all_goals
      refine HR.out _ _ ⟨_, _, rfl, ?_, ⟨?_, ?_⟩, And.right (by assumption)⟩
      · first | (simp [go_sem, *]; done) | (simp (maxDischargeDepth := 12) [go_sem, *]; done)
      · first | omega | (simp; omega)
      · first | omega | (simp; omega)
  · have hK := HK.out
    clear HK
    rintro a' V ⟨P, Q, rfl, ⟨⟨x0, x1⟩, x2, x3⟩, ⟨hP, hQ⟩, HBV⟩
    have HW : Hid (Below w.heap.size w V) := HB0.out.trans (HBV.out.mono HB0.out.size)
    obtain ⟨p1, q1, e1, hv1, hn1⟩ := newV_is a b hE1.1 hE1.2
    obtain ⟨p2, q2, e2, hv2, hn2⟩ := newV_is x x HX.out HX.out
    have HN := hid (New_any a b)
    have HRN := hid (fun (W : World) => rNew_any a b W hE1.1 hE1.2)
    have HPT := hid (Point_any x)
    have HRP := hid (fun (W : World) => rPoint_any x W HX.out)
    rw [hv1] at HN HRN
    rw [hv2] at HPT HRP
    have HSM := hid same_eq
    have hf := f_any
    have HCV : Hid (∀ W, Below V.heap.size V W → (W.cell? ⟨P, 0, none⟩ = some (.float .f64 a) ∧ W.cell? ⟨P, 1, none⟩ = some (.float .f64 b)) ∧ (W.cell? ⟨Q, 0, none⟩ = some (.float .f64 c) ∧ W.cell? ⟨Q, 1, none⟩ = some (.float .f64 d))) := fun W hW => by
      obtain ⟨k, _⟩ := bcell hW
      rw [k P 0 hP, k P 1 hP, k Q 0 hQ, k Q 1 hQ]
      exact ⟨⟨x0, x1⟩, x2, x3⟩
    have HPQ := hid (And.intro hP hQ)
    clear hv1 hv2 hP hQ HBV HC HO HC0 hW0 hW0' HB0 HF1 HQ0 y0 y1 y2 y3
    simp only [Act.put, List.setIfInBounds_toArray, List.set_cons_zero, List.set_cons_succ]
    go_wp2_with fail
    refine (HN.out _).mono ?_
    rintro r w1 ⟨rfl, hb1⟩
    have HB1 := hid (hb1.alloc hb1.size (.cells #[.float .f64 p1, .float .f64 q1] 28))
    have hPn : ¬ P = w1.heap.size := by have := HPQ.out.1; have := hb1.size; omega
    have HV1 : Hid (V.heap.size ≤ w1.heap.size) := hb1.size
    obtain ⟨⟨x0, x1⟩, x2, x3⟩ := HCV.out _ HB1.out
    clear hb1
    go_wp2_with fail
    refine (HRN.out _).mono ?_
    rintro r w2 ⟨rfl, hb2⟩
    have GN := hid ((BX.new w1 p1 q1).keep hb2)
    have HB2 := hid ((HB1.out.trans (hb2.mono HB1.out.size)))
    clear hb2
    obtain ⟨n0, n1, _⟩ := (GN.out.al (.cells #[.float .f64 p1, .float .f64 q1] 28)).cells
    have hNn : ¬ w1.heap.size = w2.heap.size := by have := GN.out.lt; omega
    go_wp2_with fail
    refine (HSM.out _ _ _ _ _ hn1).mono ?_
    rintro r w3 ⟨rfl, hb3⟩
    have hal := HB2.out.alloc HB2.out.size (.cells #[.float .f64 p1, .float .f64 q1] 28)
    have GM := hid ((BX.new w2 p1 q1).keep hb3)
    have GN3 := hid ((GN.out.al (.cells #[.float .f64 p1, .float .f64 q1] 28)).keep hb3)
    have HB3 := hid (hal.trans (hb3.mono hal.size))
    have HLT : Hid (V.heap.size ≤ w1.heap.size ∧ w1.heap.size < w2.heap.size) := ⟨HV1.out, GN.out.lt⟩
    clear hal hb3 GN n0 n1
    obtain ⟨n0, n1, n2⟩ := GN3.out.cells
    obtain ⟨m0, m1, m2⟩ := GM.out.cells
    go_wp2_with (first | (go_at_call 18; refine (hf _ _).mono ?_; rintro r w9 ⟨rfl, rfl⟩))
    refine (HPT.out _).mono ?_
    rintro r w4 ⟨rfl, hb4⟩
    have GN4 := hid (GN3.out.keep hb4)
    have GM4 := hid (GM.out.keep hb4)
    have HB4 := hid (HB3.out.trans (hb4.mono HB3.out.size))
    clear hb4 n0 n1 n2 m0 m1 m2
    obtain ⟨n0, n1, n2⟩ := GN4.out.cells
    obtain ⟨m0, m1, m2⟩ := GM4.out.cells
    go_wp2_with (first | (go_at_call 18; refine (hf _ _).mono ?_; rintro r w9 ⟨rfl, rfl⟩))
    refine (HRP.out _).mono ?_
    rintro r w5 ⟨rfl, hb5⟩
    have hMN : ¬ w2.heap.size = w1.heap.size := by have := HLT.out.2; omega
    have GN5 := hid ((GN4.out.put p2 q2).keep hb5)
    have GM5 := hid ((GM4.out.far hMN _ _).keep hb5)
    have hst5 := Below.setCell (p := ⟨w1.heap.size, 1, none⟩) (Below.setCell (p := ⟨w1.heap.size, 0, none⟩) HB4.out HLT.out.1 (.float .f64 p2)) HLT.out.1 (.float .f64 q2)
    have HB5 := hid (hst5.trans (hb5.mono hst5.size))
    clear hst5 hb5 n0 n1 n2 m0 m1 m2
    obtain ⟨m0, m1, m2⟩ := GM5.out.cells
    obtain ⟨k0, k1, _⟩ := (GM5.out.put p2 q2).cells
    obtain ⟨n0, n1, _⟩ := (GN5.out.far (Ne.symm hMN) (.float .f64 p2) (.float .f64 q2)).cells
    have HVM : Hid (V.heap.size ≤ w2.heap.size) := Nat.le_trans HLT.out.1 (Nat.le_of_lt HLT.out.2)
    go_wp2_with fail
    refine (HSM.out _ _ _ _ _ hn2).mono ?_
    rintro r w6 ⟨rfl, hb6⟩
    have hst6 := Below.setCell (p := ⟨w2.heap.size, 1, none⟩) (Below.setCell (p := ⟨w2.heap.size, 0, none⟩) HB5.out HVM.out (.float .f64 p2)) HVM.out (.float .f64 q2)
    have HB6 := hid (hst6.trans (hb6.mono hst6.size))
    clear hst6 hb6 n0 n1 m0 m1 m2 k0 k1
    have HEM := hid Empty_any
    have HREM := hid rEmpty_any
    have HAL := hid All_any
    have HRAL := hid rAll_any
    unfold IV at HEM HREM HAL HRAL
    have qE := eqn (x := 9218868437227405312) (y := 18442240474082181120) ⟨rfl, rfl⟩ nrm_none
    have qL := eqn (x := 18442240474082181120) (y := 9218868437227405312) ⟨rfl, rfl⟩ nrm_all
    go_wp2_with fail
    refine (HEM.out _).mono ?_
    rintro r w7 ⟨rfl, hb7⟩
    have HB7 := hid (HB6.out.trans (hb7.mono HB6.out.size))
    clear hb7
    go_wp2_with fail
    refine (HREM.out _).mono ?_
    rintro r w8 ⟨rfl, hb8⟩
    have HB8 := hid (HB7.out.trans (hb8.mono HB7.out.size))
    clear hb8
    go_wp2_with fail
    refine (HSM.out _ _ _ _ _ qE).mono ?_
    rintro r w9 ⟨rfl, hb9⟩
    have HB9 := hid (HB8.out.trans (hb9.mono HB8.out.size))
    clear hb9
    go_wp2_with fail
    refine (HAL.out _).mono ?_
    rintro r w10 ⟨rfl, hb10⟩
    have HB10 := hid (HB9.out.trans (hb10.mono HB9.out.size))
    clear hb10
    go_wp2_with fail
    refine (HRAL.out _).mono ?_
    rintro r w11 ⟨rfl, hb11⟩
    have HB11 := hid (HB10.out.trans (hb11.mono HB10.out.size))
    clear hb11
    go_wp2_with fail
    refine (HSM.out _ _ _ _ _ qL).mono ?_
    rintro r w12 ⟨rfl, hb12⟩
    have HB12 := hid (HB11.out.trans (hb12.mono HB11.out.size))
    have HT12 := hid (HW.out.trans (HB12.out.mono HW.out.size))
    clear hb12 HN HRN HPT HRP HEM HREM HAL HRAL qE qL HB1 HB2 HB3 HB4 HB5 HB6 HB7 HB8 HB9 HB10 HB11 GN3 GM GN4 GM4 GN5 GM5
    have HIs := hid (fr w12 (fun W => Is_any a b W))
    have HrIs := hid (fr w12 (fun W => rIs_any a b W hE1.1 hE1.2))
    have HHas := hid (fr w12 (fun W => Has_any a b x W hE1 HX.out))
    have HrHas := hid (fr w12 (fun W => rHas_any a b x W hE1 HX.out))
    have HIn := hid (fun W hW => in_fr w12 a b c d W hE1 hEc hW)
    rw [in_is hE1 hEc] at HIn
    have HrIn := hid (fr w12 (fun W => rIn_any a b c d W hE1 hEc))
    have HMe := hid (fun W hW => meets_fr w12 a b c d W hE1 hEc hW)
    rw [meets_is hE1 hEc] at HMe
    have HrMe := hid (fr w12 (fun W => rMeets_any a b c d W hE1 hEc))
    have HBe := hid (fr w12 (fun W => Below_any a b c d W hE1 hEc))
    have HrBe := hid (fr w12 (fun W => rBelow_any a b c d W hE1 hEc))
    have HHu := hid (fun W hW => hull_fr w12 a b c d W hE1 hEc hW)
    have HrHu := hid (fr w12 (fun W => rHull_any a b c d W hE1 hEc))
    have HMt := hid (fun W hW => meet_fr w12 a b c d W hE1 hEc hW)
    have HrMt := hid (fr w12 (fun W => rMeet_any a b c d W hE1 hEc))
    have HS12 := hid (same_fr w12)
    have HAW2 := hid (fun (W : World) (hW : Hid (Below w12.heap.size w12 W)) => (HAW.out W (HT12.out.trans (hW.out.mono HT12.out.size))).mono (fun r w' (h : r = Ending.returned (.bool true) ∧ Below W.heap.size W w') => (⟨h.1, lft hW h.2⟩ : r = Ending.returned (.bool true) ∧ Lft w12 W w')))
    have qh := eqn (x := huL a b c d) (y := huH a b c d) ⟨rfl, rfl⟩ (hu_nrm hE1 hEc)
    have qm := eqn (x := meLo a b c d) (y := meHi a b c d) ⟨rfl, rfl⟩ (me_nrm hE1 hEc)
    unfold Lft at HIs HrIs HHas HrHas HIn HrIn HMe HrMe HBe HrBe HHu HrHu HMt HrMt HS12 HAW2
    unfold IV at HIs HrIs HHas HrHas HrIn HrMe HBe HrBe HrHu HrMt
    obtain ⟨B1, hB1⟩ : ∃ z, Hid ((fullB a b || noneB a b) = z) := ⟨_, rfl⟩
    obtain ⟨B2, hB2⟩ : ∃ z, Hid (hasB a b x = z) := ⟨_, rfl⟩
    obtain ⟨B3, hB3⟩ : ∃ z, Hid (rinB a b c d = z) := ⟨_, rfl⟩
    obtain ⟨B4, hB4⟩ : ∃ z, Hid (rmeB a b c d = z) := ⟨_, rfl⟩
    obtain ⟨B5, hB5⟩ : ∃ z, Hid (rbeB a b c d = z) := ⟨_, rfl⟩
    rw [hB1.out] at HIs HrIs
    rw [hB2.out] at HHas HrHas
    rw [hB3.out] at HIn HrIn
    rw [hB4.out] at HMe HrMe
    rw [hB5.out] at HBe HrBe
    have HC12 : Hid (∀ W, Hid (Below w12.heap.size w12 W) → ((W.cell? ⟨P, 0, none⟩ = some (.float .f64 a) ∧ W.cell? ⟨P, 1, none⟩ = some (.float .f64 b)) ∧ (W.cell? ⟨Q, 0, none⟩ = some (.float .f64 c) ∧ W.cell? ⟨Q, 1, none⟩ = some (.float .f64 d))) ∧ Hid (Below w12.heap.size w12 W)) := fun W hW => ⟨HCV.out W (HB12.out.trans (hW.out.mono HB12.out.size)), hW⟩
    have HQ12 : Hid (Below w12.heap.size w12 w12.drew) := (Below.refl _ _).drew
    have HR12 : Hid (Below w12.heap.size w12 w12) := Below.refl _ _
    obtain ⟨⟨⟨x0, x1⟩, x2, x3⟩, _⟩ := HC12.out w12 HR12
    go_wp2_with fail
    simp only [List.append]
    go_region_held3 (fun W => ((W.cell? ⟨P, 0, none⟩ = some (.float .f64 a) ∧ W.cell? ⟨P, 1, none⟩ = some (.float .f64 b)) ∧ (W.cell? ⟨Q, 0, none⟩ = some (.float .f64 c) ∧ W.cell? ⟨Q, 1, none⟩ = some (.float .f64 d))) ∧ Hid (Below w12.heap.size w12 W))
      ((refine HC12.out _ ?_; repeat' (first | with_reducible assumption | with_reducible exact HQ12 | with_reducible exact HR12 | with_reducible exact And.right (by assumption) | with_reducible refine dr2 ?_)))
      (first
        | (go_at_call 10; refine (HIs.out _ (And.right (by assumption))).mono ?_; rintro r w20 ⟨rfl, ⟨hk5, hk6⟩, HF5, hs5, hv5⟩)
        | (go_at_call 23; refine (HrIs.out _ (And.right (by assumption))).mono ?_; rintro r w20 ⟨rfl, ⟨hk5, hk6⟩, HF5, hs5, hv5⟩)
        | (go_at_call 24; refine (HHas.out _ (And.right (by assumption))).mono ?_; rintro r w20 ⟨rfl, ⟨hk5, hk6⟩, HF5, hs5, hv5⟩)
        | (go_at_call 25; refine (HrHas.out _ (And.right (by assumption))).mono ?_; rintro r w20 ⟨rfl, ⟨hk5, hk6⟩, HF5, hs5, hv5⟩)
        | (go_at_call 13; refine (HIn.out _ (And.right (by assumption))).mono ?_; rintro r w20 ⟨rfl, ⟨hk5, hk6⟩, HF5, hs5, hv5⟩)
        | (go_at_call 26; refine (HrIn.out _ (And.right (by assumption))).mono ?_; rintro r w20 ⟨rfl, ⟨hk5, hk6⟩, HF5, hs5, hv5⟩)
        | (go_at_call 14; refine (HMe.out _ (And.right (by assumption))).mono ?_; rintro r w20 ⟨rfl, ⟨hk5, hk6⟩, HF5, hs5, hv5⟩)
        | (go_at_call 27; refine (HrMe.out _ (And.right (by assumption))).mono ?_; rintro r w20 ⟨rfl, ⟨hk5, hk6⟩, HF5, hs5, hv5⟩)
        | (go_at_call 28; refine (HBe.out _ (And.right (by assumption))).mono ?_; rintro r w20 ⟨rfl, ⟨hk5, hk6⟩, HF5, hs5, hv5⟩)
        | (go_at_call 29; refine (HrBe.out _ (And.right (by assumption))).mono ?_; rintro r w20 ⟨rfl, ⟨hk5, hk6⟩, HF5, hs5, hv5⟩)
        | (go_at_call 9; refine (HHu.out _ (And.right (by assumption))).mono ?_; rintro r w20 ⟨rfl, hE5, ⟨hk5, hk6⟩, HF5, hs5, hv5⟩)
        | (go_at_call 30; refine (HrHu.out _ (And.right (by assumption))).mono ?_; rintro r w20 ⟨rfl, ⟨hk5, hk6⟩, HF5, hs5, hv5⟩)
        | (go_at_call 8; refine (HMt.out _ (And.right (by assumption))).mono ?_; rintro r w20 ⟨rfl, hE5, ⟨hk5, hk6⟩, HF5, hs5, hv5⟩)
        | (go_at_call 31; refine (HrMt.out _ (And.right (by assumption))).mono ?_; rintro r w20 ⟨rfl, ⟨hk5, hk6⟩, HF5, hs5, hv5⟩)
        | (go_at_call 11; refine (HS12.out _ _ _ _ _ (by assumption) (And.right (by assumption))).mono ?_; rintro r w20 ⟨rfl, ⟨hk5, hk6⟩, HF5, hs5, hv5⟩)
        | (go_at_call 6; refine (HAW2.out _ (And.right (by assumption))).mono ?_; rintro r w20 ⟨rfl, ⟨hk5, hk6⟩, HF5, hs5, hv5⟩)
        | (go_at_call 18; refine (hf _ _).mono ?_; rintro r w21 ⟨rfl, rfl⟩)
        | fail)
    go_wp2
    go_ret
    exact ⟨rfl, HT12.out.trans (HF5.out.mono HT12.out.size)⟩
end Go.Proofs.YtdahhpimhmloiaaDoor
