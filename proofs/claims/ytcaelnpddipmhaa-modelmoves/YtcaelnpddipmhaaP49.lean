
/- F, Q, G: model's, and the document's; the law ModelMoves. -/
import Derived.Test.YtcaelnpddipmhaaP48
namespace Go.Proofs.Ytcaelnpddipmhaa
open Go.RowKit Go.IntWalk

set_option maxRecDepth 4000 in
set_option maxHeartbeats 1000000 in
theorem F_mo (sa : Option Addr) (n cap : Nat) (K A : Nat → Int) (N F : Nat → Nat) (tk : Int) (w : World) (h : PtF w sa n K A N F) (hn : n ≤ 4398046511104) : Calls Try.prog 8 #[.agg #[.slice sa n cap], .int .i64 tk] w fun e w' => (∃ X0 X1 X2 X3 X4, e = .returned (.tuple #[.agg #[.int .i64 X0, .int .i64 X1, .slice X2 X3 X4], .int .i64 (laE (dmE n K A N F) tk)]) ∧ ResM (laE (dmE n K A N F) tk) (dmV n K A N F).toNat (dmV n K A N F).toNat (laV 0 n K A N F tk) w' X0 X1 X2 X3 X4) ∧ Below w.heap.size w w' := by
  obtain ⟨t1, t2, t3, t4⟩ := two_b w (MoBox sa n cap) (MBox 0 0 none 0 0)
  have HLA : Hid (∀ W, Below w.heap.size w W → Calls Try.prog 18 #[.agg #[.slice sa n cap], .int .i64 tk, .func (.func 19) #[] #[]] W fun e w' => (∃ X0 X1 X2 X3 X4, e = .returned (.tuple #[.agg #[.int .i64 X0, .int .i64 X1, .slice X2 X3 X4], .int .i64 (laE (dmE n K A N F) tk)]) ∧ ResM (laE (dmE n K A N F) tk) (dmV n K A N F).toNat (dmV n K A N F).toNat (laV 0 n K A N F tk) w' X0 X1 X2 X3 X4) ∧ Below W.heap.size W w') := fun W hW => laid_any 0 sa n cap K A N F tk W (h.below hW) hn
  obtain ⟨E, hE⟩ : ∃ t, laE (dmE n K A N F) tk = t := ⟨_, rfl⟩
  obtain ⟨D, hD⟩ : ∃ t, (dmV n K A N F).toNat = t := ⟨_, rfl⟩
  obtain ⟨v, hv⟩ : ∃ t, laV 0 n K A N F tk = t := ⟨_, rfl⟩
  rw [hE, hD, hv] at HLA
  rw [hE, hD, hv]
  obtain ⟨V, hV⟩ : ∃ V, Hid ((w.alloc (MoBox sa n cap)).alloc (MBox 0 0 none 0 0) = V) := ⟨_, rfl⟩
  rw [hV.out] at t1 t2 t3 t4
  have hV' := hV.out
  have HB := hid t3
  have HR := hid t2
  have c0 := mocell_of t1
  unfold MoBox MBox at hV'
  clear t1 t2 t3 t4 h hn hE hD hv
  go_enter Try.func8, Try.ntmps8
  go_wp2_with fail
  refine (HLA.out _ HB.out).mono ?_
  rintro e w1 ⟨⟨X0, X1, X2, X3, X4, rfl, hres⟩, hb⟩
  have HB1 := hid (HB.out.trans (hb.mono HB.out.size))
  have HR1 := hid (blkM HR.out hb)
  have HS1 := hid (ResM.sto (r1 := X0) (c1 := X1) (s1 := X2) (n1 := X3) (k1 := X4) hres HR1.out)
  obtain ⟨r0, r1, r2⟩ := mcells_of HR1.out
  have fz := frzM HR1.out
  clear hb hres c0
  go_wp2_with fail
  exact bodyPost_ret (v := .tuple #[.agg #[.int .i64 X0, .int .i64 X1, .slice X2 X3 X4], .int .i64 E]) (by simp [results, Try.results8, go_sem, r0, r1, r2]) rfl ⟨⟨X0, X1, X2, X3, X4, rfl, HS1.out⟩, StoM.below HB1.out (by omega)⟩
set_option maxRecDepth 4000 in
set_option maxHeartbeats 1000000 in
theorem rF_mo (sa : Option Addr) (n cap : Nat) (K A : Nat → Int) (N F : Nat → Nat) (tk : Int) (w : World) (h : PtF w sa n K A N F) (hn : n ≤ 4398046511104) : Calls Try.prog 10 #[.agg #[.slice sa n cap], .int .i64 tk] w fun e w' => (∃ X0 X1 X2 X3 X4, e = .returned (.tuple #[.agg #[.int .i64 X0, .int .i64 X1, .slice X2 X3 X4], .int .i64 (laE (dmE n K A N F) tk)]) ∧ ResM (laE (dmE n K A N F) tk) (dmV n K A N F).toNat (dmV n K A N F).toNat (laV 0 n K A N F tk) w' X0 X1 X2 X3 X4) ∧ Below w.heap.size w w' := by
  obtain ⟨t1, t2, t3, t4⟩ := two_b w (MoBox sa n cap) (MBox 0 0 none 0 0)
  have HLA : Hid (∀ W, Below w.heap.size w W → Calls Try.prog 21 #[.agg #[.slice sa n cap], .int .i64 tk, .int .i64 0] W fun e w' => (∃ X0 X1 X2 X3 X4, e = .returned (.tuple #[.agg #[.int .i64 X0, .int .i64 X1, .slice X2 X3 X4], .int .i64 (laE (dmE n K A N F) tk)]) ∧ ResM (laE (dmE n K A N F) tk) (dmV n K A N F).toNat (dmV n K A N F).toNat (laV 0 n K A N F tk) w' X0 X1 X2 X3 X4) ∧ Below W.heap.size W w') := fun W hW => blocks_any 0 (by decide) sa n cap K A N F tk W (h.below hW) hn
  obtain ⟨E, hE⟩ : ∃ t, laE (dmE n K A N F) tk = t := ⟨_, rfl⟩
  obtain ⟨D, hD⟩ : ∃ t, (dmV n K A N F).toNat = t := ⟨_, rfl⟩
  obtain ⟨v, hv⟩ : ∃ t, laV 0 n K A N F tk = t := ⟨_, rfl⟩
  rw [hE, hD, hv] at HLA
  rw [hE, hD, hv]
  obtain ⟨V, hV⟩ : ∃ V, Hid ((w.alloc (MoBox sa n cap)).alloc (MBox 0 0 none 0 0) = V) := ⟨_, rfl⟩
  rw [hV.out] at t1 t2 t3 t4
  have hV' := hV.out
  have HB := hid t3
  have HR := hid t2
  have c0 := mocell_of t1
  unfold MoBox MBox at hV'
  clear t1 t2 t3 t4 h hn hE hD hv
  go_enter Try.func10, Try.ntmps10
  go_wp2_with fail
  refine (HLA.out _ HB.out).mono ?_
  rintro e w1 ⟨⟨X0, X1, X2, X3, X4, rfl, hres⟩, hb⟩
  have HB1 := hid (HB.out.trans (hb.mono HB.out.size))
  have HR1 := hid (blkM HR.out hb)
  have HS1 := hid (ResM.sto (r1 := X0) (c1 := X1) (s1 := X2) (n1 := X3) (k1 := X4) hres HR1.out)
  obtain ⟨r0, r1, r2⟩ := mcells_of HR1.out
  have fz := frzM HR1.out
  clear hb hres c0
  go_wp2_with fail
  exact bodyPost_ret (v := .tuple #[.agg #[.int .i64 X0, .int .i64 X1, .slice X2 X3 X4], .int .i64 E]) (by simp [results, Try.results10, go_sem, r0, r1, r2]) rfl ⟨⟨X0, X1, X2, X3, X4, rfl, HS1.out⟩, StoM.below HB1.out (by omega)⟩
set_option maxRecDepth 4000 in
set_option maxHeartbeats 1000000 in
theorem Q_mo (sa : Option Addr) (n cap : Nat) (K A : Nat → Int) (N F : Nat → Nat) (tk : Int) (w : World) (h : PtF w sa n K A N F) (hn : n ≤ 4398046511104) : Calls Try.prog 12 #[.agg #[.slice sa n cap], .int .i64 tk] w fun e w' => (∃ X0 X1 X2 X3 X4, e = .returned (.tuple #[.agg #[.int .i64 X0, .int .i64 X1, .slice X2 X3 X4], .int .i64 (laE (dmE n K A N F) tk)]) ∧ ResM (laE (dmE n K A N F) tk) (dmV n K A N F).toNat (dmV n K A N F).toNat (laV 1 n K A N F tk) w' X0 X1 X2 X3 X4) ∧ Below w.heap.size w w' := by
  obtain ⟨t1, t2, t3, t4⟩ := two_b w (MoBox sa n cap) (MBox 0 0 none 0 0)
  have HLA : Hid (∀ W, Below w.heap.size w W → Calls Try.prog 18 #[.agg #[.slice sa n cap], .int .i64 tk, .func (.func 23) #[] #[]] W fun e w' => (∃ X0 X1 X2 X3 X4, e = .returned (.tuple #[.agg #[.int .i64 X0, .int .i64 X1, .slice X2 X3 X4], .int .i64 (laE (dmE n K A N F) tk)]) ∧ ResM (laE (dmE n K A N F) tk) (dmV n K A N F).toNat (dmV n K A N F).toNat (laV 1 n K A N F tk) w' X0 X1 X2 X3 X4) ∧ Below W.heap.size W w') := fun W hW => laid_any 1 sa n cap K A N F tk W (h.below hW) hn
  obtain ⟨E, hE⟩ : ∃ t, laE (dmE n K A N F) tk = t := ⟨_, rfl⟩
  obtain ⟨D, hD⟩ : ∃ t, (dmV n K A N F).toNat = t := ⟨_, rfl⟩
  obtain ⟨v, hv⟩ : ∃ t, laV 1 n K A N F tk = t := ⟨_, rfl⟩
  rw [hE, hD, hv] at HLA
  rw [hE, hD, hv]
  obtain ⟨V, hV⟩ : ∃ V, Hid ((w.alloc (MoBox sa n cap)).alloc (MBox 0 0 none 0 0) = V) := ⟨_, rfl⟩
  rw [hV.out] at t1 t2 t3 t4
  have hV' := hV.out
  have HB := hid t3
  have HR := hid t2
  have c0 := mocell_of t1
  unfold MoBox MBox at hV'
  clear t1 t2 t3 t4 h hn hE hD hv
  go_enter Try.func12, Try.ntmps12
  go_wp2_with fail
  refine (HLA.out _ HB.out).mono ?_
  rintro e w1 ⟨⟨X0, X1, X2, X3, X4, rfl, hres⟩, hb⟩
  have HB1 := hid (HB.out.trans (hb.mono HB.out.size))
  have HR1 := hid (blkM HR.out hb)
  have HS1 := hid (ResM.sto (r1 := X0) (c1 := X1) (s1 := X2) (n1 := X3) (k1 := X4) hres HR1.out)
  obtain ⟨r0, r1, r2⟩ := mcells_of HR1.out
  have fz := frzM HR1.out
  clear hb hres c0
  go_wp2_with fail
  exact bodyPost_ret (v := .tuple #[.agg #[.int .i64 X0, .int .i64 X1, .slice X2 X3 X4], .int .i64 E]) (by simp [results, Try.results12, go_sem, r0, r1, r2]) rfl ⟨⟨X0, X1, X2, X3, X4, rfl, HS1.out⟩, StoM.below HB1.out (by omega)⟩
set_option maxRecDepth 4000 in
set_option maxHeartbeats 1000000 in
theorem rQ_mo (sa : Option Addr) (n cap : Nat) (K A : Nat → Int) (N F : Nat → Nat) (tk : Int) (w : World) (h : PtF w sa n K A N F) (hn : n ≤ 4398046511104) : Calls Try.prog 13 #[.agg #[.slice sa n cap], .int .i64 tk] w fun e w' => (∃ X0 X1 X2 X3 X4, e = .returned (.tuple #[.agg #[.int .i64 X0, .int .i64 X1, .slice X2 X3 X4], .int .i64 (laE (dmE n K A N F) tk)]) ∧ ResM (laE (dmE n K A N F) tk) (dmV n K A N F).toNat (dmV n K A N F).toNat (laV 1 n K A N F tk) w' X0 X1 X2 X3 X4) ∧ Below w.heap.size w w' := by
  obtain ⟨t1, t2, t3, t4⟩ := two_b w (MoBox sa n cap) (MBox 0 0 none 0 0)
  have HLA : Hid (∀ W, Below w.heap.size w W → Calls Try.prog 21 #[.agg #[.slice sa n cap], .int .i64 tk, .int .i64 1] W fun e w' => (∃ X0 X1 X2 X3 X4, e = .returned (.tuple #[.agg #[.int .i64 X0, .int .i64 X1, .slice X2 X3 X4], .int .i64 (laE (dmE n K A N F) tk)]) ∧ ResM (laE (dmE n K A N F) tk) (dmV n K A N F).toNat (dmV n K A N F).toNat (laV 1 n K A N F tk) w' X0 X1 X2 X3 X4) ∧ Below W.heap.size W w') := fun W hW => blocks_any 1 (by decide) sa n cap K A N F tk W (h.below hW) hn
  obtain ⟨E, hE⟩ : ∃ t, laE (dmE n K A N F) tk = t := ⟨_, rfl⟩
  obtain ⟨D, hD⟩ : ∃ t, (dmV n K A N F).toNat = t := ⟨_, rfl⟩
  obtain ⟨v, hv⟩ : ∃ t, laV 1 n K A N F tk = t := ⟨_, rfl⟩
  rw [hE, hD, hv] at HLA
  rw [hE, hD, hv]
  obtain ⟨V, hV⟩ : ∃ V, Hid ((w.alloc (MoBox sa n cap)).alloc (MBox 0 0 none 0 0) = V) := ⟨_, rfl⟩
  rw [hV.out] at t1 t2 t3 t4
  have hV' := hV.out
  have HB := hid t3
  have HR := hid t2
  have c0 := mocell_of t1
  unfold MoBox MBox at hV'
  clear t1 t2 t3 t4 h hn hE hD hv
  go_enter Try.func13, Try.ntmps13
  go_wp2_with fail
  refine (HLA.out _ HB.out).mono ?_
  rintro e w1 ⟨⟨X0, X1, X2, X3, X4, rfl, hres⟩, hb⟩
  have HB1 := hid (HB.out.trans (hb.mono HB.out.size))
  have HR1 := hid (blkM HR.out hb)
  have HS1 := hid (ResM.sto (r1 := X0) (c1 := X1) (s1 := X2) (n1 := X3) (k1 := X4) hres HR1.out)
  obtain ⟨r0, r1, r2⟩ := mcells_of HR1.out
  have fz := frzM HR1.out
  clear hb hres c0
  go_wp2_with fail
  exact bodyPost_ret (v := .tuple #[.agg #[.int .i64 X0, .int .i64 X1, .slice X2 X3 X4], .int .i64 E]) (by simp [results, Try.results13, go_sem, r0, r1, r2]) rfl ⟨⟨X0, X1, X2, X3, X4, rfl, HS1.out⟩, StoM.below HB1.out (by omega)⟩
set_option maxRecDepth 4000 in
set_option maxHeartbeats 1000000 in
theorem G_mo (sa : Option Addr) (n cap : Nat) (K A : Nat → Int) (N F : Nat → Nat) (tk : Int) (w : World) (h : PtF w sa n K A N F) (hn : n ≤ 4398046511104) : Calls Try.prog 14 #[.agg #[.slice sa n cap], .int .i64 tk] w fun e w' => (∃ X0 X1 X2 X3 X4, e = .returned (.tuple #[.agg #[.int .i64 X0, .int .i64 X1, .slice X2 X3 X4], .int .i64 (laE (dmE n K A N F) tk)]) ∧ ResM (laE (dmE n K A N F) tk) (dmV n K A N F).toNat (dmV n K A N F).toNat (laV 2 n K A N F tk) w' X0 X1 X2 X3 X4) ∧ Below w.heap.size w w' := by
  obtain ⟨t1, t2, t3, t4⟩ := two_b w (MoBox sa n cap) (MBox 0 0 none 0 0)
  have HLA : Hid (∀ W, Below w.heap.size w W → Calls Try.prog 18 #[.agg #[.slice sa n cap], .int .i64 tk, .func (.func 24) #[] #[]] W fun e w' => (∃ X0 X1 X2 X3 X4, e = .returned (.tuple #[.agg #[.int .i64 X0, .int .i64 X1, .slice X2 X3 X4], .int .i64 (laE (dmE n K A N F) tk)]) ∧ ResM (laE (dmE n K A N F) tk) (dmV n K A N F).toNat (dmV n K A N F).toNat (laV 2 n K A N F tk) w' X0 X1 X2 X3 X4) ∧ Below W.heap.size W w') := fun W hW => laid_any 2 sa n cap K A N F tk W (h.below hW) hn
  obtain ⟨E, hE⟩ : ∃ t, laE (dmE n K A N F) tk = t := ⟨_, rfl⟩
  obtain ⟨D, hD⟩ : ∃ t, (dmV n K A N F).toNat = t := ⟨_, rfl⟩
  obtain ⟨v, hv⟩ : ∃ t, laV 2 n K A N F tk = t := ⟨_, rfl⟩
  rw [hE, hD, hv] at HLA
  rw [hE, hD, hv]
  obtain ⟨V, hV⟩ : ∃ V, Hid ((w.alloc (MoBox sa n cap)).alloc (MBox 0 0 none 0 0) = V) := ⟨_, rfl⟩
  rw [hV.out] at t1 t2 t3 t4
  have hV' := hV.out
  have HB := hid t3
  have HR := hid t2
  have c0 := mocell_of t1
  unfold MoBox MBox at hV'
  clear t1 t2 t3 t4 h hn hE hD hv
  go_enter Try.func14, Try.ntmps14
  go_wp2_with fail
  refine (HLA.out _ HB.out).mono ?_
  rintro e w1 ⟨⟨X0, X1, X2, X3, X4, rfl, hres⟩, hb⟩
  have HB1 := hid (HB.out.trans (hb.mono HB.out.size))
  have HR1 := hid (blkM HR.out hb)
  have HS1 := hid (ResM.sto (r1 := X0) (c1 := X1) (s1 := X2) (n1 := X3) (k1 := X4) hres HR1.out)
  obtain ⟨r0, r1, r2⟩ := mcells_of HR1.out
  have fz := frzM HR1.out
  clear hb hres c0
  go_wp2_with fail
  exact bodyPost_ret (v := .tuple #[.agg #[.int .i64 X0, .int .i64 X1, .slice X2 X3 X4], .int .i64 E]) (by simp [results, Try.results14, go_sem, r0, r1, r2]) rfl ⟨⟨X0, X1, X2, X3, X4, rfl, HS1.out⟩, StoM.below HB1.out (by omega)⟩
set_option maxRecDepth 4000 in
set_option maxHeartbeats 1000000 in
theorem rG_mo (sa : Option Addr) (n cap : Nat) (K A : Nat → Int) (N F : Nat → Nat) (tk : Int) (w : World) (h : PtF w sa n K A N F) (hn : n ≤ 4398046511104) : Calls Try.prog 15 #[.agg #[.slice sa n cap], .int .i64 tk] w fun e w' => (∃ X0 X1 X2 X3 X4, e = .returned (.tuple #[.agg #[.int .i64 X0, .int .i64 X1, .slice X2 X3 X4], .int .i64 (laE (dmE n K A N F) tk)]) ∧ ResM (laE (dmE n K A N F) tk) (dmV n K A N F).toNat (dmV n K A N F).toNat (laV 2 n K A N F tk) w' X0 X1 X2 X3 X4) ∧ Below w.heap.size w w' := by
  obtain ⟨t1, t2, t3, t4⟩ := two_b w (MoBox sa n cap) (MBox 0 0 none 0 0)
  have HLA : Hid (∀ W, Below w.heap.size w W → Calls Try.prog 21 #[.agg #[.slice sa n cap], .int .i64 tk, .int .i64 2] W fun e w' => (∃ X0 X1 X2 X3 X4, e = .returned (.tuple #[.agg #[.int .i64 X0, .int .i64 X1, .slice X2 X3 X4], .int .i64 (laE (dmE n K A N F) tk)]) ∧ ResM (laE (dmE n K A N F) tk) (dmV n K A N F).toNat (dmV n K A N F).toNat (laV 2 n K A N F tk) w' X0 X1 X2 X3 X4) ∧ Below W.heap.size W w') := fun W hW => blocks_any 2 (by decide) sa n cap K A N F tk W (h.below hW) hn
  obtain ⟨E, hE⟩ : ∃ t, laE (dmE n K A N F) tk = t := ⟨_, rfl⟩
  obtain ⟨D, hD⟩ : ∃ t, (dmV n K A N F).toNat = t := ⟨_, rfl⟩
  obtain ⟨v, hv⟩ : ∃ t, laV 2 n K A N F tk = t := ⟨_, rfl⟩
  rw [hE, hD, hv] at HLA
  rw [hE, hD, hv]
  obtain ⟨V, hV⟩ : ∃ V, Hid ((w.alloc (MoBox sa n cap)).alloc (MBox 0 0 none 0 0) = V) := ⟨_, rfl⟩
  rw [hV.out] at t1 t2 t3 t4
  have hV' := hV.out
  have HB := hid t3
  have HR := hid t2
  have c0 := mocell_of t1
  unfold MoBox MBox at hV'
  clear t1 t2 t3 t4 h hn hE hD hv
  go_enter Try.func15, Try.ntmps15
  go_wp2_with fail
  refine (HLA.out _ HB.out).mono ?_
  rintro e w1 ⟨⟨X0, X1, X2, X3, X4, rfl, hres⟩, hb⟩
  have HB1 := hid (HB.out.trans (hb.mono HB.out.size))
  have HR1 := hid (blkM HR.out hb)
  have HS1 := hid (ResM.sto (r1 := X0) (c1 := X1) (s1 := X2) (n1 := X3) (k1 := X4) hres HR1.out)
  obtain ⟨r0, r1, r2⟩ := mcells_of HR1.out
  have fz := frzM HR1.out
  clear hb hres c0
  go_wp2_with fail
  exact bodyPost_ret (v := .tuple #[.agg #[.int .i64 X0, .int .i64 X1, .slice X2 X3 X4], .int .i64 E]) (by simp [results, Try.results15, go_sem, r0, r1, r2]) rfl ⟨⟨X0, X1, X2, X3, X4, rfl, HS1.out⟩, StoM.below HB1.out (by omega)⟩
set_option maxRecDepth 4000 in
set_option maxHeartbeats 8000000 in
theorem moves_walk (sa : Option Addr) (n cap : Nat) (K A : Nat → Int) (N F : Nat → Nat) (tk : Int) (w : World) (h : PtU w sa n K A N F) (hn : n ≤ 4398046511104) (_ht : -9223372036854775808 ≤ tk ∧ tk ≤ 9223372036854775807) : Calls Try.prog 3 #[.slice sa n cap, .int .i64 tk] w fun r w' => r = .returned (.bool true) ∧ Below w.heap.size w w' := by
  have HM := hid (fun W (hW : Below w.heap.size w W) => motion_any sa n cap K A N F W (h.below hW) hn)
  have HS1 := hid (fun W => Seconds_any tk W)
  have HS2 := hid (fun W => rSeconds_any tk W)
  have HAW := hid awake14_any
  have HF1 := hid (fun ta tc W hp => F_mo ta n tc K A N F tk W hp hn)
  have HF2 := hid (fun ta tc W hp => rF_mo ta n tc K A N F tk W hp hn)
  have HQ1 := hid (fun ta tc W hp => Q_mo ta n tc K A N F tk W hp hn)
  have HQ2 := hid (fun ta tc W hp => rQ_mo ta n tc K A N F tk W hp hn)
  have HG1 := hid (fun ta tc W hp => G_mo ta n tc K A N F tk W hp hn)
  have HG2 := hid (fun ta tc W hp => rG_mo ta n tc K A N F tk W hp hn)
  obtain ⟨E, hE⟩ : ∃ t, laE (dmE n K A N F) tk = t := ⟨_, rfl⟩
  obtain ⟨D, hD⟩ : ∃ t, (dmV n K A N F).toNat = t := ⟨_, rfl⟩
  obtain ⟨v0, hv0⟩ : ∃ t, laV 0 n K A N F tk = t := ⟨_, rfl⟩
  rw [hE, hD, hv0] at HF1 HF2
  have HT0 := hid (fun X0 X1 X2 X3 X4 Y0 Y1 Y2 Y3 Y4 W a b => told14_res E D D v0 X0 X1 Y0 Y1 X2 Y2 X3 X4 Y3 Y4 W a b)
  obtain ⟨v1, hv1⟩ : ∃ t, laV 1 n K A N F tk = t := ⟨_, rfl⟩
  rw [hE, hD, hv1] at HQ1 HQ2
  have HT1 := hid (fun X0 X1 X2 X3 X4 Y0 Y1 Y2 Y3 Y4 W a b => told14_res E D D v1 X0 X1 Y0 Y1 X2 Y2 X3 X4 Y3 Y4 W a b)
  obtain ⟨v2, hv2⟩ : ∃ t, laV 2 n K A N F tk = t := ⟨_, rfl⟩
  rw [hE, hD, hv2] at HG1 HG2
  have HT2 := hid (fun X0 X1 X2 X3 X4 Y0 Y1 Y2 Y3 Y4 W a b => told14_res E D D v2 X0 X1 Y0 Y1 X2 Y2 X3 X4 Y3 Y4 W a b)
  obtain ⟨s, hs⟩ : ∃ t, seV tk = t := ⟨_, rfl⟩
  obtain ⟨z, hz⟩ : ∃ t, seE2 tk = t := ⟨_, rfl⟩
  rw [hs, hz] at HS1 HS2
  have hbits := f64bits
  have hss : ((s : Int) != (s : Int)) = false := by simp
  have hzz : (z != z) = false := by simp
  clear h hn hE hD hv0 hv1 hv2 hs hz _ht
  go_enter Try.func3, Try.ntmps3
  go_wp2_with fail
  refine (HS1.out _).mono ?_
  rintro e w1 ⟨rfl, hw⟩
  rw [hw]
  clear hw w1
  go_wp2_with fail
  refine (HS2.out _).mono ?_
  rintro e w1 ⟨rfl, hw⟩
  rw [hw]
  clear hw w1
  go_wp2_with fail
  refine (HAW.out _).mono ?_
  rintro e a0 ⟨rfl, hb⟩
  have HB0 := hid hb
  clear hb
  go_wp2_with fail
  refine (HM.out _ HB0.out).mono ?_
  rintro e a1 ⟨⟨ta, tc, rfl, hp⟩, hb⟩
  have HB1 := hid (HB0.out.trans (hb.mono HB0.out.size))
  have HP1 := hid hp
  clear hp hb
  go_wp2_with fail
  refine (HF1.out ta tc _ HP1.out).mono ?_
  rintro e a2 ⟨⟨X0, X1, X2, X3, X4, rfl, hres⟩, hb⟩
  have HB2 := hid (HB1.out.trans (hb.mono HB1.out.size))
  have hal : Below a2.heap.size a2 (a2.alloc (MBox X0 X1 X2 X3 X4)) := (Below.refl _ _).alloc (Nat.le_refl _) _
  have HX3 := hid (hres.below hal)
  have HA3 : Hid ((a2.alloc (MBox X0 X1 X2 X3 X4)).heap[a2.heap.size]? = some (MBox X0 X1 X2 X3 X4)) := nblkM _ _
  have HB3 := hid (HB2.out.trans (hal.mono HB2.out.size))
  have HSA : Hid (w.heap.size ≤ a2.heap.size) := HB2.out.size
  obtain ⟨a3, ha3⟩ : ∃ V, Hid (a2.alloc (MBox X0 X1 X2 X3 X4) = V) := ⟨_, rfl⟩
  rw [ha3.out] at HX3 HA3 HB3
  have ha3' := ha3.out
  unfold MBox at ha3'
  obtain ⟨ba, hba⟩ : ∃ t, Hid (a2.heap.size = t) := ⟨_, rfl⟩
  rw [hba.out] at HA3 HSA
  have hba' := hba.out
  clear hres hb hal
  go_wp2_with fail
  refine (HM.out _ HB3.out).mono ?_
  rintro e a4 ⟨⟨ta4, tc4, rfl, hp⟩, hb⟩
  have HB4 := hid (HB3.out.trans (hb.mono HB3.out.size))
  have HX4 := hid (HX3.out.below hb)
  have HA4 := hid (blkM HA3.out hb)
  have HP4 := hid hp
  clear hp hb
  go_wp2_with fail
  refine (HF2.out ta4 tc4 _ HP4.out).mono ?_
  rintro e a5 ⟨⟨Y0, Y1, Y2, Y3, Y4, rfl, hres⟩, hb⟩
  have HB5 := hid (HB4.out.trans (hb.mono HB4.out.size))
  have hal : Below a5.heap.size a5 (a5.alloc (MBox Y0 Y1 Y2 Y3 Y4)) := (Below.refl _ _).alloc (Nat.le_refl _) _
  have HX6 := hid ((HX4.out.below hb).below hal)
  have HY6 := hid (hres.below hal)
  have HA6 := hid (blkM (blkM HA4.out hb) hal)
  have HC6 : Hid ((a5.alloc (MBox Y0 Y1 Y2 Y3 Y4)).heap[a5.heap.size]? = some (MBox Y0 Y1 Y2 Y3 Y4)) := nblkM _ _
  have HB6 := hid (HB5.out.trans (hal.mono HB5.out.size))
  have HNE : Hid (ba ≠ a5.heap.size ∧ w.heap.size ≤ a5.heap.size) := by
    have q1 := (Array.getElem?_eq_some_iff.1 (blkM HA4.out hb)).1
    have q2 := HB5.out.size
    show _ ∧ _
    omega
  obtain ⟨a6, ha6⟩ : ∃ V, Hid (a5.alloc (MBox Y0 Y1 Y2 Y3 Y4) = V) := ⟨_, rfl⟩
  rw [ha6.out] at HX6 HY6 HA6 HC6 HB6
  have ha6' := ha6.out
  unfold MBox at ha6'
  obtain ⟨bc, hbc⟩ : ∃ t, Hid (a5.heap.size = t) := ⟨_, rfl⟩
  rw [hbc.out] at HC6 HNE
  have hbc' := hbc.out
  obtain ⟨x0, x1, x2⟩ := mcells_of HA6.out
  obtain ⟨y0, y1, y2⟩ := mcells_of HC6.out
  clear hres hb hal
  go_wp2_with fail
  refine (HT0.out _ _ _ _ _ _ _ _ _ _ _ HX6.out HY6.out).mono ?_
  rintro e b0 ⟨rfl, hb⟩
  have HB0 := hid (HB6.out.trans (hb.mono HB6.out.size))
  have HA0 := hid (blkM HA6.out hb)
  have HC0 := hid (blkM HC6.out hb)
  clear hb x0 x1 x2 y0 y1 y2
  go_wp2_with fail
  refine (HM.out _ HB0.out).mono ?_
  rintro e b1 ⟨⟨tab1, tcb1, rfl, hp⟩, hb⟩
  have HB1 := hid (HB0.out.trans (hb.mono HB0.out.size))
  have HA1 := hid (blkM HA0.out hb)
  have HC1 := hid (blkM HC0.out hb)
  have HP1 := hid hp
  clear hp hb
  go_wp2_with fail
  refine (HQ1.out tab1 tcb1 _ HP1.out).mono ?_
  rintro e b2 ⟨⟨X0, X1, X2, X3, X4, rfl, hres⟩, hb⟩
  have HB2 := hid (HB1.out.trans (hb.mono HB1.out.size))
  have HA2 := hid (blkM HA1.out hb)
  have HC2 := hid (blkM HC1.out hb)
  have HB3 : Hid (Below w.heap.size w (StoM b2 ba X0 X1 X2 X3 X4)) := StoM.below HB2.out HSA.out
  have HA3 : Hid ((StoM b2 ba X0 X1 X2 X3 X4).heap[ba]? = some (MBox X0 X1 X2 X3 X4)) := mset HA2.out
  have HC3 := hid ((StoM.keep (W := b2) (r := X0) (c := X1) (sa := X2) (n := X3) (cap := X4) (Ne.symm HNE.out.1)).trans HC2.out)
  have HX3 := hid (ResM.sto (r1 := X0) (c1 := X1) (s1 := X2) (n1 := X3) (k1 := X4) hres HA2.out)
  obtain ⟨z0, z1, z2⟩ := mcells_of HA2.out
  have fz := frzM HA2.out
  obtain ⟨b3, hb3⟩ : ∃ V, Hid (StoM b2 ba X0 X1 X2 X3 X4 = V) := ⟨_, rfl⟩
  rw [hb3.out] at HB3 HA3 HC3 HX3
  have hb3' := hb3.out
  unfold StoM at hb3'
  clear hres hb
  go_wp2_with fail
  clear z0 z1 z2 fz
  refine (HM.out _ HB3.out).mono ?_
  rintro e b4 ⟨⟨tab4, tcb4, rfl, hp⟩, hb⟩
  have HB4 := hid (HB3.out.trans (hb.mono HB3.out.size))
  have HX4 := hid (HX3.out.below hb)
  have HA4 := hid (blkM HA3.out hb)
  have HC4 := hid (blkM HC3.out hb)
  have HP4 := hid hp
  clear hp hb
  go_wp2_with fail
  refine (HQ2.out tab4 tcb4 _ HP4.out).mono ?_
  rintro e b5 ⟨⟨Y0, Y1, Y2, Y3, Y4, rfl, hres⟩, hb⟩
  have HB5 := hid (HB4.out.trans (hb.mono HB4.out.size))
  have HX5 := hid (HX4.out.below hb)
  have HA5 := hid (blkM HA4.out hb)
  have HC5 := hid (blkM HC4.out hb)
  have HB6 : Hid (Below w.heap.size w (StoM b5 bc Y0 Y1 Y2 Y3 Y4)) := StoM.below HB5.out HNE.out.2
  have HC6 : Hid ((StoM b5 bc Y0 Y1 Y2 Y3 Y4).heap[bc]? = some (MBox Y0 Y1 Y2 Y3 Y4)) := mset HC5.out
  have HA6 := hid ((StoM.keep (W := b5) (r := Y0) (c := Y1) (sa := Y2) (n := Y3) (cap := Y4) HNE.out.1).trans HA5.out)
  have HY6 := hid (ResM.sto (r1 := Y0) (c1 := Y1) (s1 := Y2) (n1 := Y3) (k1 := Y4) hres HC5.out)
  have HX6 := hid (ResM.sto (r1 := Y0) (c1 := Y1) (s1 := Y2) (n1 := Y3) (k1 := Y4) HX5.out HC5.out)
  obtain ⟨z0, z1, z2⟩ := mcells_of HC5.out
  have fz := frzM HC5.out
  obtain ⟨b6, hb6⟩ : ∃ V, Hid (StoM b5 bc Y0 Y1 Y2 Y3 Y4 = V) := ⟨_, rfl⟩
  rw [hb6.out] at HB6 HA6 HC6 HX6 HY6
  have hb6' := hb6.out
  unfold StoM at hb6'
  obtain ⟨x0, x1, x2⟩ := mcells_of HA6.out
  obtain ⟨y0, y1, y2⟩ := mcells_of HC6.out
  clear hres hb
  go_wp2_with fail
  clear z0 z1 z2 fz
  refine (HT1.out _ _ _ _ _ _ _ _ _ _ _ HX6.out HY6.out).mono ?_
  rintro e b7 ⟨rfl, hb⟩
  have HB0 := hid (HB6.out.trans (hb.mono HB6.out.size))
  have HA0 := hid (blkM HA6.out hb)
  have HC0 := hid (blkM HC6.out hb)
  clear hb x0 x1 x2 y0 y1 y2
  go_wp2_with fail
  refine (HM.out _ HB0.out).mono ?_
  rintro e c1 ⟨⟨tac1, tcc1, rfl, hp⟩, hb⟩
  have HB1 := hid (HB0.out.trans (hb.mono HB0.out.size))
  have HA1 := hid (blkM HA0.out hb)
  have HC1 := hid (blkM HC0.out hb)
  have HP1 := hid hp
  clear hp hb
  go_wp2_with fail
  refine (HG1.out tac1 tcc1 _ HP1.out).mono ?_
  rintro e c2 ⟨⟨X0, X1, X2, X3, X4, rfl, hres⟩, hb⟩
  have HB2 := hid (HB1.out.trans (hb.mono HB1.out.size))
  have HA2 := hid (blkM HA1.out hb)
  have HC2 := hid (blkM HC1.out hb)
  have HB3 : Hid (Below w.heap.size w (StoM c2 ba X0 X1 X2 X3 X4)) := StoM.below HB2.out HSA.out
  have HA3 : Hid ((StoM c2 ba X0 X1 X2 X3 X4).heap[ba]? = some (MBox X0 X1 X2 X3 X4)) := mset HA2.out
  have HC3 := hid ((StoM.keep (W := c2) (r := X0) (c := X1) (sa := X2) (n := X3) (cap := X4) (Ne.symm HNE.out.1)).trans HC2.out)
  have HX3 := hid (ResM.sto (r1 := X0) (c1 := X1) (s1 := X2) (n1 := X3) (k1 := X4) hres HA2.out)
  obtain ⟨z0, z1, z2⟩ := mcells_of HA2.out
  have fz := frzM HA2.out
  obtain ⟨c3, hc3⟩ : ∃ V, Hid (StoM c2 ba X0 X1 X2 X3 X4 = V) := ⟨_, rfl⟩
  rw [hc3.out] at HB3 HA3 HC3 HX3
  have hc3' := hc3.out
  unfold StoM at hc3'
  clear hres hb
  go_wp2_with fail
  clear z0 z1 z2 fz
  refine (HM.out _ HB3.out).mono ?_
  rintro e c4 ⟨⟨tac4, tcc4, rfl, hp⟩, hb⟩
  have HB4 := hid (HB3.out.trans (hb.mono HB3.out.size))
  have HX4 := hid (HX3.out.below hb)
  have HA4 := hid (blkM HA3.out hb)
  have HC4 := hid (blkM HC3.out hb)
  have HP4 := hid hp
  clear hp hb
  go_wp2_with fail
  refine (HG2.out tac4 tcc4 _ HP4.out).mono ?_
  rintro e c5 ⟨⟨Y0, Y1, Y2, Y3, Y4, rfl, hres⟩, hb⟩
  have HB5 := hid (HB4.out.trans (hb.mono HB4.out.size))
  have HX5 := hid (HX4.out.below hb)
  have HA5 := hid (blkM HA4.out hb)
  have HC5 := hid (blkM HC4.out hb)
  have HB6 : Hid (Below w.heap.size w (StoM c5 bc Y0 Y1 Y2 Y3 Y4)) := StoM.below HB5.out HNE.out.2
  have HC6 : Hid ((StoM c5 bc Y0 Y1 Y2 Y3 Y4).heap[bc]? = some (MBox Y0 Y1 Y2 Y3 Y4)) := mset HC5.out
  have HA6 := hid ((StoM.keep (W := c5) (r := Y0) (c := Y1) (sa := Y2) (n := Y3) (cap := Y4) HNE.out.1).trans HA5.out)
  have HY6 := hid (ResM.sto (r1 := Y0) (c1 := Y1) (s1 := Y2) (n1 := Y3) (k1 := Y4) hres HC5.out)
  have HX6 := hid (ResM.sto (r1 := Y0) (c1 := Y1) (s1 := Y2) (n1 := Y3) (k1 := Y4) HX5.out HC5.out)
  obtain ⟨z0, z1, z2⟩ := mcells_of HC5.out
  have fz := frzM HC5.out
  obtain ⟨c6, hc6⟩ : ∃ V, Hid (StoM c5 bc Y0 Y1 Y2 Y3 Y4 = V) := ⟨_, rfl⟩
  rw [hc6.out] at HB6 HA6 HC6 HX6 HY6
  have hc6' := hc6.out
  unfold StoM at hc6'
  obtain ⟨x0, x1, x2⟩ := mcells_of HA6.out
  obtain ⟨y0, y1, y2⟩ := mcells_of HC6.out
  clear hres hb
  go_wp2_with fail
  clear z0 z1 z2 fz
  refine (HT2.out _ _ _ _ _ _ _ _ _ _ _ HX6.out HY6.out).mono ?_
  rintro e c7 ⟨rfl, hb⟩
  have HB0 := hid (HB6.out.trans (hb.mono HB6.out.size))
  have HA0 := hid (blkM HA6.out hb)
  have HC0 := hid (blkM HC6.out hb)
  clear hb x0 x1 x2 y0 y1 y2
  go_wp2_with fail
  go_ret
  exact ⟨rfl, HB0.out⟩
end Go.Proofs.Ytcaelnpddipmhaa
