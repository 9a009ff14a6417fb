
/- The document's blocks of a part. -/
import Derived.Test.YtggiklghcnojiaaP45
import Derived.Test.YtggiklghcnojiaaP46
import Derived.Test.YtggiklghcnojiaaP47
namespace Go.Proofs.Ytggiklghcnojiaa
open Go.RowKit Go.IntWalk

end Go.Proofs.Ytggiklghcnojiaa

namespace Go.Proofs.Ytggiklghcnojiaa
open Go.RowKit Go.IntWalk

/-- The reckoning of one number's place. -/
theorem one_places {f z D r c : Nat} (hz : 1 ≤ z ∧ z ≤ 3) (hfz : f + z ≤ D) (hD : D ≤ 12) (hr : r < z) (hc : c < z) : ∃ fr fc rz qq pp Q zz : Nat, f + r = fr ∧ f + c = fc ∧ r * z = rz ∧ r * z + c = qq ∧ (f + r) * D + (f + c) = pp ∧ D * D = Q ∧ z * z = zz ∧ fr < 12 ∧ fc < 12 ∧ rz ≤ 6 ∧ qq < zz ∧ zz ≤ 9 ∧ pp < Q ∧ Q ≤ 144 ∧ fr * D + fc = pp ∧ (f : Int) + (r : Int) = (fr : Int) ∧ (f : Int) + (c : Int) = (fc : Int) ∧ (r : Int) * (z : Int) = (rz : Int) ∧ (rz : Int) + (c : Int) = (qq : Int) := by
  refine ⟨_, _, _, _, _, _, _, rfl, rfl, rfl, rfl, rfl, rfl, rfl, ?_⟩
  have a1 : r * z ≤ 2 * 3 := Nat.mul_le_mul (by omega) hz.2
  have a2 : z * z ≤ 3 * 3 := Nat.mul_le_mul hz.2 hz.2
  have a3 : D * D ≤ 12 * 12 := Nat.mul_le_mul hD hD
  exact ⟨by omega, by omega, by omega, place_lt hr hc, by omega, place_lt (by omega) (by omega), by omega, rfl, by simp, by simp, by simp, by simp⟩
theorem at_step {u z : Int} {at0 f a zn : Nat} (h0 : u = (at0 : Int)) (hz : z = (zn : Int)) (hf : u + (a : Int) * z = (f : Int)) (h1 : f ≤ 12) (h2 : zn ≤ 3) : (f : Int) + (zn : Int) = ((f + zn : Nat) : Int) ∧ IntKind.i64.wrap (((f + zn : Nat) : Int)) = ((f + zn : Nat) : Int) ∧ u + ((a + 1 : Nat) : Int) * z = ((f + zn : Nat) : Int) := by
  refine ⟨by simp, wrapM _ (by omega), ?_⟩
  rw [Int.natCast_add, Int.add_mul, Int.natCast_add, ← hz]
  omega
theorem ax_snoc (A : Nat → Int) (i a : Nat) : axP A i ++ (List.range (a + 1)).map (fun j => (i, j)) = (axP A i ++ (List.range a).map (fun j => (i, j))) ++ [(i, a)] := by
  rw [List.range_succ, List.map_append, List.append_assoc]
  rfl
end Go.Proofs.Ytggiklghcnojiaa

namespace Go.Proofs.Ytggiklghcnojiaa
open Go.RowKit Go.IntWalk

set_option maxRecDepth 4000 in
set_option maxHeartbeats 1000000 in
theorem F_mo (sa : Option Addr) (n cap : Nat) (K A : Nat → Int) (N F : Nat → Nat) (tk : Int) (w : World) (h : PtF w sa n K A N F) (hn : n ≤ 4398046511104) : Calls Try.prog 8 #[.agg #[.slice sa n cap], .int .i64 tk] w fun e w' => (∃ X0 X1 X2 X3 X4, e = .returned (.tuple #[.agg #[.int .i64 X0, .int .i64 X1, .slice X2 X3 X4], .int .i64 (laE (dmE n K A N F) tk)]) ∧ ResM (laE (dmE n K A N F) tk) (dmV n K A N F).toNat (dmV n K A N F).toNat (laV 0 n K A N F tk) w' X0 X1 X2 X3 X4) ∧ Below w.heap.size w w' := by
  obtain ⟨t1, t2, t3, t4⟩ := two_b w (MoBox sa n cap) (MBox 0 0 none 0 0)
  have HLA : Hid (∀ W, Below w.heap.size w W → Calls Try.prog 17 #[.agg #[.slice sa n cap], .int .i64 tk, .func (.func 18) #[] #[]] W fun e w' => (∃ X0 X1 X2 X3 X4, e = .returned (.tuple #[.agg #[.int .i64 X0, .int .i64 X1, .slice X2 X3 X4], .int .i64 (laE (dmE n K A N F) tk)]) ∧ ResM (laE (dmE n K A N F) tk) (dmV n K A N F).toNat (dmV n K A N F).toNat (laV 0 n K A N F tk) w' X0 X1 X2 X3 X4) ∧ Below W.heap.size W w') := fun W hW => laid_any 0 sa n cap K A N F tk W (h.below hW) hn
  obtain ⟨E, hE⟩ : ∃ t, laE (dmE n K A N F) tk = t := ⟨_, rfl⟩
  obtain ⟨D, hD⟩ : ∃ t, (dmV n K A N F).toNat = t := ⟨_, rfl⟩
  obtain ⟨v, hv⟩ : ∃ t, laV 0 n K A N F tk = t := ⟨_, rfl⟩
  rw [hE, hD, hv] at HLA
  rw [hE, hD, hv]
  obtain ⟨V, hV⟩ : ∃ V, Hid ((w.alloc (MoBox sa n cap)).alloc (MBox 0 0 none 0 0) = V) := ⟨_, rfl⟩
  rw [hV.out] at t1 t2 t3 t4
  have hV' := hV.out
  have HB := hid t3
  have HR := hid t2
  have c0 := mocell_of t1
  unfold MoBox MBox at hV'
  clear t1 t2 t3 t4 h hn hE hD hv
  go_enter Try.func8, Try.ntmps8
  go_wp2_with fail
  refine (HLA.out _ HB.out).mono ?_
  rintro e w1 ⟨⟨X0, X1, X2, X3, X4, rfl, hres⟩, hb⟩
  have HB1 := hid (HB.out.trans (hb.mono HB.out.size))
  have HR1 := hid (blkM HR.out hb)
  have HS1 := hid (ResM.sto (r1 := X0) (c1 := X1) (s1 := X2) (n1 := X3) (k1 := X4) hres HR1.out)
  obtain ⟨r0, r1, r2⟩ := mcells_of HR1.out
  have fz := frzM HR1.out
  clear hb hres c0
  go_wp2_with fail
  exact bodyPost_ret (v := .tuple #[.agg #[.int .i64 X0, .int .i64 X1, .slice X2 X3 X4], .int .i64 E]) (by simp [results, Try.results8, go_sem, r0, r1, r2]) rfl ⟨⟨X0, X1, X2, X3, X4, rfl, HS1.out⟩, StoM.below HB1.out (by omega)⟩
set_option maxRecDepth 4000 in
set_option maxHeartbeats 1000000 in
theorem Q_mo (sa : Option Addr) (n cap : Nat) (K A : Nat → Int) (N F : Nat → Nat) (tk : Int) (w : World) (h : PtF w sa n K A N F) (hn : n ≤ 4398046511104) : Calls Try.prog 9 #[.agg #[.slice sa n cap], .int .i64 tk] w fun e w' => (∃ X0 X1 X2 X3 X4, e = .returned (.tuple #[.agg #[.int .i64 X0, .int .i64 X1, .slice X2 X3 X4], .int .i64 (laE (dmE n K A N F) tk)]) ∧ ResM (laE (dmE n K A N F) tk) (dmV n K A N F).toNat (dmV n K A N F).toNat (laV 1 n K A N F tk) w' X0 X1 X2 X3 X4) ∧ Below w.heap.size w w' := by
  obtain ⟨t1, t2, t3, t4⟩ := two_b w (MoBox sa n cap) (MBox 0 0 none 0 0)
  have HLA : Hid (∀ W, Below w.heap.size w W → Calls Try.prog 17 #[.agg #[.slice sa n cap], .int .i64 tk, .func (.func 19) #[] #[]] W fun e w' => (∃ X0 X1 X2 X3 X4, e = .returned (.tuple #[.agg #[.int .i64 X0, .int .i64 X1, .slice X2 X3 X4], .int .i64 (laE (dmE n K A N F) tk)]) ∧ ResM (laE (dmE n K A N F) tk) (dmV n K A N F).toNat (dmV n K A N F).toNat (laV 1 n K A N F tk) w' X0 X1 X2 X3 X4) ∧ Below W.heap.size W w') := fun W hW => laid_any 1 sa n cap K A N F tk W (h.below hW) hn
  obtain ⟨E, hE⟩ : ∃ t, laE (dmE n K A N F) tk = t := ⟨_, rfl⟩
  obtain ⟨D, hD⟩ : ∃ t, (dmV n K A N F).toNat = t := ⟨_, rfl⟩
  obtain ⟨v, hv⟩ : ∃ t, laV 1 n K A N F tk = t := ⟨_, rfl⟩
  rw [hE, hD, hv] at HLA
  rw [hE, hD, hv]
  obtain ⟨V, hV⟩ : ∃ V, Hid ((w.alloc (MoBox sa n cap)).alloc (MBox 0 0 none 0 0) = V) := ⟨_, rfl⟩
  rw [hV.out] at t1 t2 t3 t4
  have hV' := hV.out
  have HB := hid t3
  have HR := hid t2
  have c0 := mocell_of t1
  unfold MoBox MBox at hV'
  clear t1 t2 t3 t4 h hn hE hD hv
  go_enter Try.func9, Try.ntmps9
  go_wp2_with fail
  refine (HLA.out _ HB.out).mono ?_
  rintro e w1 ⟨⟨X0, X1, X2, X3, X4, rfl, hres⟩, hb⟩
  have HB1 := hid (HB.out.trans (hb.mono HB.out.size))
  have HR1 := hid (blkM HR.out hb)
  have HS1 := hid (ResM.sto (r1 := X0) (c1 := X1) (s1 := X2) (n1 := X3) (k1 := X4) hres HR1.out)
  obtain ⟨r0, r1, r2⟩ := mcells_of HR1.out
  have fz := frzM HR1.out
  clear hb hres c0
  go_wp2_with fail
  exact bodyPost_ret (v := .tuple #[.agg #[.int .i64 X0, .int .i64 X1, .slice X2 X3 X4], .int .i64 E]) (by simp [results, Try.results9, go_sem, r0, r1, r2]) rfl ⟨⟨X0, X1, X2, X3, X4, rfl, HS1.out⟩, StoM.below HB1.out (by omega)⟩
set_option maxRecDepth 4000 in
set_option maxHeartbeats 1000000 in
theorem G_mo (sa : Option Addr) (n cap : Nat) (K A : Nat → Int) (N F : Nat → Nat) (tk : Int) (w : World) (h : PtF w sa n K A N F) (hn : n ≤ 4398046511104) : Calls Try.prog 10 #[.agg #[.slice sa n cap], .int .i64 tk] w fun e w' => (∃ X0 X1 X2 X3 X4, e = .returned (.tuple #[.agg #[.int .i64 X0, .int .i64 X1, .slice X2 X3 X4], .int .i64 (laE (dmE n K A N F) tk)]) ∧ ResM (laE (dmE n K A N F) tk) (dmV n K A N F).toNat (dmV n K A N F).toNat (laV 2 n K A N F tk) w' X0 X1 X2 X3 X4) ∧ Below w.heap.size w w' := by
  obtain ⟨t1, t2, t3, t4⟩ := two_b w (MoBox sa n cap) (MBox 0 0 none 0 0)
  have HLA : Hid (∀ W, Below w.heap.size w W → Calls Try.prog 17 #[.agg #[.slice sa n cap], .int .i64 tk, .func (.func 20) #[] #[]] W fun e w' => (∃ X0 X1 X2 X3 X4, e = .returned (.tuple #[.agg #[.int .i64 X0, .int .i64 X1, .slice X2 X3 X4], .int .i64 (laE (dmE n K A N F) tk)]) ∧ ResM (laE (dmE n K A N F) tk) (dmV n K A N F).toNat (dmV n K A N F).toNat (laV 2 n K A N F tk) w' X0 X1 X2 X3 X4) ∧ Below W.heap.size W w') := fun W hW => laid_any 2 sa n cap K A N F tk W (h.below hW) hn
  obtain ⟨E, hE⟩ : ∃ t, laE (dmE n K A N F) tk = t := ⟨_, rfl⟩
  obtain ⟨D, hD⟩ : ∃ t, (dmV n K A N F).toNat = t := ⟨_, rfl⟩
  obtain ⟨v, hv⟩ : ∃ t, laV 2 n K A N F tk = t := ⟨_, rfl⟩
  rw [hE, hD, hv] at HLA
  rw [hE, hD, hv]
  obtain ⟨V, hV⟩ : ∃ V, Hid ((w.alloc (MoBox sa n cap)).alloc (MBox 0 0 none 0 0) = V) := ⟨_, rfl⟩
  rw [hV.out] at t1 t2 t3 t4
  have hV' := hV.out
  have HB := hid t3
  have HR := hid t2
  have c0 := mocell_of t1
  unfold MoBox MBox at hV'
  clear t1 t2 t3 t4 h hn hE hD hv
  go_enter Try.func10, Try.ntmps10
  go_wp2_with fail
  refine (HLA.out _ HB.out).mono ?_
  rintro e w1 ⟨⟨X0, X1, X2, X3, X4, rfl, hres⟩, hb⟩
  have HB1 := hid (HB.out.trans (hb.mono HB.out.size))
  have HR1 := hid (blkM HR.out hb)
  have HS1 := hid (ResM.sto (r1 := X0) (c1 := X1) (s1 := X2) (n1 := X3) (k1 := X4) hres HR1.out)
  obtain ⟨r0, r1, r2⟩ := mcells_of HR1.out
  have fz := frzM HR1.out
  clear hb hres c0
  go_wp2_with fail
  exact bodyPost_ret (v := .tuple #[.agg #[.int .i64 X0, .int .i64 X1, .slice X2 X3 X4], .int .i64 E]) (by simp [results, Try.results10, go_sem, r0, r1, r2]) rfl ⟨⟨X0, X1, X2, X3, X4, rfl, HS1.out⟩, StoM.below HB1.out (by omega)⟩
end Go.Proofs.Ytggiklghcnojiaa

namespace Go.Proofs.Ytggiklghcnojiaa
open Go.RowKit Go.IntWalk

theorem fin_canon {x : Nat} (h : (expOf x == 2047) = false) : canonOf x = x := by
  unfold canonOf
  by_cases c : 9218868437227405312 < x % 9223372036854775808
  · exfalso
    unfold expOf canonOf at h
    rw [if_pos c] at h
    exact absurd h (by decide)
  · rw [if_neg c]
theorem res_open {D Q : Nat} {v : Nat → Nat → Nat} {W : World} {X0 X1 : Int} {X2 : Option Addr} {X3 X4 : Nat} (h : ResM 0 D D v W X0 X1 X2 X3 X4) (hQ : D * D = Q) : X0 = D ∧ X1 = D ∧ X3 = Q ∧ X4 = Q ∧ ∃ (g : Nat) (o : Nat → Nat), X2 = some ⟨g, 0, none⟩ ∧ FnM W (some ⟨g, 0, none⟩) Q Q o ∧ ∀ i j, i < D → j < D → o (i * D + j) = v i j := by
  rcases h with ⟨_, h1, h2, h3, h4, g, o, h5, h6, h7, h8⟩ | ⟨h0, _⟩
  · subst h5
    rw [hQ] at h3 h4 h8
    subst h3 h4
    refine ⟨h1, h2, rfl, rfl, g, o, rfl, h6, fun i j hi hj => ?_⟩
    rw [← h7 i j hi hj]
    exact (fin_canon ((finF_iff _ _).1 h8 _ (by rw [← hQ]; exact place_lt hi hj))).symm
  · exact absurd rfl h0
theorem F0_go (sa : Option Addr) (n cap D Q : Nat) (K A : Nat → Int) (N F : Nat → Nat) (w : World) (h : PtF w sa n K A N F) (hn : n ≤ 4398046511104) (hE : dmE n K A N F = 0) (hD : dmV n K A N F = (D : Int)) (hQ : D * D = Q) : Calls Try.prog 8 #[.agg #[.slice sa n cap], .int .i64 0] w fun e w' => (∃ (g : Nat) (o : Nat → Nat), e = .returned (.tuple #[.agg #[.int .i64 D, .int .i64 D, .slice (some ⟨g, 0, none⟩) Q Q], .int .i64 0]) ∧ FnM w' (some ⟨g, 0, none⟩) Q Q o ∧ ∀ k, k < Q → o k = if k % (D + 1) = 0 then 4607182418800017408 else 0) ∧ Below w.heap.size w w' := by
  refine (F_mo sa n cap K A N F 0 w h hn).mono ?_
  rintro e w' ⟨⟨X0, X1, X2, X3, X4, rfl, hres⟩, hb⟩
  rw [hE, laE_ok (by decide), hD, Int.toNat_natCast] at hres
  obtain ⟨rfl, rfl, rfl, rfl, g, o, rfl, hf, hv⟩ := res_open hres hQ
  refine ⟨⟨g, o, by rw [hE, laE_ok (by decide)], hf, ?_⟩, hb⟩
  intro k hk
  rw [← hQ] at hk
  obtain ⟨q1, q2, q3⟩ := split_k hk
  have := hv _ _ q1 q2
  rw [q3, F_zero h.1 hE _ _ (by rw [hD, Int.toNat_natCast]; exact q1)] at this
  rw [this]
  have d := diag q1 q2
  rw [q3] at d
  by_cases c : k / D = k % D
  · rw [if_pos c, if_pos (d.2 c)]
  · rw [if_neg c, if_neg (fun x => c (d.1 x))]
theorem Q0_go (sa : Option Addr) (n cap D Q : Nat) (K A : Nat → Int) (N F : Nat → Nat) (w : World) (h : PtF w sa n K A N F) (hn : n ≤ 4398046511104) (hE : dmE n K A N F = 0) (hD : dmV n K A N F = (D : Int)) (hQ : D * D = Q) : Calls Try.prog 9 #[.agg #[.slice sa n cap], .int .i64 0] w fun e w' => (∃ (g : Nat) (o : Nat → Nat), e = .returned (.tuple #[.agg #[.int .i64 D, .int .i64 D, .slice (some ⟨g, 0, none⟩) Q Q], .int .i64 0]) ∧ FnM w' (some ⟨g, 0, none⟩) Q Q o ∧ ∀ k, k < Q → Zr (o k)) ∧ Below w.heap.size w w' := by
  refine (Q_mo sa n cap K A N F 0 w h hn).mono ?_
  rintro e w' ⟨⟨X0, X1, X2, X3, X4, rfl, hres⟩, hb⟩
  rw [hE, laE_ok (by decide), hD, Int.toNat_natCast] at hres
  obtain ⟨rfl, rfl, rfl, rfl, g, o, rfl, hf, hv⟩ := res_open hres hQ
  refine ⟨⟨g, o, by rw [hE, laE_ok (by decide)], hf, ?_⟩, hb⟩
  intro k hk
  rw [← hQ] at hk
  obtain ⟨q1, q2, q3⟩ := split_k hk
  have := hv _ _ q1 q2
  rw [q3] at this
  rw [this]
  exact (QG_zero h.1 hE _ _).1
theorem G0_go (sa : Option Addr) (n cap D Q : Nat) (K A : Nat → Int) (N F : Nat → Nat) (w : World) (h : PtF w sa n K A N F) (hn : n ≤ 4398046511104) (hE : dmE n K A N F = 0) (hD : dmV n K A N F = (D : Int)) (hQ : D * D = Q) : Calls Try.prog 10 #[.agg #[.slice sa n cap], .int .i64 0] w fun e w' => (∃ (g : Nat) (o : Nat → Nat), e = .returned (.tuple #[.agg #[.int .i64 D, .int .i64 D, .slice (some ⟨g, 0, none⟩) Q Q], .int .i64 0]) ∧ FnM w' (some ⟨g, 0, none⟩) Q Q o ∧ ∀ k, k < Q → Zr (o k)) ∧ Below w.heap.size w w' := by
  refine (G_mo sa n cap K A N F 0 w h hn).mono ?_
  rintro e w' ⟨⟨X0, X1, X2, X3, X4, rfl, hres⟩, hb⟩
  rw [hE, laE_ok (by decide), hD, Int.toNat_natCast] at hres
  obtain ⟨rfl, rfl, rfl, rfl, g, o, rfl, hf, hv⟩ := res_open hres hQ
  refine ⟨⟨g, o, by rw [hE, laE_ok (by decide)], hf, ?_⟩, hb⟩
  intro k hk
  rw [← hQ] at hk
  obtain ⟨q1, q2, q3⟩ := split_k hk
  have := hv _ _ q1 q2
  rw [q3] at this
  rw [this]
  exact (QG_zero h.1 hE _ _).2
theorem Fs_go (sa : Option Addr) (n cap D Q : Nat) (K A : Nat → Int) (N F : Nat → Nat) (s : Nat) (tk : Int) (hs4 : s < 1024) (hs : tk = (s : Int) * 1000000) (h4 : ∀ i, i < n → K i ≠ 4) (w : World) (h : PtF w sa n K A N F) (hn : n ≤ 4398046511104) (hE : dmE n K A N F = 0) (hD : dmV n K A N F = (D : Int)) (hQ : D * D = Q) : Calls Try.prog 8 #[.agg #[.slice sa n cap], .int .i64 tk] w fun e w' => (∃ (g : Nat) (o : Nat → Nat), e = .returned (.tuple #[.agg #[.int .i64 D, .int .i64 D, .slice (some ⟨g, 0, none⟩) Q Q], .int .i64 0]) ∧ FnM w' (some ⟨g, 0, none⟩) Q Q o ∧ ∀ i j, i < D → j < D → o (i * D + j) = vq (2 * mtV (fun q => blH (K q) s) K A (axP A n) i j)) ∧ Below w.heap.size w w' := by
  refine (F_mo sa n cap K A N F tk w h hn).mono ?_
  rintro e w' ⟨⟨X0, X1, X2, X3, X4, rfl, hres⟩, hb⟩
  rw [hE, laE_ok (by omega), hD, Int.toNat_natCast] at hres
  obtain ⟨rfl, rfl, rfl, rfl, g, o, rfl, hf, hv⟩ := res_open hres hQ
  refine ⟨⟨g, o, by rw [hE, laE_ok (by omega)], hf, ?_⟩, hb⟩
  intro i j hi hj
  rw [hv i j hi hj, hs]
  exact (F_whole h.1 hE h4 s hs4 i j).1
set_option maxHeartbeats 1000000 in
theorem good_yes (D Q g : Nat) (w : World) (hD : D ≤ 12) (hQ : D * D = Q) : Calls Try.prog 11 #[.agg #[.int .i64 D, .int .i64 D, .slice (some ⟨g, 0, none⟩) Q Q], .int .i64 D] w fun e w' => e = .returned (.bool true) ∧ Below w.heap.size w w' := by
  have HB : Hid (Below w.heap.size w (w.alloc (MBox D D (some ⟨g, 0, none⟩) Q Q)) ∧ (w.alloc (MBox D D (some ⟨g, 0, none⟩) Q Q)).heap[w.heap.size]? = some (MBox D D (some ⟨g, 0, none⟩) Q Q)) := ⟨(Below.refl _ _).alloc (Nat.le_refl _) _, nblkM _ _⟩
  have hQ2 : Q ≤ 144 := by have : D * D ≤ 12 * 12 := Nat.mul_le_mul hD hD; omega
  have e1 : (D : Int) * (D : Int) = (Q : Int) := by rw [← hQ]; simp
  have j1 := wrapM Q (by omega)
  have d1 : ((D : Int) == (D : Int)) = true := by simp
  have d2 : ((Q : Int) == (Q : Int)) = true := by simp
  obtain ⟨V, hV⟩ : ∃ V, Hid (w.alloc (MBox D D (some ⟨g, 0, none⟩) Q Q) = V) := ⟨_, rfl⟩
  rw [hV.out] at HB
  have hV' := hV.out
  unfold MBox at hV'
  obtain ⟨q0, q1, q2⟩ := mcells_of HB.out.2
  clear hD hQ hQ2
  go_enter Try.func11, Try.ntmps11
  go_wp2_with fail
  go_ret
  exact ⟨rfl, HB.out.1⟩
set_option maxHeartbeats 1000000 in
theorem at14_any (D Q g i j : Nat) (o : Nat → Nat) (w : World) (h : FnM w (some ⟨g, 0, none⟩) Q Q o) (hD : D ≤ 12) (hQ : D * D = Q) (hi : i < D) (hj : j < D) : Calls Try.prog 12 #[.agg #[.int .i64 D, .int .i64 D, .slice (some ⟨g, 0, none⟩) Q Q], .int .i64 i, .int .i64 j] w fun e w' => e = .returned (.float .f64 (o (i * D + j))) ∧ Below w.heap.size w w' := by
  have HB : Hid (Below w.heap.size w (w.alloc (MBox D D (some ⟨g, 0, none⟩) Q Q)) ∧ (w.alloc (MBox D D (some ⟨g, 0, none⟩) Q Q)).heap[w.heap.size]? = some (MBox D D (some ⟨g, 0, none⟩) Q Q)) := ⟨(Below.refl _ _).alloc (Nat.le_refl _) _, nblkM _ _⟩
  have hQ2 : Q ≤ 144 := by have : D * D ≤ 12 * 12 := Nat.mul_le_mul hD hD; omega
  have hp := place_lt hi hj
  rw [hQ] at hp
  have hfb := h.below HB.out.1
  have hcell : (w.alloc (MBox D D (some ⟨g, 0, none⟩) Q Q)).cell? ⟨g, i * D + j, none⟩ = some (.float .f64 (o (i * D + j))) := by
    rcases hfb with ⟨h0, _⟩ | ⟨b, off, h1, _, _, _, h5⟩
    · cases h0
    · cases h1
      have := (h5 _ hp).1
      rw [Nat.zero_add] at this
      exact this
  obtain ⟨P, hP⟩ : ∃ q, i * D = q := ⟨_, rfl⟩
  obtain ⟨q, hq⟩ : ∃ q, P + j = q := ⟨_, rfl⟩
  have e1 : (i : Int) * (D : Int) = (P : Int) := by rw [← hP]; simp
  have e2 : (P : Int) + (j : Int) = (q : Int) := by rw [← hq]; simp
  rw [hP, hq] at hp hcell
  rw [hP, hq]
  have j1 := wrapM P (by omega)
  have j2 := wrapM q (by omega)
  have k0 : (0 : Int) ≤ (q : Int) := by omega
  have k1 : (q : Int) < (Q : Int) := by omega
  obtain ⟨x, hx⟩ : ∃ y, o q = y := ⟨_, rfl⟩
  rw [hx] at hcell
  rw [hx]
  obtain ⟨V, hV⟩ : ∃ V, Hid (w.alloc (MBox D D (some ⟨g, 0, none⟩) Q Q) = V) := ⟨_, rfl⟩
  rw [hV.out] at HB hcell
  have hV' := hV.out
  unfold MBox at hV'
  obtain ⟨q0, q1, q2⟩ := mcells_of HB.out.2
  clear h hfb hD hQ hQ2 hi hj hP hq hx hp
  go_enter Try.func12, Try.ntmps12
  go_wp2_with fail
  go_ret
  exact ⟨rfl, HB.out.1⟩
end Go.Proofs.Ytggiklghcnojiaa
