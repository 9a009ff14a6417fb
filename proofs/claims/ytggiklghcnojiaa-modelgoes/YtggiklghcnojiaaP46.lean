
/- model: laid, of any motion. -/
import Derived.Test.YtggiklghcnojiaaP45
import Derived.Test.YtggiklghcnojiaaP39
import Derived.Laws.CopyOwn
namespace Go.Proofs.Ytggiklghcnojiaa
open Go.RowKit Go.IntWalk

def laE (E t : Int) : Int := if E ≠ 0 then E else if t < 0 ∨ 1125899906842624 < t then 1 else 0
def laV (u n : Nat) (K A : Nat → Int) (N F : Nat → Nat) (t : Int) (i j : Nat) : Nat := canonOf (mtV (fun i => bl u (K i) (N i) (F i) (secW t)) K A (axP A n) i j)
theorem laE_err {E t : Int} (h : E ≠ 0) : laE E t = E := by unfold laE; rw [if_pos h]
theorem laE_bad {t : Int} (h : t < 0 ∨ 1125899906842624 < t) : laE 0 t = 1 := by unfold laE; rw [if_neg (by decide), if_pos h]
theorem laE_ok {t : Int} (h : ¬ (t < 0 ∨ 1125899906842624 < t)) : laE 0 t = 0 := by unfold laE; rw [if_neg (by decide), if_neg h]
theorem nv_one : 2 ^ 1074 ≤ nv 4607182418800017408 := by decide +kernel
theorem sec_neg (t : Int) (h1 : -1125899906842624 ≤ t) (h2 : t < 0) : FloatKind.f64.format.order (secW t) 0 = some .lt := by
  obtain ⟨a1, a2, a3⟩ := ofInt_most t h1 (by omega)
  obtain ⟨b1, b2, b3, _⟩ := sec_is t h1 (by omega)
  have hw : twoW 1073 < 9218868437227405312 := by decide
  have e : floatOfInt .f64 t = signN (decide (t < 0)) (rndM t.natAbs 0) := (near_rnd _ _ _).1
  obtain ⟨r, hr⟩ : ∃ r, rndM t.natAbs 0 = r := ⟨_, rfl⟩
  have hr1 : 4607182418800017408 ≤ r := by
    have a := rnd_rise (m1 := 1) (m2 := t.natAbs) 0 (by decide) (by omega)
    have b : rndM 1 0 = 4607182418800017408 := by decide +kernel
    rw [b, hr] at a
    exact a
  have hr2 : r ≤ 9218868437227405312 := by rw [← hr]; exact (near_rnd false t.natAbs 0).2
  rw [hr, decide_eq_true h2] at e
  have e2 : floatOfInt .f64 t = 9223372036854775808 + r := by rw [e]; unfold signN; simp <;> omega
  have e3 : floatOfInt .f64 t % 9223372036854775808 = r := by rw [e2]; omega
  have hs : 9223372036854775808 ≤ floatOfInt .f64 t := by rw [e2]; omega
  obtain ⟨m, p, ex, hm, hc⟩ := read_fin2 (floatOfInt .f64 t) a1 (by omega)
  rw [e3] at hc
  have hp : 1022 ≤ p ∧ 4503599627370496 ≤ m := by omega
  have key : FloatKind.f64.format.div (floatOfInt .f64 t) 4696837146684686336 = some (signN true (rndM (2 * (m * 2 ^ (54 + (8589934592000000 : Nat).log2 - m.log2) / 8589934592000000) + (m * 2 ^ (54 + (8589934592000000 : Nat).log2 - m.log2) % 8589934592000000 != 0).toNat) ((p : Int) - 1074 - -((33 : Nat) : Int) - ((54 + (8589934592000000 : Nat).log2 - m.log2 : Nat) : Int) - 1))) := by
    unfold Ieee.Format.div
    rw [ex, read_mio, decide_eq_true hs]
    simp only [Ieee.Datum.quotient]
    rw [if_neg (by decide), fmt_fb, Nat.shiftLeft_eq]
    show some (FloatKind.f64.format.nearest _ _ _) = _
    rw [(near_rnd _ _ _).1]
    rfl
  have hl : (8589934592000000 : Nat).log2 = 52 := by decide +kernel
  rw [hl] at key
  have hm0 : m ≠ 0 := by omega
  have hlm : m.log2 = 52 := (Nat.log2_eq_iff hm0).2 ⟨by omega, by omega⟩
  rw [hlm] at key
  obtain ⟨M, hM⟩ : ∃ M, 2 * (m * 2 ^ (54 + 52 - 52) / 8589934592000000) + (m * 2 ^ (54 + 52 - 52) % 8589934592000000 != 0).toNat = M := ⟨_, rfl⟩
  rw [hM] at key
  have hM1 : 1 ≤ M := by
    have : 1 ≤ m * 2 ^ (54 + 52 - 52) / 8589934592000000 := (Nat.one_le_div_iff (by decide)).2 (by omega)
    omega
  have hR : 1 ≤ rndM M ((p : Int) - 1074 - -((33 : Nat) : Int) - ((54 + 52 - 52 : Nat) : Int) - 1) := by
    have a : rndM 1 (-1074) = 1 := by decide +kernel
    rw [← a]
    refine rnd_rise2 (by decide) (by omega) (by omega) ?_
    refine Nat.mul_le_mul hM1 (Nat.pow_le_pow_right (by decide) (by omega))
  obtain ⟨R, hRR⟩ : ∃ R, rndM M ((p : Int) - 1074 - -((33 : Nat) : Int) - ((54 + 52 - 52 : Nat) : Int) - 1) = R := ⟨_, rfl⟩
  rw [hRR] at key hR
  have hsec : secW t = signN true R := Option.some.inj (b1.symm.trans key)
  have hv : secW t = 9223372036854775808 + R ∨ secW t = R + 9223372036854775808 := by rw [hsec]; unfold signN; simp <;> omega
  rw [order_eq (secW t) 0 b2 (by decide) (by omega) (by decide)]
  congr 1
  have f0 : sv 0 = 0 := by decide
  have f1 : sv (secW t) = -(nv (secW t % 9223372036854775808) : Int) := by unfold sv; rw [if_pos (by omega)]
  have f2 := nv_lt (r := 0) (s := secW t % 9223372036854775808) (by omega)
  rw [f0, f1]
  exact cmp_lt (by omega)
theorem sec_pos (t : Int) (h1 : 0 ≤ t) (h2 : t ≤ 1125899906842624) : (FloatKind.f64.format.order (secW t) 0 == some .lt) = false ∧ Up (secW t) 1073 ∧ secW t < 9223372036854775808 := by
  obtain ⟨b1, b2, b3, b4⟩ := sec_is t (by omega) h2
  have b5 := b4 h1
  have hw : twoW 1073 < 9218868437227405312 := by decide
  refine ⟨?_, ⟨b2, b3, Or.inl b5⟩, b5⟩
  rw [order_eq (secW t) 0 b2 (by decide) (by omega) (by decide), beq_eq_false_iff_ne]
  intro c
  have f0 : sv 0 = 0 := by decide
  have f1 : sv (secW t) = (nv (secW t) : Int) := svE_mag _ b5
  rw [f0, f1] at c
  by_cases hz : nv (secW t) = 0
  · rw [hz] at c; exact absurd c (by decide)
  · rw [cmp_gt (by omega)] at c; exact absurd c (by decide)
theorem blo_cell {W : World} {b i : Nat} {l : List Nat} (h : W.heap[b]? = some (BlO l)) (hi : i < l.length) : W.cell? ⟨b, i, none⟩ = some (.float .f64 (l.getD i 0)) := by
  unfold BlO at h
  have : W.cell? ⟨b, i, none⟩ = (l.map (Value.float .f64))[i]? := by simp [World.cell?, h]
  rw [this, List.getElem?_map, List.getElem?_eq_getElem hi, List.getD_eq_getElem?_getD, List.getElem?_eq_getElem hi]
  rfl
/-- Some numbers of a block, copied into a row. -/
theorem copy_any {W : World} {g bb Q P R B CC z : Nat} {l : List Nat} {o : Nat → Nat} (hr : W.rowIs g 38 Q (fun k => .float .f64 (o k))) (hl : W.heap[bb]? = some (BlO l)) (hP : P + z ≤ Q) (hB : B + z ≤ l.length) (hR : z ≤ R) :
    ∃ w', (Builtin.copy_ #[32, 32] 3 #[.slice (some ⟨g, P, none⟩) R R, .slice (some ⟨bb, B, none⟩) z CC]).run Try.prog W = .ok (.int .i64 z) w' ∧ w'.rowIs g 38 Q (fun t => .float .f64 (if P ≤ t ∧ t < P + z then l.getD (B + (t - P)) 0 else o t)) ∧ (∀ k, k ≠ g → w'.heap[k]? = W.heap[k]?) ∧ ∀ m w0, Below m w0 W → m ≤ g → Below m w0 w' := by
  obtain ⟨cur, h1, h2, h3⟩ := hr
  obtain ⟨cs, hcs⟩ : ∃ cs, (List.range z).map (fun j => Value.float .f64 (l.getD (B + j) 0)) = cs := ⟨_, rfl⟩
  have hlen : cs.length = z := by rw [← hcs, List.length_map, List.length_range]
  have hget : ∀ j, j < z → cs[j]? = some (.float .f64 (l.getD (B + j) 0)) := fun j hj => by
    rw [← hcs, List.getElem?_map, List.getElem?_range hj]
    rfl
  have hrun := run_copy_row (P := Try.prog) W 32 32 3 38 g P R R ⟨bb, B, none⟩ z CC cur 38 cs Try.underlying32 (by kernel_rfl) h1 (by rw [hlen]; exact (Nat.min_eq_left hR).symm) (fun j v hj => by
    have hjz : j < z := by
      have := (List.getElem?_eq_some_iff.1 hj).1
      omega
    rw [Go.WideShapes.add_plain, blo_cell hl (by omega), ← hget j hjz, hj]) (by rw [hlen, h2]; exact hP) (fun v hv => by
    rw [← hcs] at hv
    obtain ⟨j, _, rfl⟩ := List.mem_map.1 hv
    rfl)
  refine ⟨_, hrun.trans (by rw [hlen]; rfl), ⟨_, setRow_heap _ _ _ _ _ _ h1, ?_, ?_⟩, fun k hk => setRow_other _ _ _ _ hk, fun m w0 hb hm => below_setRow hb hm _⟩
  · simp only [List.size_toArray, List.length_append, List.length_take, List.length_drop, hlen, Array.length_toList, h2]
    omega
  · intro t ht
    rw [List.getElem?_toArray]
    show _ = some (Value.float .f64 (if P ≤ t ∧ t < P + z then l.getD (B + (t - P)) 0 else o t))
    have hc : ∀ i, i < Q → cur.toList[i]? = some (.float .f64 (o i)) := fun i hi => by rw [Array.getElem?_toList]; exact h3 i hi
    have l1 : (cur.toList.take P).length = P := by rw [List.length_take, Array.length_toList, h2]; omega
    by_cases c1 : t < P
    · rw [if_neg (by omega), List.append_assoc, List.getElem?_append_left (by omega), List.getElem?_take_of_lt c1]
      exact hc t ht
    · by_cases c2 : t < P + z
      · rw [if_pos ⟨by omega, c2⟩, List.append_assoc, List.getElem?_append_right (by omega), l1, List.getElem?_append_left (by omega)]
        exact hget (t - P) (by omega)
      · rw [if_neg (by omega), List.append_assoc, List.getElem?_append_right (by omega), l1, List.getElem?_append_right (by omega), hlen, List.getElem?_drop, show P + z + (t - P - z) = t by omega]
        exact hc t ht
def FrU (w W : World) (mb rb ob ax : Nat) (O1 O2 O3 O4 : Obj) : Prop := Below w.heap.size w W ∧ W.heap[mb]? = some O1 ∧ W.heap[rb]? = some O2 ∧ W.heap[ob]? = some O3 ∧ W.heap[ax]? = some O4
theorem FrU.call {w W W' : World} {mb rb ob ax : Nat} {O1 O2 O3 O4 : Obj} (h : FrU w W mb rb ob ax O1 O2 O3 O4) (hb : Below W.heap.size W W') : FrU w W' mb rb ob ax O1 O2 O3 O4 :=
  ⟨h.1.trans (hb.mono h.1.size), blkM h.2.1 hb, blkM h.2.2.1 hb, blkM h.2.2.2.1 hb, blkM h.2.2.2.2 hb⟩
theorem FrU.drew {w W : World} {mb rb ob ax : Nat} {O1 O2 O3 O4 : Obj} (h : FrU w W mb rb ob ax O1 O2 O3 O4) : FrU w W.drew mb rb ob ax O1 O2 O3 O4 := ⟨h.1.drew, h.2⟩
theorem FrU.but {w W W' : World} {mb rb ob ax g : Nat} {O1 O2 O3 O4 : Obj} (h : FrU w W mb rb ob ax O1 O2 O3 O4) (h1 : mb ≠ g ∧ rb ≠ g ∧ ob ≠ g ∧ ax ≠ g) (hB : Below w.heap.size w W') (ho : ∀ k, k ≠ g → W'.heap[k]? = W.heap[k]?) : FrU w W' mb rb ob ax O1 O2 O3 O4 :=
  ⟨hB, (ho _ h1.1).trans h.2.1, (ho _ h1.2.1).trans h.2.2.1, (ho _ h1.2.2.1).trans h.2.2.2.1, (ho _ h1.2.2.2).trans h.2.2.2.2⟩
theorem ax_some {K A : Nat → Int} {N F : Nat → Nat} {n : Nat} (h : dmE n K A N F = 0) : (axP A n).length ≠ 0 := by
  obtain ⟨h0, y1, _⟩ := dm_zero h
  obtain ⟨_, _, z0, _⟩ := ptS_in (scE_all y1 0 (by omega))
  have : (0, 0) ∈ axP A n := axP_mem.2 ⟨by show 0 < n; omega, by show ((0 : Nat) : Int) < A 0; omega⟩
  intro hc
  rw [List.length_eq_zero_iff.1 hc] at this
  exact absurd this (List.not_mem_nil)
/-- The reckoning of one row's places. -/
theorem row_places {f z D q : Nat} (hz : 1 ≤ z ∧ z ≤ 3) (hfz : f + z ≤ D) (hD : D ≤ 12) (hq : q < z) : ∃ q1 b b1 zz fq p0 p Q R cc : Nat, q + 1 = q1 ∧ q * z = b ∧ (q + 1) * z = b1 ∧ z * z = zz ∧ f + q = fq ∧ (f + q) * D = p0 ∧ (f + q) * D + f = p ∧ D * D = Q ∧ Q - p = R ∧ zz - b = cc ∧ q1 ≤ 3 ∧ b + z = b1 ∧ b1 ≤ zz ∧ zz ≤ 9 ∧ fq < 12 ∧ p0 + f = p ∧ p + z ≤ Q ∧ Q ≤ 144 ∧ z ≤ R ∧ (q : Int) + 1 = (q1 : Int) ∧ (q : Int) * (z : Int) = (b : Int) ∧ (q1 : Int) * (z : Int) = (b1 : Int) ∧ (f : Int) + (q : Int) = (fq : Int) ∧ (fq : Int) * (D : Int) = (p0 : Int) ∧ (p0 : Int) + (f : Int) = (p : Int) := by
  refine ⟨_, _, _, _, _, _, _, _, _, _, rfl, rfl, rfl, rfl, rfl, rfl, rfl, rfl, rfl, rfl, ?_⟩
  have a1 : (q + 1) * z ≤ z * z := Nat.mul_le_mul_right _ hq
  have a2 : z * z ≤ 3 * 3 := Nat.mul_le_mul hz.2 hz.2
  have a3 : D * D ≤ 12 * 12 := Nat.mul_le_mul hD hD
  have a4 : (f + q + 1) * D ≤ D * D := Nat.mul_le_mul_right _ (by omega)
  have a5 : q * z + z = (q + 1) * z := by rw [Nat.add_mul, Nat.one_mul]
  have a6 : (f + q + 1) * D = (f + q) * D + D := by rw [Nat.add_mul, Nat.one_mul]
  refine ⟨by omega, a5, a1, by omega, by omega, rfl, by omega, by omega, by omega, by omega, by simp, ?_, by omega, by simp, by simp⟩
  rw [← Int.natCast_mul]
set_option maxRecDepth 4000 in
set_option maxHeartbeats 8000000 in
theorem laid_any (u : Nat) (sa : Option Addr) (n cap : Nat) (K A : Nat → Int) (N F : Nat → Nat) (tk : Int) (w : World) (h : PtF w sa n K A N F) (hn : n ≤ 4398046511104) : Calls Try.prog 17 #[.agg #[.slice sa n cap], .int .i64 tk, .func (.func (chU u)) #[] #[]] w fun e w' => (∃ X0 X1 X2 X3 X4, e = .returned (.tuple #[.agg #[.int .i64 X0, .int .i64 X1, .slice X2 X3 X4], .int .i64 (laE (dmE n K A N F) tk)]) ∧ ResM (laE (dmE n K A N F) tk) (dmV n K A N F).toNat (dmV n K A N F).toNat (laV u n K A N F tk) w' X0 X1 X2 X3 X4) ∧ Below w.heap.size w w' := by
  obtain ⟨t1, t2, t3, t4⟩ := two_b w (MoBox sa n cap) (MBox 0 0 none 0 0)
  have HDM := hid (fun W (hW : Below w.heap.size w W) => Dim_any sa n cap K A N F W (h.below hW) hn)
  have HSE := hid (fun W => Seconds_any tk W)
  have hst := fstoreM
  obtain ⟨V, hV⟩ : ∃ V, Hid ((w.alloc (MoBox sa n cap)).alloc (MBox 0 0 none 0 0) = V) := ⟨_, rfl⟩
  rw [hV.out] at t1 t2 t3 t4
  have hV' := hV.out
  have HB := hid t3
  have HR := hid t2
  have HM := hid t1
  have c0 := mocell_of t1
  unfold MoBox MBox at hV'
  obtain ⟨mb, hmb⟩ : ∃ t, Hid (w.heap.size = t) := ⟨_, rfl⟩
  obtain ⟨rb, hrb⟩ : ∃ t, Hid (mb + 1 = t) := ⟨_, rfl⟩
  rw [hmb.out] at HR HM c0
  rw [hrb.out] at HR
  have hmb' := hmb.out
  have hrb' := hrb.out
  have HRL : Hid (w.heap.size ≤ rb) := by have := hmb.out; have := hrb.out; show w.heap.size ≤ rb; omega
  clear t1 t2 t3 t4
  by_cases hE0 : dmE n K A N F = 0
  · by_cases hT : tk < 0 ∨ 1125899906842624 < tk
    · have HEE : Hid (laE (dmE n K A N F) tk = 1) := by show _ = _; rw [hE0]; exact laE_bad hT
      rw [HEE.out]
      rw [hE0] at HDM
      clear hE0 h hn HEE
      by_cases hT2 : tk < -1125899906842624 ∨ 1125899906842624 < tk
      · have e1 : seV tk = 0 := by unfold seV; rw [if_pos hT2]
        have e2 : seE2 tk = 1 := by unfold seE2; rw [if_pos hT2]
        rw [e1, e2] at HSE
        clear e1 e2 hT hT2
        go_enter Try.func17, Try.ntmps17
        go_wp2_with fail
        refine (HDM.out _ HB.out).mono ?_
        rintro e w1 ⟨rfl, hb⟩
        have HB1 := hid (HB.out.trans (hb.mono HB.out.size))
        have HR1 := hid (blkM HR.out hb)
        clear hb c0
        go_wp2_with fail
        refine (HSE.out _).mono ?_
        rintro e w2 ⟨rfl, hw⟩
        rw [hw]
        clear hw
        obtain ⟨r0, r1, r2⟩ := mcells_of HR1.out
        have fz := frzM HR1.out
        go_wp2_with fail
        refine bodyPost_ret (v := .tuple #[.agg #[.int .i64 0, .int .i64 0, .slice none 0 0], .int .i64 1]) (by simp [results, Try.results17, go_sem, r0, r1, r2]) rfl ⟨⟨0, 0, none, 0, 0, rfl, pk_no (by decide)⟩, ?_⟩
        have := StoM.below (r := 0) (c := 0) (sa := none) (n := 0) (cap := 0) HB1.out HRL.out
        first | exact this | (rw [hmb'] at this; exact this)
      · have e1 : seV tk = secW tk := by unfold seV; rw [if_neg hT2]
        have e2 : seE2 tk = 0 := by unfold seE2; rw [if_neg hT2]
        rw [e1, e2] at HSE
        have hord := sec_neg tk (by omega) (by omega)
        obtain ⟨dd, hdd⟩ : ∃ q, secW tk = q := ⟨_, rfl⟩
        rw [hdd] at HSE hord
        clear e1 e2 hT hT2 hdd
        go_enter Try.func17, Try.ntmps17
        go_wp2_with fail
        refine (HDM.out _ HB.out).mono ?_
        rintro e w1 ⟨rfl, hb⟩
        have HB1 := hid (HB.out.trans (hb.mono HB.out.size))
        have HR1 := hid (blkM HR.out hb)
        clear hb c0
        go_wp2_with fail
        refine (HSE.out _).mono ?_
        rintro e w2 ⟨rfl, hw⟩
        rw [hw]
        clear hw
        obtain ⟨r0, r1, r2⟩ := mcells_of HR1.out
        have fz := frzM HR1.out
        go_wp2_with fail
        refine bodyPost_ret (v := .tuple #[.agg #[.int .i64 0, .int .i64 0, .slice none 0 0], .int .i64 1]) (by simp [results, Try.results17, go_sem, r0, r1, r2]) rfl ⟨⟨0, 0, none, 0, 0, rfl, pk_no (by decide)⟩, ?_⟩
        have := StoM.below (r := 0) (c := 0) (sa := none) (n := 0) (cap := 0) HB1.out HRL.out
        first | exact this | (rw [hmb'] at this; exact this)
    · have HEE : Hid (laE (dmE n K A N F) tk = 0) := by show _ = _; rw [hE0]; exact laE_ok hT
      rw [HEE.out]
      have e1 : seV tk = secW tk := by unfold seV; rw [if_neg (by omega)]
      have e2 : seE2 tk = 0 := by unfold seE2; rw [if_neg (by omega)]
      rw [e1, e2] at HSE
      obtain ⟨hord, hup, hup0⟩ := sec_pos tk (by omega) (by omega)
      have HAX := hid (fun W (hW : Below w.heap.size w W) => axes_any sa n cap K A N F W (h.below hW) hn hE0)
      obtain ⟨n0, y1, y2, y3, y4, y5⟩ := dm_zero hE0
      obtain ⟨y6, y7⟩ : 1 ≤ dmV n K A N F ∧ dmV n K A N F ≤ 12 := by rw [y3]; exact ⟨y5, y2⟩
      obtain ⟨pb, po, rfl, hbl, hcl⟩ := h.2 n0
      have HC := hid (fun W (hW : Below w.heap.size w W) i hi => pt_at hbl hcl hW i hi)
      have HFI := hid (fun e he => @fst_in K A N F n hE0 e he)
      have HUP : Hid (∀ i, i < n → Up (N i) 1123 ∧ Up (F i) 1123) := fun i hi => pt_up (h.1 i hi).2.2.1 (h.1 i hi).2.2.2 (scE_all y1 i hi)
      have HZK : Hid (∀ i, i < n → szK (K i) ≠ 0) := fun i hi => by have := (ptS_in (scE_all y1 i hi)).2.2.2; omega
      obtain ⟨B, HBI, HBV, HGD⟩ : ∃ B : Nat → List Nat, Hid (∀ i, i < n → ((B i).length = (szK (K i)).toNat * (szK (K i)).toNat ∧ ∀ args W, (callFunc (fnU u (fnF (K i)) (fnQ (K i)) (fnG (K i))) args).run Try.prog W = .ok (.enter (fnU u (fnF (K i)) (fnQ (K i)) (fnG (K i))) args) W) ∧ ∀ W, Calls Try.prog (fnU u (fnF (K i)) (fnQ (K i)) (fnG (K i))) #[.agg #[.int .i64 (K i), .int .i64 (A i), .float .f64 (N i), .float .f64 (F i)], .float .f64 (secW tk)] W fun r w' => BlR (B i) W r w') ∧ Hid (laV u n K A N F tk = fun i j => canonOf (mtV B K A (axP A n) i j)) ∧ Hid (∀ r c, gdW (mtV B K A (axP A n) r c)) := by
        refine ⟨fun i => bl u (K i) (N i) (F i) (secW tk), fun i hi => ⟨⟨bl_len u (K i) (N i) (F i) (secW tk) (HZK.out i hi), ent_fn u (K i) (HZK.out i hi)⟩, fun W => fm_any u (K i) (A i) (N i) (F i) (secW tk) W (HZK.out i hi) (HUP.out i hi).1 (HUP.out i hi).2 hup hup0⟩, rfl, fun r c => mt_gd (fun e he x hx => ?_) r c⟩
        have hlt := (axP_mem.1 he).1
        exact bl_gd u (K e.1) (N e.1) (F e.1) (secW tk) (HUP.out _ hlt).1 (HUP.out _ hlt).2 hup hup0 x hx
      rw [HBV.out]
      have HCH := hid (ch_any u)
      have HCE := hid (ent_ch u)
      obtain ⟨ch, hch⟩ : ∃ q, chU u = q := ⟨_, rfl⟩
      rw [hch] at HCH HCE
      rw [hch]
      obtain ⟨D, hD⟩ := Int.eq_ofNat_of_zero_le (show 0 ≤ dmV n K A N F by omega)
      rw [hE0, hD] at HDM
      rw [hD] at y6 y7 HFI
      rw [hD, Int.toNat_natCast]
      rw [Int.toNat_natCast] at HFI
      have hD12 : D ≤ 12 := by omega
      have HAS := hid (ax_some hE0)
      have HMEM := hid (fun e he => ((@axP_mem A n e).1 he).1)
      have HLN : Hid ((axP A n).length ≤ 12) := by
        have a := axP_len (K := K) (A := A) (N := N) (F := F) (n := n) (scE_all y1)
        have b := (y4 n (Nat.le_refl _)).1
        have c := (y4 n (Nat.le_refl _)).2.2
        show _ ≤ 12
        omega
      obtain ⟨dd, hdd⟩ : ∃ q, secW tk = q := ⟨_, rfl⟩
      rw [hdd] at HSE hord HBI
      obtain ⟨Q, hQ⟩ : ∃ q, Hid (D * D = q) := ⟨_, rfl⟩
      have HZE := hid (fun W => zerosm_any D D (by omega) (by omega) W)
      unfold MV at HZE
      rw [hQ.out] at HZE
      obtain ⟨L, hL⟩ : ∃ t, axP A n = t := ⟨_, rfl⟩
      rw [hL] at HFI HGD HAS HMEM HLN
      have HAX2 : Hid (∀ W, Below w.heap.size w W → Calls Try.prog 35 #[.agg #[.slice (some ⟨pb, po, none⟩) n cap]] W fun r w' => (∃ v, r = .returned v ∧ w'.ownsRow W.heap.size 62 7 v L.length (L.flatMap (axC K A))) ∧ Below W.heap.size W w') := fun W hW => by have := HAX.out W hW; rw [hL] at this; exact this
      have HRES : Hid (∀ (W : World) (g : Nat) (o : Nat → Nat), W.rowIs g 38 Q (fun k => .float .f64 (o k)) → (∀ i j, i < D → j < D → o (i * D + j) = mtV B K A L i j) → ResM 0 D D (fun i j => canonOf (mtV B K A L i j)) W D D (some ⟨g, 0, none⟩) Q Q) := fun W g o h1 h2 => mt_res hD12 hQ.out h1 h2 HGD.out
      rw [hL]
      clear e1 e2 hT hE0 h hn hup hup0 y1 y2 y3 y4 y5 y6 hD hcl HEE HAX HBV HUP HZK hch hdd hL HGD
      go_enter Try.func17, Try.ntmps17
      go_wp2_with fail
      refine (HDM.out _ HB.out).mono ?_
      rintro e w1 ⟨rfl, hb⟩
      have HB1 := hid (HB.out.trans (hb.mono HB.out.size))
      have HR1 := hid (blkM HR.out hb)
      have HM1 := hid (blkM HM.out hb)
      clear hb c0
      go_wp2_with fail
      refine (HSE.out _).mono ?_
      rintro e w2 ⟨rfl, hw⟩
      rw [hw]
      clear hw
      go_wp2_with fail
      refine (HZE.out _).mono ?_
      rintro e w3 ⟨rfl, hrow, hb⟩
      have HG3 := hid hrow
      have HB3 := hid (HB1.out.trans (hb.mono HB1.out.size))
      have HR3 := hid (blkM HR1.out hb)
      have HM3 := hid (blkM HM1.out hb)
      obtain ⟨g, hgg⟩ : ∃ t, Hid (w1.heap.size + 1 = t) := ⟨_, rfl⟩
      rw [hgg.out] at HG3
      have hgg' := hgg.out
      have HNE : Hid (g ≠ mb ∧ g ≠ rb ∧ w.heap.size ≤ g ∧ g < w3.heap.size) := by
        have e1 := (Array.getElem?_eq_some_iff.1 HR1.out).1; have e2 := hgg.out; have e3 := (Array.getElem?_eq_some_iff.1 HM1.out).1; have e5 := HB1.out.size; have e6 := hrb.out; have e7 := hmb.out; have e8 := HG3.out.lt
        show _ ∧ _ ∧ _ ∧ _
        omega
      have hal : Below w3.heap.size w3 (w3.alloc (MBox D D (some ⟨g, 0, none⟩) Q Q)) := (Below.refl _ _).alloc (Nat.le_refl _) _
      have HB4 := hid (HB3.out.trans (hal.mono HB3.out.size))
      have HM4 := hid (blkM HM3.out hal)
      have HR4 := hid (blkM HR3.out hal)
      have HO4 : Hid ((w3.alloc (MBox D D (some ⟨g, 0, none⟩) Q Q)).heap[w3.heap.size]? = some (MBox D D (some ⟨g, 0, none⟩) Q Q)) := nblkM _ _
      have HG4 : Hid ((w3.alloc (MBox D D (some ⟨g, 0, none⟩) Q Q)).rowIs g 38 Q (fun _ => .float .f64 0)) := HG3.out.of_block (hal.block _ HNE.out.2.2.2)
      obtain ⟨V4, hV4⟩ : ∃ V, Hid (w3.alloc (MBox D D (some ⟨g, 0, none⟩) Q Q) = V) := ⟨_, rfl⟩
      rw [hV4.out] at HB4 HM4 HR4 HO4 HG4
      have hV4' := hV4.out
      unfold MBox at hV4'
      obtain ⟨ob, hob⟩ : ∃ t, Hid (w3.heap.size = t) := ⟨_, rfl⟩
      rw [hob.out] at HO4
      have hob' := hob.out
      have HNE2 : Hid (g ≠ ob) := by have := HNE.out.2.2.2; have := hob.out; show g ≠ ob; omega
      have c0 := mocell_of HM4.out
      clear hrow hb hal
      go_wp2_with fail
      refine (HAX2.out _ HB4.out).mono ?_
      rintro e w5 ⟨⟨v, rfl, hown⟩, hb⟩
      have HB5 := hid (HB4.out.trans (hb.mono HB4.out.size))
      have HM5 := hid (blkM HM4.out hb)
      have HR5 := hid (blkM HR4.out hb)
      have HO5 := hid (blkM HO4.out hb)
      have HG5 : Hid (w5.rowIs g 38 Q (fun _ => .float .f64 0)) := HG4.out.of_block (hb.block _ HG4.out.lt)
      have HGL : Hid (g < V4.heap.size) := HG4.out.lt
      have HOW := hid hown
      clear hb hown c0
      rcases Joins.ownsRow_forms HOW.out with ⟨_, h0⟩ | ⟨ax, acap, rfl⟩
      · exact absurd h0 HAS.out
      obtain ⟨cur, HCU, HAG⟩ : ∃ cur, Hid (w5.heap[ax]? = some (.cells cur 62 (0, 0))) ∧ Hid (V4.heap.size ≤ ax) := by
        rcases HOW.out.2 with ⟨h1, _⟩ | ⟨g', cap', cur, h1, h2, h3, _⟩
        · cases h1
        · cases h1
          exact ⟨cur, h3, h2⟩
      have HAT : Hid (∀ W, W.heap[ax]? = some (.cells cur 62 (0, 0)) → ∀ t (ht : t < L.length), AxD W ax (t * 7) L[t].1 L[t].2 (uS (ptS K A) L[t].1 + (L[t].2 : Int) * szK (K L[t].1)) (szK (K L[t].1)) (fnF (K L[t].1)) (fnQ (K L[t].1)) (fnG (K L[t].1))) := fun W hW t ht => by
        have a := ax_at HOW.out t ht
        have e : W.heap[ax]? = w5.heap[ax]? := hW.trans HCU.out.symm
        unfold AxD at a ⊢
        rw [World.cell?_of_block (a := ⟨ax, t * 7, none⟩) e, World.cell?_of_block (a := ⟨ax, t * 7 + 1, none⟩) e, World.cell?_of_block (a := ⟨ax, t * 7 + 2, none⟩) e, World.cell?_of_block (a := ⟨ax, t * 7 + 3, none⟩) e, World.cell?_of_block (a := ⟨ax, t * 7 + 4, none⟩) e, World.cell?_of_block (a := ⟨ax, t * 7 + 5, none⟩) e, World.cell?_of_block (a := ⟨ax, t * 7 + 6, none⟩) e]
        exact a
      have HNG : Hid (mb ≠ g ∧ rb ≠ g ∧ ob ≠ g ∧ ax ≠ g) := by
        have a := HNE.out; have b := HNE2.out; have c := HGL.out; have d := HAG.out
        show _ ∧ _ ∧ _ ∧ _
        omega
      have HF5 : Hid (FrU w w5 mb rb ob ax (MoBox (some ⟨pb, po, none⟩) n cap) (MBox 0 0 none 0 0) (MBox D D (some ⟨g, 0, none⟩) Q Q) (.cells cur 62 (0, 0))) := ⟨HB5.out, HM5.out, HR5.out, HO5.out, HCU.out⟩
      obtain ⟨S, hS⟩ : ∃ t, Hid (L.length = t) := ⟨_, rfl⟩
      rw [hS.out] at HLN
      rw [hS.out]
      clear HOW
      go_wp2_with fail
      go_loopw [44] (fun iv wr => ∃ (s : Nat) (o : Nat → Nat), s ≤ S ∧ iv = .int .i64 s ∧ Hid (wr.rowIs g 38 Q (fun k => .float .f64 (o k))) ∧ Hid (∀ i j, i < D → j < D → o (i * D + j) = mtV B K A (L.take s) i j) ∧ Hid (FrU w wr mb rb ob ax (MoBox (some ⟨pb, po, none⟩) n cap) (MBox 0 0 none 0 0) (MBox D D (some ⟨g, 0, none⟩) Q Q) (.cells cur 62 (0, 0)))) (fun iv _ => S - (intOf iv).toNat)
      case atStart => exact ⟨0, fun _ => 0, Nat.zero_le _, rfl, HG5, fun _ _ _ _ => rfl, HF5⟩
      case round =>
        obtain ⟨s, o, hs, rfl, HRW, HO, HF⟩ := hrel
        by_cases hlt : s < S
        · have hlt' : s < L.length := by rw [hS.out]; exact hlt
          have HD := hid (HAT.out wr HF.out.2.2.2.2 s hlt')
          have HEM := hid (HMEM.out L[s] (List.getElem_mem hlt'))
          obtain ⟨u1, u2, u3, u4, u5⟩ := HFI.out L[s] (List.getElem_mem hlt')
          have HMT : Hid (mtV B K A (L.take (s + 1)) = pU (mtV B K A (L.take s)) (fsT K A L[s]) (szK (K L[s].1)).toNat (B L[s].1) ((szK (K L[s].1)).toNat * (szK (K L[s].1)).toNat)) := mt_take B K A L s hlt'
          have hkI : (s : Int) < (S : Int) := by omega
          have hk0 : (0 : Int) ≤ (s : Int) := by omega
          have hS12 := HLN.out
          obtain ⟨e, he⟩ : ∃ q, L[s] = q := ⟨_, rfl⟩
          rw [he] at HD HEM u1 u2 u3 u4 u5 HMT
          rw [u1] at HD
          obtain ⟨i, hi⟩ : ∃ q, e.1 = q := ⟨_, rfl⟩
          obtain ⟨j, hj⟩ : ∃ q, e.2 = q := ⟨_, rfl⟩
          rw [hi] at HD HEM u2 u3 u4 u5 HMT
          rw [hj] at HD
          obtain ⟨⟨hblen, hpE⟩, hcall⟩ := HBI.out i HEM.out
          have HPT := hid (HC.out wr HF.out.1 i HEM.out)
          have HPT2 := hid (fun W hW => HC.out W hW i HEM.out)
          have hiI : (i : Int) < (n : Int) := by have := HEM.out; omega
          have hi0 : (0 : Int) ≤ (i : Int) := by omega
          obtain ⟨f, hf⟩ : ∃ q, fsT K A e = q := ⟨_, rfl⟩
          rw [hf] at HD u5 HMT
          obtain ⟨z, hz⟩ : ∃ q, (szK (K i)).toNat = q := ⟨_, rfl⟩
          rw [hz] at u2 u3 u4 u5 hblen HMT
          rw [u2] at HD
          obtain ⟨g1, hg1⟩ : ∃ q, fnF (K i) = q := ⟨_, rfl⟩
          obtain ⟨g2, hg2⟩ : ∃ q, fnQ (K i) = q := ⟨_, rfl⟩
          obtain ⟨g3, hg3⟩ : ∃ q, fnG (K i) = q := ⟨_, rfl⟩
          rw [hg1, hg2, hg3] at HD hcall hpE
          obtain ⟨k1, hk1⟩ : ∃ q, K i = q := ⟨_, rfl⟩
          obtain ⟨a1, ha1⟩ : ∃ q, A i = q := ⟨_, rfl⟩
          obtain ⟨n1, hn1⟩ : ∃ q, N i = q := ⟨_, rfl⟩
          obtain ⟨f1, hf1⟩ : ∃ q, F i = q := ⟨_, rfl⟩
          obtain ⟨l, hl⟩ : ∃ q, B i = q := ⟨_, rfl⟩
          obtain ⟨M, hM⟩ : ∃ q, mtV B K A (L.take s) = q := ⟨_, rfl⟩
          rw [hk1, ha1, hn1, hf1, hl] at hcall
          rw [hk1, ha1, hn1, hf1] at HPT HPT2
          rw [hl] at hblen HMT
          rw [hM] at HMT HO
          obtain ⟨p, hp⟩ : ∃ q, fnU u g1 g2 g3 = q := ⟨_, rfl⟩
          have HCF := hid (fun W => HCH.out (z : Int) g1 g2 g3 W)
          rw [hp] at HCF hcall hpE
          have HPE := hid hpE
          clear hpE
          obtain ⟨zz, hzz⟩ : ∃ q, z * z = q := ⟨_, rfl⟩
          rw [hzz] at hblen HMT
          have HLL := hid hblen
          have HZZ := hid hzz
          have HZB : Hid (1 ≤ z ∧ z ≤ 3) := ⟨u3, u4⟩
          have HFZ : Hid (f + z ≤ D) := u5
          have HPH : Hid (∀ W, Calls Try.prog p #[.agg #[.int .i64 k1, .int .i64 a1, .float .f64 n1, .float .f64 f1], .float .f64 dd] W fun r w' => ∃ bb, r = .returned (.slice (some ⟨bb, 0, none⟩) zz zz) ∧ w'.heap[bb]? = some (BlO l) ∧ W.heap.size ≤ bb ∧ Below W.heap.size W w') := fun W => (hcall W).mono fun r w' hr => by
            obtain ⟨bb, q1, q2, q3, q4⟩ := hr
            rw [HLL.out] at q1
            exact ⟨bb, q1, q2, q3, q4⟩
          have hd := HD.out
          unfold AxD at hd
          obtain ⟨d0, d1, d2, d3, d4, d5, d6⟩ := hd
          have hal : Below wr.heap.size wr (wr.alloc (AxB i j f z g1 g2 g3)) := (Below.refl _ _).alloc (Nat.le_refl _) _
          have HF6 := hid (HF.out.call hal)
          have HX6 : Hid ((wr.alloc (AxB i j f z g1 g2 g3)).heap[wr.heap.size]? = some (AxB i j f z g1 g2 g3)) := nblkM _ _
          have HR6 : Hid ((wr.alloc (AxB i j f z g1 g2 g3)).rowIs g 38 Q (fun k => .float .f64 (o k))) := HRW.out.of_block (hal.block _ HRW.out.lt)
          have HNA0 : Hid (g < wr.heap.size) := HRW.out.lt
          obtain ⟨V6, hV6⟩ : ∃ V, Hid (wr.alloc (AxB i j f z g1 g2 g3) = V) := ⟨_, rfl⟩
          rw [hV6.out] at HF6 HX6 HR6
          have hV6' := hV6.out
          unfold AxB at hV6'
          obtain ⟨ab, hab⟩ : ∃ t, Hid (wr.heap.size = t) := ⟨_, rfl⟩
          rw [hab.out] at HX6 HNA0
          have hab' := hab.out
          have HNA : Hid (ab ≠ g) := by have := HNA0.out; show ab ≠ g; omega
          have HSS : Hid (∀ W, FrU w W mb rb ob ax (MoBox (some ⟨pb, po, none⟩) n cap) (MBox 0 0 none 0 0) (MBox D D (some ⟨g, 0, none⟩) Q Q) (.cells cur 62 (0, 0)) → W.heap[ab]? = some (AxB i j f z g1 g2 g3) → (W.cell? ⟨ab, 0, none⟩ = some (.int .i64 (i : Int)) ∧ W.cell? ⟨ab, 3, none⟩ = some (.int .i64 (z : Int)) ∧ W.cell? ⟨ab, 4, none⟩ = some (.func (.func g1) #[] #[]) ∧ W.cell? ⟨ab, 5, none⟩ = some (.func (.func g2) #[] #[]) ∧ W.cell? ⟨ab, 6, none⟩ = some (.func (.func g3) #[] #[])) ∧ W.cell? ⟨mb, 0, none⟩ = some (.slice (some ⟨pb, po, none⟩) n cap) ∧ (W.cell? ⟨pb, po + i * 4, none⟩ = some (.int .i64 k1) ∧ W.cell? ⟨pb, po + i * 4 + 1, none⟩ = some (.int .i64 a1) ∧ W.cell? ⟨pb, po + i * 4 + 2, none⟩ = some (.float .f64 n1) ∧ W.cell? ⟨pb, po + i * 4 + 3, none⟩ = some (.float .f64 f1))) := fun W q1 q2 => by
            have a := axb_cells q2
            unfold AxD at a
            simp only [Nat.zero_add] at a
            have b := HPT2.out W q1.1
            unfold PtC at b
            exact ⟨⟨a.1, a.2.2.2⟩, mocell_of q1.2.1, b⟩
          have HFD := hid HF6.out.drew
          have HXD : Hid (V6.drew.heap[ab]? = some (AxB i j f z g1 g2 g3)) := HX6.out
          have HRD : Hid (V6.drew.rowIs g 38 Q (fun k => .float .f64 (o k))) := HR6.out.of_block rfl
          clear hal hi hj hf hz hg1 hg2 hg3 hk1 ha1 hn1 hf1 hl hM hp hzz u1 u2 u3 u4 u5 he hblen hcall
          go_wp2_with fail
          clear d0 d1 d2 d3 d4 d5 d6
          refine wp_region_held_drew (S := fun W => (W.cell? ⟨ab, 0, none⟩ = some (.int .i64 (i : Int)) ∧ W.cell? ⟨ab, 3, none⟩ = some (.int .i64 (z : Int)) ∧ W.cell? ⟨ab, 4, none⟩ = some (.func (.func g1) #[] #[]) ∧ W.cell? ⟨ab, 5, none⟩ = some (.func (.func g2) #[] #[]) ∧ W.cell? ⟨ab, 6, none⟩ = some (.func (.func g3) #[] #[])) ∧ W.cell? ⟨mb, 0, none⟩ = some (.slice (some ⟨pb, po, none⟩) n cap) ∧ (W.cell? ⟨pb, po + i * 4, none⟩ = some (.int .i64 k1) ∧ W.cell? ⟨pb, po + i * 4 + 1, none⟩ = some (.int .i64 a1) ∧ W.cell? ⟨pb, po + i * 4 + 2, none⟩ = some (.float .f64 n1) ∧ W.cell? ⟨pb, po + i * 4 + 3, none⟩ = some (.float .f64 f1))) (by kernel_rfl) (HSS.out _ HFD.out HXD.out) (fun hHeld => ?_)
          refine take_at 0 48 (.func (.func ch) #[] #[]) rfl rfl (by kernel_rfl) (by kernel_rfl) (by kernel_rfl) (fun _ _ _ h => h) (Or.inl ⟨by rfl, fun w hSw => by (try dsimp only at hSw); go_simp⟩) (by assumption) ?_
          simp only [Act.put, List.setIfInBounds_toArray, List.set_cons_zero, List.set_cons_succ]
          refine take_at 1 49 (.pointer (some ⟨ab, 3, none⟩)) rfl rfl (by kernel_rfl) (by kernel_rfl) (by kernel_rfl) (fun _ _ _ h => h) (Or.inl ⟨by rfl, fun w hSw => by (try dsimp only at hSw); go_simp⟩) (by assumption) ?_
          simp only [Act.put, List.setIfInBounds_toArray, List.set_cons_zero, List.set_cons_succ]
          refine take_at 2 50 (.agg #[.int .i64 (z : Int), .func (.func g1) #[] #[], .func (.func g2) #[] #[], .func (.func g3) #[] #[]]) rfl rfl (by kernel_rfl) (by kernel_rfl) (by kernel_rfl) (fun _ _ _ h => h) (Or.inl ⟨by rfl, fun w hSw => by (try dsimp only at hSw); go_simp⟩) (by assumption) ?_
          simp only [Act.put, List.setIfInBounds_toArray, List.set_cons_zero, List.set_cons_succ]
          refine take_at 4 52 (.pointer (some ⟨mb, 0, none⟩)) rfl rfl (by kernel_rfl) (by kernel_rfl) (by kernel_rfl) (fun _ _ _ h => h) (Or.inl ⟨by rfl, fun w hSw => by (try dsimp only at hSw); go_simp⟩) (by assumption) ?_
          simp only [Act.put, List.setIfInBounds_toArray, List.set_cons_zero, List.set_cons_succ]
          refine take_at 5 53 (.slice (some ⟨pb, po, none⟩) n cap) rfl rfl (by kernel_rfl) (by kernel_rfl) (by kernel_rfl) (fun _ _ _ h => h) (Or.inl ⟨by rfl, fun w hSw => by (try dsimp only at hSw); go_simp⟩) (by assumption) ?_
          simp only [Act.put, List.setIfInBounds_toArray, List.set_cons_zero, List.set_cons_succ]
          refine take_at 6 54 (.pointer (some ⟨ab, 0, none⟩)) rfl rfl (by kernel_rfl) (by kernel_rfl) (by kernel_rfl) (fun _ _ _ h => h) (Or.inl ⟨by rfl, fun w hSw => by (try dsimp only at hSw); go_simp⟩) (by assumption) ?_
          simp only [Act.put, List.setIfInBounds_toArray, List.set_cons_zero, List.set_cons_succ]
          refine take_at 7 55 (.int .i64 (i : Int)) rfl rfl (by kernel_rfl) (by kernel_rfl) (by kernel_rfl) (fun _ _ _ h => h) (Or.inl ⟨by rfl, fun w hSw => by (try dsimp only at hSw); go_simp⟩) (by assumption) ?_
          simp only [Act.put, List.setIfInBounds_toArray, List.set_cons_zero, List.set_cons_succ]
          refine take_at 8 56 (.pointer (some ⟨pb, po + i * 4, none⟩)) rfl rfl (by kernel_rfl) (by kernel_rfl) (by kernel_rfl) (fun _ _ _ h => h) (Or.inl ⟨by rfl, fun w hSw => by (try dsimp only at hSw); go_simp⟩) (by assumption) ?_
          simp only [Act.put, List.setIfInBounds_toArray, List.set_cons_zero, List.set_cons_succ]
          refine take_at 9 57 (.agg #[.int .i64 k1, .int .i64 a1, .float .f64 n1, .float .f64 f1]) rfl rfl (by kernel_rfl) (by kernel_rfl) (by kernel_rfl) (fun _ _ _ h => h) (Or.inl ⟨by rfl, fun w hSw => by (try dsimp only at hSw); go_simp⟩) (by assumption) ?_
          simp only [Act.put, List.setIfInBounds_toArray, List.set_cons_zero, List.set_cons_succ]
          refine take_at 10 58 (.float .f64 dd) rfl rfl (by kernel_rfl) (by kernel_rfl) (by kernel_rfl) (fun _ _ _ h => h) (Or.inl ⟨by rfl, fun w hSw => by (try dsimp only at hSw); go_simp⟩) (by assumption) ?_
          simp only [Act.put, List.setIfInBounds_toArray, List.set_cons_zero, List.set_cons_succ]
          refine wpAnyH_ready (rs := [3]) (by kernel_rfl) (by simp) ?_
          refine AllReadyH.cons (o := _) rfl (fun K' hK => ?_) AllReadyH.nil
          have hchE := HCE.out
          go_simp
          clear hchE
          refine (HCF.out _).mono ?_
          rintro e u1 ⟨rfl, hb⟩
          have HF7 := hid (HFD.out.call hb)
          have HX7 := hid (blkM HXD.out hb)
          have HR7 : Hid (u1.rowIs g 38 Q (fun k => .float .f64 (o k))) := HRD.out.of_block (hb.block _ HRD.out.lt)
          clear hb
          go_wp2_with fail
          refine hK.out _ _ (HSS.out _ HF7.out HX7.out) (fun hHeld1 => ?_)
          clear hK K'
          try simp only [Act.put, List.setIfInBounds_toArray, List.set_cons_zero, List.set_cons_succ]
          refine wpAnyH_ready (rs := [11]) (by kernel_rfl) (by simp) ?_
          refine AllReadyH.cons (o := _) rfl (fun K' hK => ?_) AllReadyH.nil
          have hpE := HPE.out
          go_simp
          clear hpE
          refine (HPH.out _).mono ?_
          rintro e u2 ⟨bb, rfl, hl4, hbb, hb⟩
          have HF8 := hid (HF7.out.call hb)
          have HX8 := hid (blkM HX7.out hb)
          have HR8 : Hid (u2.rowIs g 38 Q (fun k => .float .f64 (o k))) := HR7.out.of_block (hb.block _ HR7.out.lt)
          have HL8 := hid hl4
          have HNB : Hid (bb ≠ g) := by have := HR7.out.lt; show bb ≠ g; omega
          clear hb hl4 hbb
          go_wp2_with fail
          refine hK.out _ _ (HSS.out _ HF8.out HX8.out) (fun hHeld2 => ?_)
          clear hK K'
          try simp only [Act.put, List.setIfInBounds_toArray, List.set_cons_zero, List.set_cons_succ]
          refine take_at 12 14 (.slice (some ⟨bb, 0, none⟩) zz zz) rfl rfl (by kernel_rfl) (by kernel_rfl) (by kernel_rfl) (fun _ _ _ h => h) (Or.inl ⟨by rfl, fun w hSw => by (try dsimp only at hSw); go_simp⟩) (by assumption) ?_
          simp only [Act.put, List.setIfInBounds_toArray, List.set_cons_zero, List.set_cons_succ]
          refine wpAnyH_done (by kernel_rfl) ?_ _
          have a8 := axb_cells HX8.out
          unfold AxD at a8
          simp only [Nat.zero_add] at a8
          obtain ⟨y0, y1, y2, y3, y4, y5, y6⟩ := a8
          clear hHeld hHeld1 hHeld2
          go_wp2_with fail
          clear y0 y1 y2 y3 y4 y5 y6
          go_loopw [63] (fun jv wi => ∃ (q : Nat) (o : Nat → Nat), q ≤ z ∧ jv = .int .i64 q ∧ Hid (wi.rowIs g 38 Q (fun k => .float .f64 (o k))) ∧ Hid (∀ r c, r < D → c < D → o (r * D + c) = pU M f z l (q * z) r c) ∧ Hid (FrU w wi mb rb ob ax (MoBox (some ⟨pb, po, none⟩) n cap) (MBox 0 0 none 0 0) (MBox D D (some ⟨g, 0, none⟩) Q Q) (.cells cur 62 (0, 0))) ∧ Hid (wi.heap[ab]? = some (AxB i j f z g1 g2 g3)) ∧ Hid (wi.heap[bb]? = some (BlO l))) (fun jv _ => z - (intOf jv).toNat)
          case atStart => exact ⟨0, o, Nat.zero_le _, rfl, HR8, by show ∀ r c, r < D → c < D → o (r * D + c) = pU M f z l (0 * z) r c; rw [Nat.zero_mul, pU_zero]; exact HO.out, HF8, HX8, HL8⟩
          case round =>
            obtain ⟨q, oi, hq, rfl, HRI, HOI, HFI2, HXI, HLI⟩ := hrel
            have a8 := axb_cells HXI.out
            unfold AxD at a8
            simp only [Nat.zero_add] at a8
            obtain ⟨y0, y1, y2, y3, y4, y5, y6⟩ := a8
            by_cases hql : q < z
            · have hqI : (q : Int) < (z : Int) := by omega
              obtain ⟨z0, z1, z2⟩ := mcells_of HFI2.out.2.2.2.1
              obtain ⟨q1, b, b1, zq, fq, p0, pp, Qq, R, cc, m1, m2, m3, m4, m5, m6, m7, m8, m9, m10, v1, v2, v3, v4, v5, v6, v7, v8, v9, i1, i2, i3, i4, i5, i6⟩ := row_places HZB.out HFZ.out hD12 hql
              obtain rfl : zz = zq := HZZ.out.symm.trans m4
              obtain rfl : Q = Qq := hQ.out.symm.trans m8
              obtain ⟨w9, hcp, hrow9, hoth9, hbel9⟩ := copy_any (P := pp) (R := R) (B := b) (CC := cc) (z := z) HRI.out HLI.out (by omega) (by have := HLL.out; omega) (by omega)
              have HRN : Hid (w9.rowIs g 38 Q (fun t => .float .f64 ((fun t => if pp ≤ t ∧ t < pp + z then l.getD (b + (t - pp)) 0 else oi t) t))) := hrow9
              have HON := hid (pU_row HFZ.out hql HOI.out)
              rw [m7, m2] at HON
              have HFN := hid (HFI2.out.but HNG.out (hbel9 _ _ HFI2.out.1 HNE.out.2.2.1) hoth9)
              have HXN := hid ((hoth9 _ HNA.out).trans HXI.out)
              have HLN2 := hid ((hoth9 _ HNB.out).trans HLI.out)
              have j1 := wrapM q1 (by omega)
              have j2 := wrapM b (by omega)
              have j3 := wrapM b1 (by omega)
              have j4 := wrapM fq (by omega)
              have j5 := wrapM p0 (by omega)
              have j6 := wrapM pp (by omega)
              have k0 : (0 : Int) ≤ (b : Int) := by omega
              have k1' : (b : Int) ≤ (b1 : Int) := by omega
              have k2 : (b1 : Int) ≤ (zz : Int) := by omega
              have k3 : (0 : Int) ≤ (b1 : Int) := by omega
              have k4 : (0 : Int) ≤ (pp : Int) := by omega
              have k5 : (pp : Int) ≤ (Q : Int) := by omega
              have k6 : ¬ zz = b := by have := HZB.out; omega
              have k7 : ¬ Q = pp := by have := HZB.out; omega
              have k8 : b1 - b = z := by omega
              have k9 : b ≤ b1 := by omega
              have k10 : b1 ≤ zz := by omega
              have k11 : pp ≤ Q := by omega
              have HQ0 := hid hq
              clear hrow9 hoth9 hbel9 m1 m2 m3 m4 m5 m6 m7 m8 v1 v2 v3 v4 v5 v6 v7 v8 v9
              go_wp2_with fail
              go_roundw
              case rel => exact ⟨q + 1, _, by omega, by go_num, HRN, HON, HFN, HXN, HLN2⟩
              case measure => simp [intOf]; omega
            · obtain rfl : q = z := by omega
              have HON : Hid (∀ r c, r < D → c < D → oi (r * D + c) = mtV B K A (L.take (s + 1)) r c) := by
                have := HOI.out
                rw [HZZ.out] at this
                show ∀ r c, r < D → c < D → oi (r * D + c) = mtV B K A (L.take (s + 1)) r c
                rw [HMT.out]
                exact this
              go_wp2_with fail
              go_roundw
              case rel => exact ⟨s + 1, oi, by omega, by go_num, HRI, HON, HFI2⟩
              case measure => simp [intOf]; omega
        · obtain rfl : s = S := by omega
          have HOE : Hid (∀ i j, i < D → j < D → o (i * D + j) = mtV B K A L i j) := by
            have := HO.out
            rw [List.take_of_length_le (Nat.le_of_eq hS.out)] at this
            exact this
          have HRS := hid (HRES.out wr g o HRW.out HOE.out)
          obtain ⟨z0, z1, z2⟩ := mcells_of HF.out.2.2.2.1
          obtain ⟨r0, r1, r2⟩ := mcells_of HF.out.2.2.1
          have fz := frzM HF.out.2.2.1
          go_wp2_with fail
          refine bodyPost_ret (v := .tuple #[.agg #[.int .i64 D, .int .i64 D, .slice (some ⟨g, 0, none⟩) Q Q], .int .i64 0]) (by simp [results, Try.results17, go_sem, r0, r1, r2]) rfl ⟨⟨D, D, some ⟨g, 0, none⟩, Q, Q, rfl, ?_⟩, ?_⟩
          · exact ResM.sto HRS.out HF.out.2.2.1
          · have := StoM.below (r := D) (c := D) (sa := some ⟨g, 0, none⟩) (n := Q) (cap := Q) HF.out.1 HRL.out
            first | exact this | (rw [hmb'] at this; exact this)
  · have HE0 := hid hE0
    rw [laE_err hE0]
    obtain ⟨E, hE⟩ : ∃ t, dmE n K A N F = t := ⟨_, rfl⟩
    rw [hE] at HDM HE0
    rw [hE]
    have hne : (E != 0) = true := by have := HE0.out; simpa using this
    clear h hn hE hE0
    go_enter Try.func17, Try.ntmps17
    go_wp2_with fail
    refine (HDM.out _ HB.out).mono ?_
    rintro e w1 ⟨rfl, hb⟩
    have HB1 := hid (HB.out.trans (hb.mono HB.out.size))
    have HR1 := hid (blkM HR.out hb)
    obtain ⟨r0, r1, r2⟩ := mcells_of HR1.out
    have fz := frzM HR1.out
    clear hb c0
    go_wp2_with fail
    refine bodyPost_ret (v := .tuple #[.agg #[.int .i64 0, .int .i64 0, .slice none 0 0], .int .i64 E]) (by simp [results, Try.results17, go_sem, r0, r1, r2]) rfl ⟨⟨0, 0, none, 0, 0, rfl, pk_no HE0.out⟩, ?_⟩
    have := StoM.below (r := 0) (c := 0) (sa := none) (n := 0) (cap := 0) HB1.out HRL.out
    first | exact this | (rw [hmb'] at this; exact this)
end Go.Proofs.Ytggiklghcnojiaa
