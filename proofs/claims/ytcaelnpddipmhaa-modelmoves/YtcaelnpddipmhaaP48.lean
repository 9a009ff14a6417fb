
/- The document's blocks, of any motion. -/
import Derived.Test.YtcaelnpddipmhaaP46
import Derived.Test.YtcaelnpddipmhaaP47
namespace Go.Proofs.Ytcaelnpddipmhaa
open Go.RowKit Go.IntWalk

/-- The reckoning of one number's place. -/
theorem one_places {f z D r c : Nat} (hz : 1 ≤ z ∧ z ≤ 3) (hfz : f + z ≤ D) (hD : D ≤ 12) (hr : r < z) (hc : c < z) : ∃ fr fc rz qq pp Q zz : Nat, f + r = fr ∧ f + c = fc ∧ r * z = rz ∧ r * z + c = qq ∧ (f + r) * D + (f + c) = pp ∧ D * D = Q ∧ z * z = zz ∧ fr < 12 ∧ fc < 12 ∧ rz ≤ 6 ∧ qq < zz ∧ zz ≤ 9 ∧ pp < Q ∧ Q ≤ 144 ∧ fr * D + fc = pp ∧ (f : Int) + (r : Int) = (fr : Int) ∧ (f : Int) + (c : Int) = (fc : Int) ∧ (r : Int) * (z : Int) = (rz : Int) ∧ (rz : Int) + (c : Int) = (qq : Int) := by
  refine ⟨_, _, _, _, _, _, _, rfl, rfl, rfl, rfl, rfl, rfl, rfl, ?_⟩
  have a1 : r * z ≤ 2 * 3 := Nat.mul_le_mul (by omega) hz.2
  have a2 : z * z ≤ 3 * 3 := Nat.mul_le_mul hz.2 hz.2
  have a3 : D * D ≤ 12 * 12 := Nat.mul_le_mul hD hD
  exact ⟨by omega, by omega, by omega, place_lt hr hc, by omega, place_lt (by omega) (by omega), by omega, rfl, by simp, by simp, by simp, by simp⟩
theorem at_step {u z : Int} {at0 f a zn : Nat} (h0 : u = (at0 : Int)) (hz : z = (zn : Int)) (hf : u + (a : Int) * z = (f : Int)) (h1 : f ≤ 12) (h2 : zn ≤ 3) : (f : Int) + (zn : Int) = ((f + zn : Nat) : Int) ∧ IntKind.i64.wrap (((f + zn : Nat) : Int)) = ((f + zn : Nat) : Int) ∧ u + ((a + 1 : Nat) : Int) * z = ((f + zn : Nat) : Int) := by
  refine ⟨by simp, wrapM _ (by omega), ?_⟩
  rw [Int.natCast_add, Int.add_mul, Int.natCast_add, ← hz]
  omega
theorem over_ok (D Q g : Nat) (o : Nat → Nat) (w : World) (hQ : Q ≤ 144) (hr : w.rowIs g 23 Q (fun k => .float .f64 (o k))) (hg : ∀ k, k < Q → gdW (o k)) : Calls Try.prog 35 #[.agg #[.int .i64 D, .int .i64 D, .slice (some ⟨g, 0, none⟩) Q Q]] w fun e w' => e = .returned (.tuple #[.agg #[.int .i64 D, .int .i64 D, .slice (some ⟨g, 0, none⟩) Q Q], .int .i64 0]) ∧ Below w.heap.size w w' := by
  have := Over_any D D Q (some ⟨g, 0, none⟩) Q o w (row_fn hr (fun k hk => (hg k hk).1) (by omega)) (by omega)
  rw [if_pos (finF_of (fun k hk => (hg k hk).2)), if_pos (finF_of (fun k hk => (hg k hk).2))] at this
  exact this.mono fun e w' h => ⟨h.1, h.2.2⟩
theorem ax_snoc (A : Nat → Int) (i a : Nat) : axP A i ++ (List.range (a + 1)).map (fun j => (i, j)) = (axP A i ++ (List.range a).map (fun j => (i, j))) ++ [(i, a)] := by
  rw [List.range_succ, List.map_append, List.append_assoc]
  rfl
set_option maxRecDepth 4000 in
set_option maxHeartbeats 16000000 in
theorem blocks_any (u : Nat) (hu : u ≤ 2) (sa : Option Addr) (n cap : Nat) (K A : Nat → Int) (N F : Nat → Nat) (tk : Int) (w : World) (h : PtF w sa n K A N F) (hn : n ≤ 4398046511104) : Calls Try.prog 21 #[.agg #[.slice sa n cap], .int .i64 tk, .int .i64 (u : Int)] w fun e w' => (∃ X0 X1 X2 X3 X4, e = .returned (.tuple #[.agg #[.int .i64 X0, .int .i64 X1, .slice X2 X3 X4], .int .i64 (laE (dmE n K A N F) tk)]) ∧ ResM (laE (dmE n K A N F) tk) (dmV n K A N F).toNat (dmV n K A N F).toNat (laV u n K A N F tk) w' X0 X1 X2 X3 X4) ∧ Below w.heap.size w w' := by
  obtain ⟨t1, t2, t3, t4⟩ := two_b w (MoBox sa n cap) (MBox 0 0 none 0 0)
  have HDM := hid (fun W (hW : Below w.heap.size w W) => rDim_mo sa n cap K A N F W (h.below hW) hn)
  have HSE := hid (fun W => rSeconds_any tk W)
  have hst := fstoreM
  obtain ⟨V, hV⟩ : ∃ V, Hid ((w.alloc (MoBox sa n cap)).alloc (MBox 0 0 none 0 0) = V) := ⟨_, rfl⟩
  rw [hV.out] at t1 t2 t3 t4
  have hV' := hV.out
  have HB := hid t3
  have HR := hid t2
  have HM := hid t1
  have c0 := mocell_of t1
  unfold MoBox MBox at hV'
  obtain ⟨mb, hmb⟩ : ∃ t, Hid (w.heap.size = t) := ⟨_, rfl⟩
  obtain ⟨rb, hrb⟩ : ∃ t, Hid (mb + 1 = t) := ⟨_, rfl⟩
  rw [hmb.out] at HR HM c0
  rw [hrb.out] at HR
  have hmb' := hmb.out
  have hrb' := hrb.out
  have HRL : Hid (w.heap.size ≤ rb) := by have := hmb.out; have := hrb.out; show w.heap.size ≤ rb; omega
  clear t1 t2 t3 t4
  by_cases hE0 : dmE n K A N F = 0
  · by_cases hT : tk < 0 ∨ 1125899906842624 < tk
    · have HEE : Hid (laE (dmE n K A N F) tk = 1) := by show _ = _; rw [hE0]; exact laE_bad hT
      rw [HEE.out]
      rw [hE0] at HDM
      clear hE0 h hn HEE
      by_cases hT1 : tk < 0
      · clear hT
        go_enter Try.func21, Try.ntmps21
        go_wp2_with fail
        refine (HDM.out _ HB.out).mono ?_
        rintro e w1 ⟨rfl, hb⟩
        have HB1 := hid (HB.out.trans (hb.mono HB.out.size))
        have HR1 := hid (blkM HR.out hb)
        obtain ⟨r0, r1, r2⟩ := mcells_of HR1.out
        have fz := frzM HR1.out
        clear hb c0
        go_wp2_with fail
        refine bodyPost_ret (v := .tuple #[.agg #[.int .i64 0, .int .i64 0, .slice none 0 0], .int .i64 1]) (by simp [results, Try.results21, go_sem, r0, r1, r2]) rfl ⟨⟨0, 0, none, 0, 0, rfl, pk_no (by decide)⟩, ?_⟩
        have := StoM.below (r := 0) (c := 0) (sa := none) (n := 0) (cap := 0) HB1.out HRL.out
        first | exact this | (rw [hmb'] at this; exact this)
      · have hT2 : 1125899906842624 < tk := by omega
        clear hT
        go_enter Try.func21, Try.ntmps21
        go_wp2_with fail
        refine (HDM.out _ HB.out).mono ?_
        rintro e w1 ⟨rfl, hb⟩
        have HB1 := hid (HB.out.trans (hb.mono HB.out.size))
        have HR1 := hid (blkM HR.out hb)
        obtain ⟨r0, r1, r2⟩ := mcells_of HR1.out
        have fz := frzM HR1.out
        clear hb c0
        go_wp2_with fail
        refine bodyPost_ret (v := .tuple #[.agg #[.int .i64 0, .int .i64 0, .slice none 0 0], .int .i64 1]) (by simp [results, Try.results21, go_sem, r0, r1, r2]) rfl ⟨⟨0, 0, none, 0, 0, rfl, pk_no (by decide)⟩, ?_⟩
        have := StoM.below (r := 0) (c := 0) (sa := none) (n := 0) (cap := 0) HB1.out HRL.out
        first | exact this | (rw [hmb'] at this; exact this)
    · have HEE : Hid (laE (dmE n K A N F) tk = 0) := by show _ = _; rw [hE0]; exact laE_ok hT
      rw [HEE.out]
      have e1 : seV tk = secW tk := by unfold seV; rw [if_neg (by omega)]
      have e2 : seE2 tk = 0 := by unfold seE2; rw [if_neg (by omega)]
      rw [e1, e2] at HSE
      obtain ⟨hord, hup, hup0⟩ := sec_pos tk (by omega) (by omega)
      obtain ⟨n0, y1, y2, y3, y4, y5⟩ := dm_zero hE0
      obtain ⟨y6, y7⟩ : 1 ≤ dmV n K A N F ∧ dmV n K A N F ≤ 12 := by rw [y3]; exact ⟨y5, y2⟩
      obtain ⟨pb, po, rfl, hbl, hcl⟩ := h.2 n0
      have HC := hid (fun W (hW : Below w.heap.size w W) i hi => pt_at hbl hcl hW i hi)
      have HFI := hid (fun e he => @fst_in K A N F n hE0 e he)
      have HUP : Hid (∀ i, i < n → Up (N i) 1123 ∧ Up (F i) 1123) := fun i hi => pt_up (h.1 i hi).2.2.1 (h.1 i hi).2.2.2 (scE_all y1 i hi)
      have HZK : Hid (∀ i, i < n → szK (K i) ≠ 0) := fun i hi => by have := (ptS_in (scE_all y1 i hi)).2.2.2; omega
      obtain ⟨B, HBI, HBV, HGD⟩ : ∃ B : Nat → List Nat, Hid (∀ i, i < n → (B i).length = (szK (K i)).toNat * (szK (K i)).toNat ∧ ∀ W, Calls Try.prog 33 #[.agg #[.int .i64 (K i), .int .i64 (A i), .float .f64 (N i), .float .f64 (F i)], .float .f64 (secW tk), .int .i64 (u : Int)] W fun r w' => BlR (B i) W r w') ∧ Hid (laV u n K A N F tk = fun i j => canonOf (mtV B K A (axP A n) i j)) ∧ Hid (∀ r c, gdW (mtV B K A (axP A n) r c)) := by
        refine ⟨fun i => bl u (K i) (N i) (F i) (secW tk), fun i hi => ⟨bl_len u (K i) (N i) (F i) (secW tk) (HZK.out i hi), fun W => block_any u hu (K i) (A i) (N i) (F i) (secW tk) W (HZK.out i hi) (HUP.out i hi).1 (HUP.out i hi).2 hup hup0⟩, rfl, fun r c => mt_gd (fun e he x hx => ?_) r c⟩
        have hlt := (axP_mem.1 he).1
        exact bl_gd u (K e.1) (N e.1) (F e.1) (secW tk) (HUP.out _ hlt).1 (HUP.out _ hlt).2 hup hup0 x hx
      rw [HBV.out]
      obtain ⟨uI, hu2⟩ : ∃ q, ((u : Nat) : Int) = q := ⟨_, rfl⟩
      rw [hu2] at HBI
      rw [hu2]
      obtain ⟨D, hD⟩ := Int.eq_ofNat_of_zero_le (show 0 ≤ dmV n K A N F by omega)
      rw [hE0, hD] at HDM
      rw [hD] at y6 y7 HFI
      rw [hD, Int.toNat_natCast]
      rw [Int.toNat_natCast] at HFI
      have hD12 : D ≤ 12 := by omega
      have HSZ := hid (fun i hi => ptS_in (scE_all y1 i hi))
      have HUS : Hid (∀ i, i ≤ n → 0 ≤ uS (ptS K A) i) := fun i hi => by have := y4 i hi; omega
      obtain ⟨dd, hdd⟩ : ∃ q, secW tk = q := ⟨_, rfl⟩
      rw [hdd] at HSE HBI
      obtain ⟨Q, hQ⟩ : ∃ q, Hid (D * D = q) := ⟨_, rfl⟩
      have HQ144 : Hid (Q ≤ 144) := by
        have a3 : D * D ≤ 12 * 12 := Nat.mul_le_mul hD12 hD12
        have := hQ.out
        show Q ≤ 144
        omega
      have HZE := hid (fun W => rRaw_any D D (by omega) (by omega) W)
      unfold MV at HZE
      rw [hQ.out] at HZE
      have HRES : Hid (∀ (W : World) (g : Nat) (o : Nat → Nat), W.rowIs g 23 Q (fun k => .float .f64 (o k)) → (∀ i j, i < D → j < D → o (i * D + j) = mtV B K A (axP A n) i j) → ResM 0 D D (fun i j => canonOf (mtV B K A (axP A n) i j)) W D D (some ⟨g, 0, none⟩) Q Q) := fun W g o h1 h2 => mt_res hD12 hQ.out h1 h2 HGD.out
      have HOV : Hid (∀ (W : World) (g : Nat) (o : Nat → Nat), W.rowIs g 23 Q (fun k => .float .f64 (o k)) → (∀ i j, i < D → j < D → o (i * D + j) = mtV B K A (axP A n) i j) → Calls Try.prog 35 #[.agg #[.int .i64 D, .int .i64 D, .slice (some ⟨g, 0, none⟩) Q Q]] W fun e w' => e = .returned (.tuple #[.agg #[.int .i64 D, .int .i64 D, .slice (some ⟨g, 0, none⟩) Q Q], .int .i64 0]) ∧ Below W.heap.size W w') := fun W g o h1 h2 => over_ok D Q g o W HQ144.out h1 (fun k hk => by
        rw [← hQ.out] at hk
        obtain ⟨q1, q2, q3⟩ := split_k hk
        rw [← q3, h2 _ _ q1 q2]
        exact HGD.out _ _)
      have HNN := hid hn
      have HT1 : Hid (¬ tk < 0) := by show ¬ _; omega
      have hT1 := HT1.out
      have hT2 : ¬ 1125899906842624 < tk := by omega
      clear e1 e2 hT hE0 h hn hup hup0 hord y1 y2 y3 y4 y5 y6 hD hcl HEE HBV HUP HZK hdd HGD hu hu2
      go_enter Try.func21, Try.ntmps21
      go_wp2_with fail
      refine (HDM.out _ HB.out).mono ?_
      rintro e w1 ⟨rfl, hb⟩
      have HB1 := hid (HB.out.trans (hb.mono HB.out.size))
      have HR1 := hid (blkM HR.out hb)
      have HM1 := hid (blkM HM.out hb)
      clear hb c0
      go_wp2_with fail
      refine (HSE.out _).mono ?_
      rintro e w2 ⟨rfl, hw⟩
      rw [hw]
      clear hw
      go_wp2_with fail
      refine (HZE.out _).mono ?_
      rintro e w3 ⟨rfl, hrow, hb⟩
      have HG3 := hid hrow
      have HB3 := hid (HB1.out.trans (hb.mono HB1.out.size))
      have HR3 := hid (blkM HR1.out hb)
      have HM3 := hid (blkM HM1.out hb)
      obtain ⟨g, hgg⟩ : ∃ t, Hid (w1.heap.size + 1 = t) := ⟨_, rfl⟩
      rw [hgg.out] at HG3
      have hgg' := hgg.out
      have HNE : Hid (g ≠ mb ∧ g ≠ rb ∧ w.heap.size ≤ g ∧ g < w3.heap.size) := by
        have e1 := (Array.getElem?_eq_some_iff.1 HR1.out).1; have e2 := hgg.out; have e3 := (Array.getElem?_eq_some_iff.1 HM1.out).1; have e5 := HB1.out.size; have e6 := hrb.out; have e7 := hmb.out; have e8 := HG3.out.lt
        show _ ∧ _ ∧ _ ∧ _
        omega
      have hal : Below w3.heap.size w3 (w3.alloc (MBox D D (some ⟨g, 0, none⟩) Q Q)) := (Below.refl _ _).alloc (Nat.le_refl _) _
      have HB4 := hid (HB3.out.trans (hal.mono HB3.out.size))
      have HM4 := hid (blkM HM3.out hal)
      have HR4 := hid (blkM HR3.out hal)
      have HO4 : Hid ((w3.alloc (MBox D D (some ⟨g, 0, none⟩) Q Q)).heap[w3.heap.size]? = some (MBox D D (some ⟨g, 0, none⟩) Q Q)) := nblkM _ _
      have HG4 : Hid ((w3.alloc (MBox D D (some ⟨g, 0, none⟩) Q Q)).rowIs g 23 Q (fun _ => .float .f64 0)) := HG3.out.of_block (hal.block _ HNE.out.2.2.2)
      obtain ⟨V4, hV4⟩ : ∃ V, Hid (w3.alloc (MBox D D (some ⟨g, 0, none⟩) Q Q) = V) := ⟨_, rfl⟩
      rw [hV4.out] at HB4 HM4 HR4 HO4 HG4
      have hV4' := hV4.out
      unfold MBox at hV4'
      obtain ⟨ob, hob⟩ : ∃ t, Hid (w3.heap.size = t) := ⟨_, rfl⟩
      rw [hob.out] at HO4
      have hob' := hob.out
      have HNG : Hid (mb ≠ g ∧ rb ≠ g ∧ ob ≠ g ∧ mb ≠ g) := by
        have a := HNE.out; have b := hob.out
        show _ ∧ _ ∧ _ ∧ _
        omega
      have HF4 : Hid (FrU w V4 mb rb ob mb (MoBox (some ⟨pb, po, none⟩) n cap) (MBox 0 0 none 0 0) (MBox D D (some ⟨g, 0, none⟩) Q Q) (MoBox (some ⟨pb, po, none⟩) n cap)) := ⟨HB4.out, HM4.out, HR4.out, HO4.out, HM4.out⟩
      clear hrow hb hal HB4 HM4 HR4 HO4
      go_wp2_with fail
      go_loopw [13, 14] (fun fv iv wr => ∃ (i at0 : Nat) (o : Nat → Nat), i ≤ n ∧ iv = .int .i64 i ∧ fv = .int .i64 at0 ∧ Hid (uS (ptS K A) i = (at0 : Int)) ∧ Hid (wr.rowIs g 23 Q (fun k => .float .f64 (o k))) ∧ Hid (∀ r c, r < D → c < D → o (r * D + c) = mtV B K A (axP A i) r c) ∧ Hid (FrU w wr mb rb ob mb (MoBox (some ⟨pb, po, none⟩) n cap) (MBox 0 0 none 0 0) (MBox D D (some ⟨g, 0, none⟩) Q Q) (MoBox (some ⟨pb, po, none⟩) n cap))) (fun _ iv _ => n - (intOf iv).toNat)
      case atStart => exact ⟨0, 0, fun _ => 0, Nat.zero_le _, rfl, rfl, rfl, HG4, fun _ _ _ _ => rfl, HF4⟩
      case round =>
        obtain ⟨i, at0, o, hi, rfl, rfl, HAT, HRW, HO, HF⟩ := hrel
        have c0 := mocell_of HF.out.2.1
        by_cases hlt : i < n
        · have hiI : (i : Int) < (n : Int) := by omega
          have hiN : i ≤ 4398046511104 := by have := HNN.out; omega
          have hi0 : (0 : Int) ≤ (i : Int) := by omega
          obtain ⟨_, _, hA, hz1, hz3⟩ := HSZ.out i hlt
          obtain ⟨hblen, hcall⟩ := HBI.out i hlt
          have hpt := HC.out wr HF.out.1 i hlt
          have HFA : Hid (∀ a : Nat, (a : Int) < A i → uS (ptS K A) i + (a : Int) * szK (K i) = ((fsT K A (i, a) : Nat) : Int) ∧ fsT K A (i, a) + (szK (K i)).toNat ≤ D) := fun a ha => by
            obtain ⟨x1, _, _, _, x5⟩ := HFI.out (i, a) (axP_mem.2 ⟨hlt, ha⟩)
            exact ⟨x1, x5⟩
          have HMT : Hid (∀ a : Nat, mtV B K A (axP A i ++ (List.range (a + 1)).map (fun j => (i, j))) = pU (mtV B K A (axP A i ++ (List.range a).map (fun j => (i, j)))) (fsT K A (i, a)) (szK (K i)).toNat (B i) ((szK (K i)).toNat * (szK (K i)).toNat)) := fun a => by rw [ax_snoc, mt_snoc]; rfl
          have HAX : Hid (∀ a : Nat, (a : Int) = A i → axP A i ++ (List.range a).map (fun j => (i, j)) = axP A (i + 1)) := fun a ha => by
            show _ = axP A i ++ (List.range (A i).toNat).map (fun j => (i, j))
            rw [← ha, Int.toNat_natCast]
          have HUN : Hid (uS (ptS K A) (i + 1) = uS (ptS K A) i + A i * szK (K i)) := rfl
          have HSZK := hid (fun W => size_any (K i) W)
          obtain ⟨z, hz⟩ := Int.eq_ofNat_of_zero_le (show 0 ≤ szK (K i) by omega)
          rw [hz] at hz1 hz3 hblen HFA HMT HUN HSZK
          rw [Int.toNat_natCast] at hblen HMT HFA
          rw [HAT.out] at HFA HUN
          obtain ⟨k1, hk1⟩ : ∃ q, K i = q := ⟨_, rfl⟩
          obtain ⟨a1, ha1⟩ : ∃ q, A i = q := ⟨_, rfl⟩
          obtain ⟨n1, hn1⟩ : ∃ q, N i = q := ⟨_, rfl⟩
          obtain ⟨f1, hf1⟩ : ∃ q, F i = q := ⟨_, rfl⟩
          obtain ⟨l, hl⟩ : ∃ q, B i = q := ⟨_, rfl⟩
          rw [hk1, ha1, hn1, hf1, hl] at hcall
          rw [hk1] at HSZK
          rw [hk1, ha1, hn1, hf1] at hpt
          rw [hl] at hblen HMT
          rw [ha1] at HFA HAX HUN hA
          obtain ⟨zz, hzz⟩ : ∃ q, z * z = q := ⟨_, rfl⟩
          rw [hzz] at hblen HMT
          have HLL := hid hblen
          have HZZ := hid hzz
          have HZB : Hid (1 ≤ z ∧ z ≤ 3) := by show _ ∧ _; omega
          have HAB := hid hA
          have HPH : Hid (∀ W, Calls Try.prog 33 #[.agg #[.int .i64 k1, .int .i64 a1, .float .f64 n1, .float .f64 f1], .float .f64 dd, .int .i64 uI] W fun r w' => ∃ bb, r = .returned (.slice (some ⟨bb, 0, none⟩) zz zz) ∧ w'.heap[bb]? = some (BlO l) ∧ W.heap.size ≤ bb ∧ Below W.heap.size W w') := fun W => (hcall W).mono fun r w' hr => by
            obtain ⟨bb, q1, q2, q3, q4⟩ := hr
            rw [HLL.out] at q1
            exact ⟨bb, q1, q2, q3, q4⟩
          unfold PtC at hpt
          obtain ⟨p0, p1, p2, p3⟩ := hpt
          have hal : Below wr.heap.size wr (wr.alloc (PBox k1 a1 n1 f1)) := (Below.refl _ _).alloc (Nat.le_refl _) _
          have HF6 := hid (HF.out.call hal)
          have HX6 : Hid ((wr.alloc (PBox k1 a1 n1 f1)).heap[wr.heap.size]? = some (PBox k1 a1 n1 f1)) := nblkM _ _
          have HR6 : Hid ((wr.alloc (PBox k1 a1 n1 f1)).rowIs g 23 Q (fun k => .float .f64 (o k))) := HRW.out.of_block (hal.block _ HRW.out.lt)
          have HNA0 : Hid (g < wr.heap.size) := HRW.out.lt
          obtain ⟨V6, hV6⟩ : ∃ V, Hid (wr.alloc (PBox k1 a1 n1 f1) = V) := ⟨_, rfl⟩
          rw [hV6.out] at HF6 HX6 HR6
          have hV6' := hV6.out
          unfold PBox at hV6'
          obtain ⟨ab, hab⟩ : ∃ t, Hid (wr.heap.size = t) := ⟨_, rfl⟩
          rw [hab.out] at HX6 HNA0
          have hab' := hab.out
          have HNA : Hid (ab ≠ g) := by have := HNA0.out; show ab ≠ g; omega
          obtain ⟨q0, q1, q2, q3⟩ := ptcells_of HX6.out
          clear hal hk1 ha1 hn1 hf1 hl hzz hblen hcall hz hz1 hz3 hA
          go_wp2_with fail
          refine (HSZK.out _).mono ?_
          rintro e u1 ⟨rfl, hw⟩
          rw [hw]
          clear hw u1
          go_wp2_with fail
          refine (HPH.out _).mono ?_
          rintro e u2 ⟨bb, rfl, hl4, hbb, hb⟩
          have HF8 := hid (HF6.out.call hb)
          have HX8 := hid (blkM HX6.out hb)
          have HR8 : Hid (u2.rowIs g 23 Q (fun k => .float .f64 (o k))) := HR6.out.of_block (hb.block _ HR6.out.lt)
          have HL8 := hid hl4
          have HNB : Hid (bb ≠ g) := by have := HR6.out.lt; show bb ≠ g; omega
          clear hb hl4 hbb p0 p1 p2 p3 q0 q1 q2 q3 c0
          go_wp2_with fail
          go_loopw [13, 18] (fun fv av wi => ∃ (a f : Nat) (o : Nat → Nat), (a : Int) ≤ a1 ∧ av = .int .i64 a ∧ fv = .int .i64 f ∧ Hid ((at0 : Int) + (a : Int) * (z : Int) = (f : Int)) ∧ Hid (wi.rowIs g 23 Q (fun k => .float .f64 (o k))) ∧ Hid (∀ r c, r < D → c < D → o (r * D + c) = mtV B K A (axP A i ++ (List.range a).map (fun j => (i, j))) r c) ∧ Hid (FrU w wi mb rb ob mb (MoBox (some ⟨pb, po, none⟩) n cap) (MBox 0 0 none 0 0) (MBox D D (some ⟨g, 0, none⟩) Q Q) (MoBox (some ⟨pb, po, none⟩) n cap)) ∧ Hid (wi.heap[ab]? = some (PBox k1 a1 n1 f1)) ∧ Hid (wi.heap[bb]? = some (BlO l))) (fun _ av _ => a1.toNat - (intOf av).toNat)
          case atStart => exact ⟨0, at0, o, by have := HAB.out; omega, rfl, rfl, by show (at0 : Int) + (0 : Int) * (z : Int) = (at0 : Int); omega, HR8, by show ∀ r c, r < D → c < D → o (r * D + c) = mtV B K A (axP A i ++ (List.range 0).map (fun j => (i, j))) r c; simpa using HO.out, HF8, HX8, HL8⟩
          case round =>
            obtain ⟨a, f, oa, ha, rfl, rfl, HFE, HRA, HOA, HFA2, HXA, HLA⟩ := hrel
            obtain ⟨q0, q1, q2, q3⟩ := ptcells_of HXA.out
            have ha12 : a ≤ 12 := by have := HAB.out; omega
            by_cases hal : (a : Int) < a1
            · obtain ⟨x1, x2⟩ := HFA.out a hal
              have hfe : fsT K A (i, a) = f := by have := HFE.out; omega
              have HMA := hid (HMT.out a)
              rw [hfe] at x2 HMA
              have HFZ := hid x2
              obtain ⟨M, hM⟩ : ∃ q, mtV B K A (axP A i ++ (List.range a).map (fun j => (i, j))) = q := ⟨_, rfl⟩
              rw [hM] at HMA HOA
              obtain ⟨s1, s2, s3⟩ := at_step (u := (at0 : Int)) (z := (z : Int)) (at0 := at0) (zn := z) rfl rfl HFE.out (by omega) HZB.out.2
              have HS3 := hid s3
              obtain ⟨f2, hf2⟩ : ∃ q, Hid (f + z = q) := ⟨_, rfl⟩
              rw [hf2.out] at s1 s2 HS3
              have HHA := hid ha
              clear x1 x2 hfe hM s3 ha
              go_wp2_with fail
              clear q0 q1 q2 q3
              go_loopw [19] (fun rv wi => ∃ (r : Nat) (o : Nat → Nat), r ≤ z ∧ rv = .int .i64 r ∧ Hid (wi.rowIs g 23 Q (fun k => .float .f64 (o k))) ∧ Hid (∀ i j, i < D → j < D → o (i * D + j) = pU M f z l (r * z) i j) ∧ Hid (FrU w wi mb rb ob mb (MoBox (some ⟨pb, po, none⟩) n cap) (MBox 0 0 none 0 0) (MBox D D (some ⟨g, 0, none⟩) Q Q) (MoBox (some ⟨pb, po, none⟩) n cap)) ∧ Hid (wi.heap[ab]? = some (PBox k1 a1 n1 f1)) ∧ Hid (wi.heap[bb]? = some (BlO l))) (fun rv _ => z - (intOf rv).toNat)
              case atStart => exact ⟨0, oa, Nat.zero_le _, rfl, HRA, by show ∀ i j, i < D → j < D → oa (i * D + j) = pU M f z l (0 * z) i j; rw [Nat.zero_mul, pU_zero]; exact HOA.out, HFA2, HXA, HLA⟩
              case round =>
                obtain ⟨r, or, hr, rfl, HRR, HOR, HFR, HXR, HLR⟩ := hrel
                have hr3 : r ≤ 3 := by have := HZB.out; omega
                by_cases hrl : r < z
                · have hrI : (r : Int) < (z : Int) := by omega
                  have HRH := hid hr
                  clear hr
                  go_wp2_with fail
                  go_loopw [20] (fun cv wi => ∃ (c : Nat) (o : Nat → Nat), c ≤ z ∧ cv = .int .i64 c ∧ Hid (wi.rowIs g 23 Q (fun k => .float .f64 (o k))) ∧ Hid (∀ i j, i < D → j < D → o (i * D + j) = pU M f z l (r * z + c) i j) ∧ Hid (FrU w wi mb rb ob mb (MoBox (some ⟨pb, po, none⟩) n cap) (MBox 0 0 none 0 0) (MBox D D (some ⟨g, 0, none⟩) Q Q) (MoBox (some ⟨pb, po, none⟩) n cap)) ∧ Hid (wi.heap[ab]? = some (PBox k1 a1 n1 f1)) ∧ Hid (wi.heap[bb]? = some (BlO l))) (fun cv _ => z - (intOf cv).toNat)
                  case atStart => exact ⟨0, or, Nat.zero_le _, rfl, HRR, HOR, HFR, HXR, HLR⟩
                  case round =>
                    obtain ⟨c, oc, hc, rfl, HRC, HOC, HFC, HXC, HLC⟩ := hrel
                    have hc3 : c ≤ 3 := by have := HZB.out; omega
                    by_cases hcl : c < z
                    · have hcI : (c : Int) < (z : Int) := by omega
                      obtain ⟨fr, fc, rz, qq, pp, Qq, zq, m1, m2, m3, m4, m5, m6, m7, v1, v2, v3, v4, v5, v6, v7, v8, i1, i2, i3, i4⟩ := one_places HZB.out HFZ.out hD12 hrl hcl
                      obtain rfl : zz = zq := HZZ.out.symm.trans m7
                      obtain rfl : Q = Qq := hQ.out.symm.trans m6
                      have HON := hid (pU_one HFZ.out hrl hcl HOC.out)
                      rw [m5, m4] at HON
                      have HON2 : Hid (∀ i j, i < D → j < D → (fun t => if t = pp then l.getD qq 0 else oc t) (i * D + j) = pU M f z l (r * z + (c + 1)) i j) := by
                        show ∀ i j, i < D → j < D → (fun t => if t = pp then l.getD qq 0 else oc t) (i * D + j) = pU M f z l (r * z + (c + 1)) i j
                        rw [show r * z + (c + 1) = qq + 1 by omega]
                        exact HON.out
                      have HCL : Hid (∀ W : World, W.heap[bb]? = some (BlO l) → W.cell? ⟨bb, qq, none⟩ = some (.float .f64 (l.getD qq 0))) := fun W hW => blo_cell hW (by have := HLL.out; omega)
                      obtain ⟨xv, hxv⟩ : ∃ q, l.getD qq 0 = q := ⟨_, rfl⟩
                      rw [hxv] at HCL HON2
                      have HPUT : Hid (∀ W : World, W.rowIs g 23 Q (fun k => .float .f64 (oc k)) → Calls Try.prog 34 #[.agg #[.int .i64 D, .int .i64 D, .slice (some ⟨g, 0, none⟩) Q Q], .int .i64 fr, .int .i64 fc, .float .f64 xv] W fun e w' => e = .returned (.tuple #[]) ∧ w' = (W.alloc (MBox D D (some ⟨g, 0, none⟩) Q Q)).setCell ⟨g, pp, none⟩ (.float .f64 xv)) := fun W hR => by
                        have := Put_any D g D Q Q fr fc xv (oc pp) W (by rw [v8]; exact hR.cell (i := pp) v6) (by rw [v8]; exact hR.frozen pp) hR.lt (by omega) (by omega) (by omega) (by rw [v8]; exact v6)
                        rw [v8] at this
                        exact this
                      have j1 := wrapM fr (by omega)
                      have j2 := wrapM fc (by omega)
                      have j3 := wrapM rz (by omega)
                      have j4 := wrapM qq (by omega)
                      have k0 : (0 : Int) ≤ (qq : Int) := by omega
                      have k1' : (qq : Int) < (zz : Int) := by omega
                      have HSS : Hid (∀ W : World, FrU w W mb rb ob mb (MoBox (some ⟨pb, po, none⟩) n cap) (MBox 0 0 none 0 0) (MBox D D (some ⟨g, 0, none⟩) Q Q) (MoBox (some ⟨pb, po, none⟩) n cap) → W.heap[bb]? = some (BlO l) → (W.cell? ⟨ob, 0, none⟩ = some (.int .i64 D) ∧ W.cell? ⟨ob, 1, none⟩ = some (.int .i64 D) ∧ W.cell? ⟨ob, 2, none⟩ = some (.slice (some ⟨g, 0, none⟩) Q Q)) ∧ W.cell? ⟨bb, qq, none⟩ = some (.float .f64 xv)) := fun W x1 x2 => ⟨mcells_of x1.2.2.2.1, HCL.out W x2⟩
                      have HFD := hid HFC.out.drew
                      have HRD : Hid (wr.drew.rowIs g 23 Q (fun k => .float .f64 (oc k))) := HRC.out.of_block rfl
                      have HXD : Hid (wr.drew.heap[ab]? = some (PBox k1 a1 n1 f1)) := HXC.out
                      have HLD : Hid (wr.drew.heap[bb]? = some (BlO l)) := HLC.out
                      have HCC := hid hc
                      clear m1 m2 m3 m4 m5 m6 m7 v1 v2 v3 v4 v5 v6 v7 v8 hxv hc
                      go_wp2_with fail
                      refine wp_region_held_drew (S := fun W => (W.cell? ⟨ob, 0, none⟩ = some (.int .i64 D) ∧ W.cell? ⟨ob, 1, none⟩ = some (.int .i64 D) ∧ W.cell? ⟨ob, 2, none⟩ = some (.slice (some ⟨g, 0, none⟩) Q Q)) ∧ W.cell? ⟨bb, qq, none⟩ = some (.float .f64 xv)) (by kernel_rfl) (HSS.out _ HFD.out HLD.out) (fun hHeld => ?_)
                      refine take_at 0 80 (.agg #[.int .i64 D, .int .i64 D, .slice (some ⟨g, 0, none⟩) Q Q]) rfl rfl (by kernel_rfl) (by kernel_rfl) (by kernel_rfl) (fun _ _ _ h => h) (Or.inl ⟨by rfl, fun w hSw => by (try dsimp only at hSw); go_simp⟩) (by assumption) ?_
                      simp only [Act.put, List.setIfInBounds_toArray, List.set_cons_zero, List.set_cons_succ]
                      refine take_at 1 81 (.int .i64 f) rfl rfl (by kernel_rfl) (by kernel_rfl) (by kernel_rfl) (fun _ _ _ h => h) (Or.inl ⟨by rfl, fun w hSw => by (try dsimp only at hSw); go_simp⟩) (by assumption) ?_
                      simp only [Act.put, List.setIfInBounds_toArray, List.set_cons_zero, List.set_cons_succ]
                      refine take_at 2 82 (.int .i64 r) rfl rfl (by kernel_rfl) (by kernel_rfl) (by kernel_rfl) (fun _ _ _ h => h) (Or.inl ⟨by rfl, fun w hSw => by (try dsimp only at hSw); go_simp⟩) (by assumption) ?_
                      simp only [Act.put, List.setIfInBounds_toArray, List.set_cons_zero, List.set_cons_succ]
                      refine take_at 3 83 (.int .i64 fr) rfl rfl (by kernel_rfl) (by kernel_rfl) (by kernel_rfl) (fun _ _ _ h => h) (Or.inl ⟨by rfl, fun w hSw => by (try dsimp only at hSw); go_simp⟩) (by assumption) ?_
                      simp only [Act.put, List.setIfInBounds_toArray, List.set_cons_zero, List.set_cons_succ]
                      refine take_at 4 84 (.int .i64 f) rfl rfl (by kernel_rfl) (by kernel_rfl) (by kernel_rfl) (fun _ _ _ h => h) (Or.inl ⟨by rfl, fun w hSw => by (try dsimp only at hSw); go_simp⟩) (by assumption) ?_
                      simp only [Act.put, List.setIfInBounds_toArray, List.set_cons_zero, List.set_cons_succ]
                      refine take_at 5 85 (.int .i64 c) rfl rfl (by kernel_rfl) (by kernel_rfl) (by kernel_rfl) (fun _ _ _ h => h) (Or.inl ⟨by rfl, fun w hSw => by (try dsimp only at hSw); go_simp⟩) (by assumption) ?_
                      simp only [Act.put, List.setIfInBounds_toArray, List.set_cons_zero, List.set_cons_succ]
                      refine take_at 6 86 (.int .i64 fc) rfl rfl (by kernel_rfl) (by kernel_rfl) (by kernel_rfl) (fun _ _ _ h => h) (Or.inl ⟨by rfl, fun w hSw => by (try dsimp only at hSw); go_simp⟩) (by assumption) ?_
                      simp only [Act.put, List.setIfInBounds_toArray, List.set_cons_zero, List.set_cons_succ]
                      refine take_at 7 87 (.slice (some ⟨bb, 0, none⟩) zz zz) rfl rfl (by kernel_rfl) (by kernel_rfl) (by kernel_rfl) (fun _ _ _ h => h) (Or.inl ⟨by rfl, fun w hSw => by (try dsimp only at hSw); go_simp⟩) (by assumption) ?_
                      simp only [Act.put, List.setIfInBounds_toArray, List.set_cons_zero, List.set_cons_succ]
                      refine take_at 8 88 (.int .i64 r) rfl rfl (by kernel_rfl) (by kernel_rfl) (by kernel_rfl) (fun _ _ _ h => h) (Or.inl ⟨by rfl, fun w hSw => by (try dsimp only at hSw); go_simp⟩) (by assumption) ?_
                      simp only [Act.put, List.setIfInBounds_toArray, List.set_cons_zero, List.set_cons_succ]
                      refine take_at 9 89 (.int .i64 z) rfl rfl (by kernel_rfl) (by kernel_rfl) (by kernel_rfl) (fun _ _ _ h => h) (Or.inl ⟨by rfl, fun w hSw => by (try dsimp only at hSw); go_simp⟩) (by assumption) ?_
                      simp only [Act.put, List.setIfInBounds_toArray, List.set_cons_zero, List.set_cons_succ]
                      refine take_at 10 90 (.int .i64 rz) rfl rfl (by kernel_rfl) (by kernel_rfl) (by kernel_rfl) (fun _ _ _ h => h) (Or.inl ⟨by rfl, fun w hSw => by (try dsimp only at hSw); go_simp⟩) (by assumption) ?_
                      simp only [Act.put, List.setIfInBounds_toArray, List.set_cons_zero, List.set_cons_succ]
                      refine take_at 11 91 (.int .i64 c) rfl rfl (by kernel_rfl) (by kernel_rfl) (by kernel_rfl) (fun _ _ _ h => h) (Or.inl ⟨by rfl, fun w hSw => by (try dsimp only at hSw); go_simp⟩) (by assumption) ?_
                      simp only [Act.put, List.setIfInBounds_toArray, List.set_cons_zero, List.set_cons_succ]
                      refine take_at 12 92 (.int .i64 qq) rfl rfl (by kernel_rfl) (by kernel_rfl) (by kernel_rfl) (fun _ _ _ h => h) (Or.inl ⟨by rfl, fun w hSw => by (try dsimp only at hSw); go_simp⟩) (by assumption) ?_
                      simp only [Act.put, List.setIfInBounds_toArray, List.set_cons_zero, List.set_cons_succ]
                      refine take_at 13 93 (.pointer (some ⟨bb, qq, none⟩)) rfl rfl (by kernel_rfl) (by kernel_rfl) (by kernel_rfl) (fun _ _ _ h => h) (Or.inl ⟨by rfl, fun w hSw => by (try dsimp only at hSw); go_simp⟩) (by assumption) ?_
                      simp only [Act.put, List.setIfInBounds_toArray, List.set_cons_zero, List.set_cons_succ]
                      refine take_at 14 94 (.float .f64 xv) rfl rfl (by kernel_rfl) (by kernel_rfl) (by kernel_rfl) (fun _ _ _ h => h) (Or.inl ⟨by rfl, fun w hSw => by (try dsimp only at hSw); go_simp⟩) (by assumption) ?_
                      simp only [Act.put, List.setIfInBounds_toArray, List.set_cons_zero, List.set_cons_succ]
                      refine wpAnyH_ready (rs := [15]) (by kernel_rfl) (by simp) ?_
                      refine AllReadyH.cons (o := _) rfl (fun K' hK => ?_) AllReadyH.nil
                      go_simp
                      refine (HPUT.out _ HRD.out).mono ?_
                      rintro e u1 ⟨rfl, hw⟩
                      have hal2 : Below wr.drew.heap.size wr.drew (wr.drew.alloc (MBox D D (some ⟨g, 0, none⟩) Q Q)) := (Below.refl _ _).alloc (Nat.le_refl _) _
                      have HF0 := hid (HFD.out.call hal2)
                      have HX0 := hid (blkM HXD.out hal2)
                      have HL0 := hid (blkM HLD.out hal2)
                      have hoth : ∀ k, k ≠ g → u1.heap[k]? = (wr.drew.alloc (MBox D D (some ⟨g, 0, none⟩) Q Q)).heap[k]? := fun k hk => by rw [hw]; exact set_keepM hk _
                      have HF2 : Hid (FrU w u1 mb rb ob mb (MoBox (some ⟨pb, po, none⟩) n cap) (MBox 0 0 none 0 0) (MBox D D (some ⟨g, 0, none⟩) Q Q) (MoBox (some ⟨pb, po, none⟩) n cap)) := HF0.out.but HNG.out (by rw [hw]; exact HF0.out.1.setCell (p := ⟨g, pp, none⟩) HNE.out.2.2.1 _) hoth
                      have HX2 := hid ((hoth _ HNA.out).trans HX0.out)
                      have HL2 := hid ((hoth _ HNB.out).trans HL0.out)
                      have HW2 : Hid (u1.rowIs g 23 Q (fun t => .float .f64 ((fun t => if t = pp then xv else oc t) t))) := by
                        rw [hw]
                        exact ((HRD.out.of_block (hal2.block _ HRD.out.lt)).set pp _).congr (fun t _ => by by_cases ht : t = pp <;> simp [ht])
                      clear hw hal2 hoth
                      go_wp2_with fail
                      refine hK.out _ _ (HSS.out _ HF2.out HL2.out) (fun hHeld1 => ?_)
                      clear hK K'
                      try simp only [Act.put, List.setIfInBounds_toArray, List.set_cons_zero, List.set_cons_succ]
                      refine wpAnyH_done (by kernel_rfl) ?_ _
                      clear hHeld hHeld1
                      go_wp2_with fail
                      go_roundw
                      case rel => exact ⟨c + 1, _, by omega, by go_num, HW2, HON2, HF2, HX2, HL2⟩
                      case measure => simp [intOf]; omega
                    · obtain rfl : c = z := by omega
                      have HON : Hid (∀ i j, i < D → j < D → oc (i * D + j) = pU M f c l ((r + 1) * c) i j) := by
                        have := HOC.out
                        show ∀ i j, i < D → j < D → oc (i * D + j) = pU M f c l ((r + 1) * c) i j
                        rw [Nat.add_mul, Nat.one_mul]
                        exact this
                      go_wp2_with fail
                      go_roundw
                      case rel => exact ⟨r + 1, oc, by omega, by go_num, HRC, HON, HFC, HXC, HLC⟩
                      case measure => simp [intOf]; omega
                · obtain rfl : r = z := by omega
                  have HON : Hid (∀ i' j', i' < D → j' < D → or (i' * D + j') = mtV B K A (axP A i ++ (List.range (a + 1)).map (fun j => (i, j))) i' j') := by
                    have := HOR.out
                    rw [HZZ.out] at this
                    show ∀ i' j', i' < D → j' < D → or (i' * D + j') = mtV B K A (axP A i ++ (List.range (a + 1)).map (fun j => (i, j))) i' j'
                    rw [HMA.out]
                    exact this
                  go_wp2_with fail
                  go_roundw
                  case rel => exact ⟨a + 1, f2, or, by omega, by go_num, rfl, HS3, HRR, HON, HFR, HXR, HLR⟩
                  case measure => simp [intOf]; omega
            · have hae : (a : Int) = a1 := by omega
              have HON : Hid (∀ r c, r < D → c < D → oa (r * D + c) = mtV B K A (axP A (i + 1)) r c) := by
                have := HOA.out
                rw [HAX.out a hae] at this
                exact this
              have HAN : Hid (uS (ptS K A) (i + 1) = (f : Int)) := by
                show uS (ptS K A) (i + 1) = (f : Int)
                rw [HUN.out, ← hae]
                exact HFE.out
              clear hae
              go_wp2_with fail
              go_roundw
              case rel => exact ⟨i + 1, f, oa, by omega, by go_num, rfl, HAN, HRA, HON, HFA2⟩
              case measure => simp [intOf]; omega
        · obtain rfl : i = n := by omega
          have HRS := hid (HRES.out wr g o HRW.out HO.out)
          have HOC := hid (HOV.out wr g o HRW.out HO.out)
          obtain ⟨z0, z1, z2⟩ := mcells_of HF.out.2.2.2.1
          go_wp2_with fail
          refine HOC.out.mono ?_
          rintro e w9 ⟨rfl, hb⟩
          have HF9 := hid (HF.out.call hb)
          have HRS9 := hid (HRS.out.below hb)
          obtain ⟨r0, r1, r2⟩ := mcells_of HF9.out.2.2.1
          have fz := frzM HF9.out.2.2.1
          clear hb c0 z0 z1 z2
          go_wp2_with fail
          refine bodyPost_ret (v := .tuple #[.agg #[.int .i64 D, .int .i64 D, .slice (some ⟨g, 0, none⟩) Q Q], .int .i64 0]) (by simp [results, Try.results21, go_sem, r0, r1, r2]) rfl ⟨⟨D, D, some ⟨g, 0, none⟩, Q, Q, rfl, ?_⟩, ?_⟩
          · exact ResM.sto HRS9.out HF9.out.2.2.1
          · have := StoM.below (r := D) (c := D) (sa := some ⟨g, 0, none⟩) (n := Q) (cap := Q) HF9.out.1 HRL.out
            first | exact this | (rw [hmb'] at this; exact this)
  · have HE0 := hid hE0
    rw [laE_err hE0]
    obtain ⟨E, hE⟩ : ∃ t, dmE n K A N F = t := ⟨_, rfl⟩
    rw [hE] at HDM HE0
    rw [hE]
    have hne : (E != 0) = true := by have := HE0.out; simpa using this
    clear h hn hE hE0
    go_enter Try.func21, Try.ntmps21
    go_wp2_with fail
    refine (HDM.out _ HB.out).mono ?_
    rintro e w1 ⟨rfl, hb⟩
    have HB1 := hid (HB.out.trans (hb.mono HB.out.size))
    have HR1 := hid (blkM HR.out hb)
    obtain ⟨r0, r1, r2⟩ := mcells_of HR1.out
    have fz := frzM HR1.out
    clear hb c0
    go_wp2_with fail
    refine bodyPost_ret (v := .tuple #[.agg #[.int .i64 0, .int .i64 0, .slice none 0 0], .int .i64 E]) (by simp [results, Try.results21, go_sem, r0, r1, r2]) rfl ⟨⟨0, 0, none, 0, 0, rfl, pk_no HE0.out⟩, ?_⟩
    have := StoM.below (r := 0) (c := 0) (sa := none) (n := 0) (cap := 0) HB1.out HRL.out
    first | exact this | (rw [hmb'] at this; exact this)
end Go.Proofs.Ytcaelnpddipmhaa
