
/- Picks of any motion and any places: model's, and the document's. -/
import Derived.Test.YtfngjoaghbofgabDoorP35
import Derived.Test.YtfngjoaghbofgabDoorP10
namespace Go.Proofs.YtfngjoaghbofgabDoor
open Go.RowKit Go.IntWalk

/-- Are the first places numbers of the state? -/
def pkB (D : Int) (xs : List Int) : Nat → Bool
  | 0 => true
  | k + 1 => pkB D xs k && (decide (0 ≤ xs.getD k 0) && decide (xs.getD k 0 < D))
def pkE (E D : Int) (m : Nat) (xs : List Int) : Int := if E ≠ 0 then E else if m = 0 ∨ 6 < m then 1 else if pkB D xs m = true then 0 else 1
def pkV (xs : List Int) (i j : Nat) : Nat := if xs.getD i 0 = (j : Int) then 4607182418800017408 else 0
theorem pk_stop {D : Int} {xs : List Int} {k m : Nat} (hk : k < m) (h : ¬ (0 ≤ xs.getD k 0 ∧ xs.getD k 0 < D)) : pkB D xs m = false := by
  induction m with
  | zero => omega
  | succ m ih =>
    show (pkB D xs m && (decide (0 ≤ xs.getD m 0) && decide (xs.getD m 0 < D))) = false
    by_cases hkm : k = m
    · subst hkm
      by_cases h1 : 0 ≤ xs.getD k 0
      · rw [decide_eq_false (p := xs.getD k 0 < D) (fun h2 => h ⟨h1, h2⟩)]; simp
      · rw [decide_eq_false h1]; simp
    · rw [ih (by omega)]; rfl
theorem pk_next {D : Int} {xs : List Int} {k : Nat} (h : pkB D xs k = true) (h1 : 0 ≤ xs.getD k 0) (h2 : xs.getD k 0 < D) : pkB D xs (k + 1) = true := by
  show (pkB D xs k && (decide (0 ≤ xs.getD k 0) && decide (xs.getD k 0 < D))) = true
  rw [h, decide_eq_true h1, decide_eq_true h2]; rfl
theorem pkE_err {E D : Int} {m : Nat} {xs : List Int} (h : E ≠ 0) : pkE E D m xs = E := by unfold pkE; rw [if_pos h]
theorem pkE_len {D : Int} {m : Nat} {xs : List Int} (h : m = 0 ∨ 6 < m) : pkE 0 D m xs = 1 := by unfold pkE; rw [if_neg (by simp), if_pos h]
theorem pkE_bad {D : Int} {m : Nat} {xs : List Int} (h : ¬ (m = 0 ∨ 6 < m)) (hb : pkB D xs m = false) : pkE 0 D m xs = 1 := by unfold pkE; rw [if_neg (by simp), if_neg h, if_neg (by rw [hb]; decide)]
theorem pkE_good {D : Int} {m : Nat} {xs : List Int} (h : ¬ (m = 0 ∨ 6 < m)) (hb : pkB D xs m = true) : pkE 0 D m xs = 0 := by unfold pkE; rw [if_neg (by simp), if_neg h, if_pos hb]
/-- What is handed back beside an error. -/
theorem pk_no {E : Int} {r c : Nat} {v : Nat → Nat → Nat} {W : World} (h : E ≠ 0) : ResM E r c v W 0 0 none 0 0 := Or.inr ⟨h, rfl, rfl, rfl, rfl, rfl⟩
def pkO (xs : List Int) (k i j : Nat) : Nat := if i < k ∧ xs.getD i 0 = (j : Int) then 4607182418800017408 else 0
theorem pkO_lt (xs : List Int) (k i j : Nat) : pkO xs k i j < 18446744073709551616 ∧ canonOf (pkO xs k i j) = pkO xs k i j ∧ (expOf (pkO xs k i j) == 2047) = false := by
  unfold pkO
  split
  · decide
  · decide
theorem pkO_all (xs : List Int) {m i : Nat} (j : Nat) (hi : i < m) : pkO xs m i j = pkV xs i j := by
  unfold pkO pkV
  by_cases h : xs.getD i 0 = (j : Int)
  · rw [if_pos ⟨hi, h⟩, if_pos h]
  · rw [if_neg (fun c => h c.2), if_neg h]
theorem pk_yes {m D g : Nat} {xs : List Int} {W : World} {o : Nat → Nat} (hN : m * D ≤ 1000) (hr : W.rowIs g 37 (m * D) (fun k => .float .f64 (o k))) (ho : ∀ i j, i < m → j < D → o (i * D + j) = pkO xs m i j) : ResM 0 m D (pkV xs) W m D (some ⟨g, 0, none⟩) (m * D) (m * D) := by
  refine Or.inl ⟨rfl, rfl, rfl, rfl, rfl, g, o, rfl, row_fn hr (fun k hk => ?_) (by omega), fun i j hi hj => ?_, finF_of (fun k hk => ?_)⟩
  · obtain ⟨q1, q2, q3⟩ := split_k hk
    rw [← q3, ho _ _ q1 q2]; exact (pkO_lt xs m _ _).1
  · rw [ho i j hi hj, (pkO_lt xs m _ _).2.1, pkO_all xs j hi]
  · obtain ⟨q1, q2, q3⟩ := split_k hk
    rw [← q3, ho _ _ q1 q2]; exact (pkO_lt xs m _ _).2.2
theorem pk_step {m D k p : Nat} {xs : List Int} {o : Nat → Nat} (hp : xs.getD k 0 = (p : Int)) (hpD : p < D) (ho : ∀ i j, i < m → j < D → o (i * D + j) = pkO xs k i j) : ∀ i j, i < m → j < D → (fun t => if t = k * D + p then 4607182418800017408 else o t) (i * D + j) = pkO xs (k + 1) i j := by
  intro i j hi hj
  show (if i * D + j = k * D + p then 4607182418800017408 else o (i * D + j)) = _
  unfold pkO
  by_cases h : i * D + j = k * D + p
  · obtain ⟨e1, e2⟩ := place_ne hj hpD h
    subst e1 e2
    rw [if_pos rfl, if_pos ⟨by omega, hp⟩]
  · rw [if_neg h, ho i j hi hj]
    unfold pkO
    by_cases hx : xs.getD i 0 = (j : Int)
    · by_cases hik : i < k
      · rw [if_pos ⟨hik, hx⟩, if_pos ⟨by omega, hx⟩]
      · rw [if_neg (fun c => hik c.1), if_neg (fun c => ?_)]
        have : i = k := by omega
        subst this
        rw [hx] at hp
        exact h (by have : j = p := by omega
                    rw [this])
    · rw [if_neg (fun c => hx c.2), if_neg (fun c => hx c.2)]
theorem pk_zero {m D : Nat} (xs : List Int) : ∀ i j, i < m → j < D → (fun _ => (0 : Nat)) (i * D + j) = pkO xs 0 i j := fun i j _ _ => by
  unfold pkO
  rw [if_neg (fun c => absurd c.1 (Nat.not_lt_zero _))]
theorem pk_place {w W : World} {b off m : Nat} {xs : List Int} (hbl : b < w.heap.size) (hcl : ∀ i, i < m → w.cell? ⟨b, off + i, none⟩ = some (.int .i64 (xs.getD i 0))) (hb : Below w.heap.size w W) (i : Nat) (hi : i < m) : W.cell? ⟨b, off + i, none⟩ = some (.int .i64 (xs.getD i 0)) := by
  rw [hb.cell (p := ⟨b, off + i, none⟩) hbl]
  exact hcl i hi
theorem pk_idx {k D p : Nat} (hk : k < 6) (hD : D ≤ 12) (hp : p < D) : (k : Int) * (D : Int) = ((k * D : Nat) : Int) ∧ ((k * D : Nat) : Int) + (p : Int) = ((k * D + p : Nat) : Int) ∧ IntKind.i64.wrap ((k * D : Nat) : Int) = ((k * D : Nat) : Int) ∧ IntKind.i64.wrap ((k * D + p : Nat) : Int) = ((k * D + p : Nat) : Int) ∧ k * D ≤ 72 := by
  have h : k * D ≤ 6 * 12 := Nat.mul_le_mul (by omega) hD
  exact ⟨by simp, by simp, wrapM _ (by omega), wrapM _ (by omega), by omega⟩
set_option maxRecDepth 4000 in
set_option maxHeartbeats 4000000 in
theorem Picks_any (sa : Option Addr) (n cap : Nat) (K A : Nat → Int) (N F : Nat → Nat) (pa : Option Addr) (m pc : Nat) (xs : List Int) (w : World) (h : PtF w sa n K A N F) (hn : n ≤ 4398046511104) (hu : I64At w pa m xs) (hm : m ≤ 17592186043904) : Calls Tryd.prog 15 #[.agg #[.slice sa n cap], .slice pa m pc] w fun e w' => (∃ X0 X1 X2 X3 X4, e = .returned (.tuple #[.agg #[.int .i64 X0, .int .i64 X1, .slice X2 X3 X4], .int .i64 (pkE (dmE n K A N F) (dmV n K A N F) m xs)]) ∧ ResM (pkE (dmE n K A N F) (dmV n K A N F) m xs) m (dmV n K A N F).toNat (pkV xs) w' X0 X1 X2 X3 X4) ∧ Below w.heap.size w w' := by
  obtain ⟨t1, t2, t3, t4⟩ := two_b w (MoBox sa n cap) (MBox 0 0 none 0 0)
  have HDM := hid (fun W (hW : Below w.heap.size w W) => Dim_any sa n cap K A N F W (h.below hW) hn)
  have HE := hid (@dm_zero n K A N F)
  obtain ⟨E, hE⟩ : ∃ t, dmE n K A N F = t := ⟨_, rfl⟩
  obtain ⟨D0, hD⟩ : ∃ t, dmV n K A N F = t := ⟨_, rfl⟩
  rw [hE] at HDM HE
  rw [hD] at HDM HE
  rw [hE, hD]
  have hst := fstoreM
  obtain ⟨V, hV⟩ : ∃ V, Hid ((w.alloc (MoBox sa n cap)).alloc (MBox 0 0 none 0 0) = V) := ⟨_, rfl⟩
  rw [hV.out] at t1 t2 t3 t4
  have hV' := hV.out
  have HB := hid t3
  have HR := hid t2
  have c0 := mocell_of t1
  unfold MoBox MBox at hV'
  obtain ⟨rb, hrb⟩ : ∃ t, Hid (w.heap.size + 1 = t) := ⟨_, rfl⟩
  rw [hrb.out] at HR
  have hrb' := hrb.out
  have HU := hid hu
  clear t1 t2 t3 t4 h hE hD hu
  by_cases hE0 : E = 0
  · subst hE0
    obtain ⟨_, _, x2, x3, x4, x5⟩ := HE.out rfl
    obtain ⟨x6, x7⟩ : 1 ≤ D0 ∧ D0 ≤ 12 := by rw [x3]; exact ⟨x5, x2⟩
    obtain ⟨D, rfl⟩ := Int.eq_ofNat_of_zero_le (show 0 ≤ D0 by omega)
    have hD12 : D ≤ 12 := by omega
    rw [Int.toNat_natCast]
    clear x2 x3 x4 x5 x6 x7
    by_cases hm6 : m = 0 ∨ 6 < m
    · rw [pkE_len hm6]
      have HM := hid hm6
      by_cases hm0 : m = 0
      · subst hm0
        go_enter Tryd.func15, Tryd.ntmps15
        go_wp2_with fail
        refine (HDM.out _ HB.out).mono ?_
        rintro e w1 ⟨rfl, hb1⟩
        have HB1 := hid (HB.out.trans (hb1.mono HB.out.size))
        have HR1 := hid (blkM HR.out hb1)
        obtain ⟨r0, r1, r2⟩ := mcells_of HR1.out
        have fz := frzM HR1.out
        clear hb1
        go_wp2_with fail
        exact bodyPost_ret (v := .tuple #[.agg #[.int .i64 0, .int .i64 0, .slice none 0 0], .int .i64 1]) (by simp [results, Tryd.results15, go_sem, r0, r1, r2]) rfl ⟨⟨0, 0, none, 0, 0, rfl, pk_no (by decide)⟩, StoM.below HB1.out (by omega)⟩
      · have hm7 : (6 : Int) < (m : Int) := by omega
        have hm8 : ((m : Int) == 0) = false := by rw [beq_eq_false_iff_ne]; omega
        have hm9 : ¬ (m : Int) < 1 := by omega
        go_enter Tryd.func15, Tryd.ntmps15
        go_wp2_with fail
        refine (HDM.out _ HB.out).mono ?_
        rintro e w1 ⟨rfl, hb1⟩
        have HB1 := hid (HB.out.trans (hb1.mono HB.out.size))
        have HR1 := hid (blkM HR.out hb1)
        obtain ⟨r0, r1, r2⟩ := mcells_of HR1.out
        have fz := frzM HR1.out
        clear hb1
        go_wp2_with fail
        exact bodyPost_ret (v := .tuple #[.agg #[.int .i64 0, .int .i64 0, .slice none 0 0], .int .i64 1]) (by simp [results, Tryd.results15, go_sem, r0, r1, r2]) rfl ⟨⟨0, 0, none, 0, 0, rfl, pk_no (by decide)⟩, StoM.below HB1.out (by omega)⟩
    · have HM := hid hm6
      have hm7 : ¬ (6 : Int) < (m : Int) := by omega
      have hm8 : ((m : Int) == 0) = false := by rw [beq_eq_false_iff_ne]; omega
      have hm9 : ¬ (m : Int) < 1 := by omega
      have hm10 : m ≤ 6 := by omega
      obtain ⟨pb, po, rfl, hbl, hcl⟩ := HU.out.2.2 (by omega)
      have HC := hid (fun W (hW : Below w.heap.size w W) i hi => pk_place hbl hcl hW i hi)
      have HXB : Hid (∀ i, i < m → -9223372036854775808 ≤ xs.getD i 0 ∧ xs.getD i 0 ≤ 9223372036854775807) := fun i hi => by
        have hl := HU.out.1
        have : xs.getD i 0 ∈ xs := by
          rw [List.getD_eq_getElem?_getD, List.getElem?_eq_getElem (by omega)]
          exact List.getElem_mem _
        exact HU.out.2.1 _ this
      have HZE := hid (fun W => zerosm_any m D (by omega) (by omega) W)
      have HMD : Hid (m * D ≤ 1000) := by
        have : m * D ≤ 6 * 12 := Nat.mul_le_mul hm10 hD12
        show m * D ≤ 1000
        omega
      obtain ⟨Q, hQ⟩ : ∃ t, Hid (m * D = t) := ⟨_, rfl⟩
      have HPL : Hid (∀ i j, i < m → j < D → i * D + j < Q) := fun i j hi hj => by rw [← hQ.out]; exact place_lt hi hj
      rw [hQ.out] at HZE
      clear hcl
      go_enter Tryd.func15, Tryd.ntmps15
      go_wp2_with fail
      refine (HDM.out _ HB.out).mono ?_
      rintro e w1 ⟨rfl, hb1⟩
      have HB1 := hid (HB.out.trans (hb1.mono HB.out.size))
      have HR1 := hid (blkM HR.out hb1)
      obtain ⟨r0, r1, r2⟩ := mcells_of HR1.out
      have fz := frzM HR1.out
      clear hb1
      clear r0 r1 r2 fz
      go_wp2_with fail
      refine (HZE.out _).mono ?_
      rintro e w2 ⟨rfl, hrow, hb2⟩
      have HG1 : Hid (w1.heap.size + 1 < w2.heap.size) := hrow.lt
      have hal : Below w2.heap.size w2 (w2.alloc (MBox m D (some ⟨w1.heap.size + 1, 0, none⟩) Q Q)) := (Below.refl _ _).alloc (Nat.le_refl _) _
      have HFR : Hid (FrF w (w2.alloc (MBox m D (some ⟨w1.heap.size + 1, 0, none⟩) Q Q)) w2.heap.size rb (MBox m D (some ⟨w1.heap.size + 1, 0, none⟩) Q Q) (MBox 0 0 none 0 0)) := ⟨(HB1.out.trans (hb2.mono HB1.out.size)).alloc (by have := HB1.out.size; have := hb2.size; omega) _, nblkM _ _, blkM (blkM HR1.out hb2) hal⟩
      have HR0 : Hid ((w2.alloc (MBox m D (some ⟨w1.heap.size + 1, 0, none⟩) Q Q)).rowIs (w1.heap.size + 1) 37 Q (fun _ => .float .f64 0)) := hrow.of_block (hal.block _ HG1.out)
      obtain ⟨V3, hV3⟩ : ∃ V, Hid (w2.alloc (MBox m D (some ⟨w1.heap.size + 1, 0, none⟩) Q Q) = V) := ⟨_, rfl⟩
      rw [hV3.out] at HFR HR0
      have hV3' := hV3.out
      unfold MBox at hV3'
      obtain ⟨g, hg⟩ : ∃ t, Hid (w1.heap.size + 1 = t) := ⟨_, rfl⟩
      obtain ⟨ob, hob⟩ : ∃ t, Hid (w2.heap.size = t) := ⟨_, rfl⟩
      have HNE : Hid (ob ≠ g ∧ rb ≠ g ∧ w.heap.size ≤ g ∧ w.heap.size ≤ rb) := by
        have e1 := (Array.getElem?_eq_some_iff.1 HR1.out).1; have e2 := hg.out; have e3 := hob.out; have e4 := HG1.out; have e5 := HB1.out.size; have e6 := hrb.out
        show _ ∧ _ ∧ _ ∧ _
        omega
      rw [hg.out, hob.out] at HFR
      rw [hg.out] at HR0
      have hg' := hg.out
      have hob' := hob.out
      rw [hg'] at hV3'
      unfold MV
      rw [hg']
      clear hrow hb2 hal HZE
      go_wp2_with fail
      go_loopw [35] (fun iv wr => ∃ (k : Nat) (o : Nat → Nat), k ≤ m ∧ iv = .int .i64 k ∧ Hid (wr.rowIs g 37 Q (fun k => .float .f64 (o k))) ∧ Hid (∀ i j, i < m → j < D → o (i * D + j) = pkO xs k i j) ∧ Hid (pkB D xs k = true) ∧ Hid (FrF w wr ob rb (MBox m D (some ⟨g, 0, none⟩) Q Q) (MBox 0 0 none 0 0))) (fun iv _ => m - (intOf iv).toNat)
      case atStart => exact ⟨0, fun _ => 0, Nat.zero_le _, rfl, HR0, pk_zero xs, rfl, HFR⟩
      case round =>
        obtain ⟨k, o, hk, rfl, HRW, HO, HPB, HF⟩ := hrel
        obtain ⟨z0, z1, z2⟩ := mcells_of HF.out.2.1
        obtain ⟨r0, r1, r2⟩ := mcells_of HF.out.2.2
        have fz := frzM HF.out.2.2
        have hrbl := HNE.out.2.2.2
        by_cases hlt : k < m
        · have hkI : (k : Int) < (m : Int) := by omega
          have hk0 : (0 : Int) ≤ (k : Int) := by omega
          have hx := HC.out wr HF.out.1 k hlt
          have HST := hid (fun h => @pk_stop D xs k m hlt h)
          have HNX := hid (fun h1 h2 => @pk_next D xs k HPB.out h1 h2)
          have HPS := hid (fun p hp hpD => @pk_step m D k p xs o hp hpD HO.out)
          obtain ⟨x, hxx⟩ : ∃ t, xs.getD k 0 = t := ⟨_, rfl⟩
          rw [hxx] at hx HST HNX HPS
          by_cases hx1 : x < 0
          · have HX := hid (pkE_bad HM.out (HST.out (fun h => by omega)))
            go_wp2_with fail
            refine bodyPost_ret (v := .tuple #[.agg #[.int .i64 0, .int .i64 0, .slice none 0 0], .int .i64 1]) (by simp [results, Tryd.results15, go_sem, r0, r1, r2]) rfl ⟨?_, StoM.below HF.out.1 hrbl⟩
            rw [HX.out]
            exact ⟨0, 0, none, 0, 0, rfl, pk_no (by decide)⟩
          by_cases hx2 : (D : Int) ≤ x
          · have HX := hid (pkE_bad HM.out (HST.out (fun h => by omega)))
            go_wp2_with fail
            refine bodyPost_ret (v := .tuple #[.agg #[.int .i64 0, .int .i64 0, .slice none 0 0], .int .i64 1]) (by simp [results, Tryd.results15, go_sem, r0, r1, r2]) rfl ⟨?_, StoM.below HF.out.1 hrbl⟩
            rw [HX.out]
            exact ⟨0, 0, none, 0, 0, rfl, pk_no (by decide)⟩
          obtain ⟨p, rfl⟩ := Int.eq_ofNat_of_zero_le (show 0 ≤ x by omega)
          have hpD : p < D := by omega
          have hx3 : ¬ (D : Int) ≤ (p : Int) := hx2
          have HN2 := hid (HNX.out (by omega) (by omega))
          have HP2 := hid (HPS.out p rfl hpD)
          obtain ⟨e1, e2, e3, e4, e5⟩ := pk_idx (k := k) (by omega) hD12 hpD
          have hqN := HPL.out k p hlt hpD
          obtain ⟨P, hP⟩ : ∃ t, Hid (k * D = t) := ⟨_, rfl⟩
          rw [hP.out] at e1 e2 e3 e4 e5 hqN HP2
          obtain ⟨q, hq⟩ : ∃ t, Hid (P + p = t) := ⟨_, rfl⟩
          rw [hq.out] at e2 e4 hqN HP2
          have q0 : (0 : Int) ≤ (q : Int) := by omega
          have q1 : (q : Int) < (Q : Int) := by omega
          have cx := HRW.out.cell (i := q) hqN
          have fx := HRW.out.frozen q
          have HF2 := hid (HF.out.set (k := q) HNE.out.1 HNE.out.2.1 HNE.out.2.2.1 (.float .f64 4607182418800017408))
          have HW2 : Hid ((wr.setCell ⟨g, q, none⟩ (.float .f64 4607182418800017408)).rowIs g 37 Q (fun t => .float .f64 ((fun t => if t = q then 4607182418800017408 else o t) t))) := (HRW.out.set q _).congr (fun t _ => by by_cases ht : t = q <;> simp [ht])
          clear r0 r1 r2 fz hx1 hx2
          go_wp2_with fail
          go_roundw
          case rel => exact ⟨k + 1, fun t => if t = q then 4607182418800017408 else o t, by omega, by go_num, HW2, HP2.out, HN2, HF2⟩
          case measure => simp [intOf]; omega
        · obtain rfl : k = m := by omega
          have HX := hid (pkE_good HM.out HPB.out)
          rw [← hQ.out] at HRW
          have HRS := hid (pk_yes HMD.out HRW.out HO.out)
          go_wp2_with fail
          refine bodyPost_ret (v := .tuple #[.agg #[.int .i64 k, .int .i64 D, .slice (some ⟨g, 0, none⟩) Q Q], .int .i64 0]) (by simp [results, Tryd.results15, go_sem, r0, r1, r2]) rfl ⟨?_, StoM.below HF.out.1 hrbl⟩
          rw [HX.out]
          rw [hQ.out] at HRS
          refine ⟨k, D, some ⟨g, 0, none⟩, Q, Q, rfl, ?_⟩
          rcases HRS.out with ⟨h0, h1, h2, h3, h4, g', o', h5, h6, h7, h8⟩ | ⟨h0, _⟩
          · exact Or.inl ⟨h0, h1, h2, h3, h4, g', o', h5, StoM.fn h6 HF.out.2.2, h7, h8⟩
          · exact absurd rfl h0
  · have hne : (E != 0) = true := by simpa using hE0
    rw [pkE_err hE0]
    have HE0 := hid hE0
    clear hE0
    go_enter Tryd.func15, Tryd.ntmps15
    go_wp2_with fail
    refine (HDM.out _ HB.out).mono ?_
    rintro e w1 ⟨rfl, hb1⟩
    have HB1 := hid (HB.out.trans (hb1.mono HB.out.size))
    have HR1 := hid (blkM HR.out hb1)
    obtain ⟨r0, r1, r2⟩ := mcells_of HR1.out
    have fz := frzM HR1.out
    clear hb1
    go_wp2_with fail
    exact bodyPost_ret (v := .tuple #[.agg #[.int .i64 0, .int .i64 0, .slice none 0 0], .int .i64 E]) (by simp [results, Tryd.results15, go_sem, r0, r1, r2]) rfl ⟨⟨0, 0, none, 0, 0, rfl, pk_no HE0.out⟩, StoM.below HB1.out (by omega)⟩
end Go.Proofs.YtfngjoaghbofgabDoor
