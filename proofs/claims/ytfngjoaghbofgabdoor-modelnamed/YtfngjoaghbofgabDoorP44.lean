
/- model: Names. -/
import Derived.Test.YtfngjoaghbofgabDoorP43
namespace Go.Proofs.YtfngjoaghbofgabDoor
open Go.RowKit Go.IntWalk

theorem st_add (a b : ByteArray) (ha : a.size ≤ 100) (hb : b.size ≤ 100) (w : World) : (binOp .add 9 (.string a) (.string b)).run Tryd.prog w = .ok (.string (a ++ b)) w := by
  have := run_string_add (P := Tryd.prog) w a b (by omega) (by omega)
  simp [binOp, this]
theorem pva_size (o : Nat) : (pvaS o).size ≤ 1 := by
  unfold pvaS
  split <;> decide
theorem nm_adds (o i j : Nat) (w : World) : ((binOp .add 9 (.string (pvaS o)) (.string (sI i))).run Tryd.prog w = .ok (.string (pvaS o ++ sI i)) w) ∧ ((binOp .add 9 (.string (pvaS o ++ sI i)) (.string ⟨#[46]⟩)).run Tryd.prog w = .ok (.string (pvaS o ++ sI i ++ ⟨#[46]⟩)) w) ∧ ((binOp .add 9 (.string (pvaS o ++ sI i ++ ⟨#[46]⟩)) (.string (sI j))).run Tryd.prog w = .ok (.string (nmS o i j)) w) := by
  have h1 := pva_size o
  have h2 := sI_size i
  have h3 := sI_size j
  have e1 : (pvaS o ++ sI i).size = (pvaS o).size + (sI i).size := ByteArray.size_append
  have e2 : (pvaS o ++ sI i ++ ⟨#[46]⟩ : ByteArray).size = (pvaS o ++ sI i).size + 1 := ByteArray.size_append
  exact ⟨st_add _ _ (by omega) (by omega) w, st_add _ _ (by omega) (by decide) w, st_add _ _ (by omega) (by omega) w⟩
/-- A block of axes is none of texts. -/
theorem st_keep {W W' : World} {base n kb : Nat} {v : Value} {xs : List Value} {cur : Array Value} {fr : Nat × Nat} (hO : W.ownsRow base 9 1 v n xs) (hK : W.heap[kb]? = some (.cells cur 76 fr)) (hg : W.grownBy W' v.ownBlock) : W'.heap[kb]? = some (.cells cur 76 fr) := by
  refine (hg.block kb (Array.getElem?_eq_some_iff.1 hK).1 ?_).trans hK
  intro hc
  rcases hO.2 with ⟨rfl, _⟩ | ⟨g', cap, cur', rfl, _, e3, _⟩
  · cases hc
  · simp only [Value.ownBlock, Option.some.injEq] at hc
    rw [← hc, hK] at e3
    simp at e3
theorem nm_step (l : List ByteArray) (o i j : Nat) : (l ++ (List.range o).map (fun q => nmS q i j)) ++ [nmS o i j] = l ++ (List.range (o + 1)).map (fun q => nmS q i j) := by
  rw [List.range_succ, List.map_append, List.append_assoc]
  rfl
theorem nm_take (K : Nat → Int) (L : List (Nat × Nat)) (t : Nat) (ht : t < L.length) : nmL K (L.take t) ++ (List.range (szK (K L[t].1)).toNat).map (fun q => nmS q L[t].1 L[t].2) = nmL K (L.take (t + 1)) := by
  unfold nmL
  rw [List.take_add_one, List.getElem?_eq_getElem ht, List.flatMap_append]
  simp
theorem nm_len (K : Nat → Int) : ∀ L : List (Nat × Nat), L.length ≤ 12 → (nmL K L).length ≤ 36 := by
  intro L hL
  have key : ∀ L : List (Nat × Nat), (nmL K L).length ≤ L.length * 3 := by
    intro L
    induction L with
    | nil => exact Nat.le_refl _
    | cons e L ih =>
      unfold nmL at ih ⊢
      rw [List.flatMap_cons, List.length_append, List.length_map, List.length_range, List.length_cons]
      have := szK_in (K e.1)
      omega
  have := key L
  omega
theorem small_part {K A : Nat → Int} {N F : Nat → Nat} {n : Nat} (h : dmE n K A N F = 0) {e : Nat × Nat} (he : e ∈ axP A n) : e.1 < 12 ∧ e.2 < 12 ∧ 1 ≤ szK (K e.1) ∧ szK (K e.1) ≤ 3 := by
  obtain ⟨_, y1, _, _, y4, _⟩ := dm_zero h
  obtain ⟨h1, h2⟩ := axP_mem.1 he
  obtain ⟨_, _, a1, a2, a3⟩ := ptS_in (scE_all y1 _ h1)
  have key : ∀ k, k ≤ n → (k : Int) ≤ uS (ptS K A) k := by
    intro k
    induction k with
    | zero => intro _; exact Int.le_refl _
    | succ k ih =>
      intro hk
      have b := ih (by omega)
      have c := (ptS_in (scE_all y1 k (by omega))).1
      show ((k + 1 : Nat) : Int) ≤ uS (ptS K A) k + ptS K A k
      omega
  have c1 := key n (Nat.le_refl _)
  have c2 := y4 n (Nat.le_refl _)
  exact ⟨by omega, by omega, a2, a3⟩
theorem pva_slice : True := trivial
set_option maxRecDepth 4000 in
set_option maxHeartbeats 8000000 in
theorem Names_any (sa : Option Addr) (n cap : Nat) (K A : Nat → Int) (N F : Nat → Nat) (w : World) (h : PtF w sa n K A N F) (hn : n ≤ 4398046511104) : Calls Tryd.prog 9 #[.agg #[.slice sa n cap]] w fun r w' => (∃ v, r = .returned (.tuple #[v, .int .i64 (dmE n K A N F)]) ∧ ((dmE n K A N F = 0 ∧ w'.ownsRow w.heap.size 9 1 v (nmL K (axP A n)).length (stL (nmL K (axP A n)))) ∨ (dmE n K A N F ≠ 0 ∧ v = .slice none 0 0))) ∧ Below w.heap.size w w' := by
  have HB0 : Hid (Below w.heap.size w (w.alloc (MoBox sa n cap)) ∧ (w.alloc (MoBox sa n cap)).heap[w.heap.size]? = some (MoBox sa n cap)) := ⟨(Below.refl _ _).alloc (Nat.le_refl _) _, nblkM _ _⟩
  have HDM := hid (fun W (hW : Below w.heap.size w W) => Dim_any sa n cap K A N F W (h.below hW) hn)
  have HAX := hid (fun W (hW : Below w.heap.size w W) (hE : dmE n K A N F = 0) => axes_any sa n cap K A N F W (h.below hW) hn hE)
  obtain ⟨V, hV⟩ : ∃ V, Hid (w.alloc (MoBox sa n cap) = V) := ⟨_, rfl⟩
  rw [hV.out] at HB0
  have hV' := hV.out
  unfold MoBox at hV'
  have c0 := mocell_of HB0.out.2
  by_cases hE0 : dmE n K A N F = 0
  · have HDZ := hid (dm_zero hE0)
    have HSM := hid (fun e he => @small_part K A N F n hE0 e he)
    have HAX2 := hid (fun W hW => HAX.out W hW hE0)
    obtain ⟨_, y1, y2, y3, y4, y5⟩ := dm_zero hE0
    obtain ⟨y6, y7⟩ : 1 ≤ dmV n K A N F ∧ dmV n K A N F ≤ 12 := by rw [y3]; exact ⟨y5, y2⟩
    obtain ⟨d, hd⟩ := Int.eq_ofNat_of_zero_le (show 0 ≤ dmV n K A N F by omega)
    rw [hE0] at HDM
    rw [hd] at HDM y6 y7
    have hd12 : d ≤ 12 := by omega
    have HFIN : Hid (∀ v W, W.ownsRow w.heap.size 9 1 v (nmL K (axP A n)).length (stL (nmL K (axP A n))) → Below w.heap.size w W → (∃ v', Ending.returned (.tuple #[v, .int .i64 0]) = Ending.returned (.tuple #[v', .int .i64 (dmE n K A N F)]) ∧ ((dmE n K A N F = 0 ∧ W.ownsRow w.heap.size 9 1 v' (nmL K (axP A n)).length (stL (nmL K (axP A n)))) ∨ (dmE n K A N F ≠ 0 ∧ v' = .slice none 0 0))) ∧ Below w.heap.size w W) := fun v W h1 h2 => ⟨⟨v, by rw [hE0], Or.inl ⟨hE0, h1⟩⟩, h2⟩
    have HLN : Hid ((axP A n).length ≤ 12) := by
      have a := axP_len (K := K) (A := A) (N := N) (F := F) (n := n) (scE_all y1)
      have b := (y4 n (Nat.le_refl _)).1
      have c := (y4 n (Nat.le_refl _)).2.2
      show _ ≤ 12
      omega
    have HNL := hid (nm_len K)
    clear hE0 h hn y1 y2 y3 y4 y5 hd
    go_enter Tryd.func9, Tryd.ntmps9
    go_wp2_with fail
    refine (HDM.out _ HB0.out.1).mono ?_
    rintro e w1 ⟨rfl, hb⟩
    have HB1 : Hid (Below w.heap.size w w1 ∧ w1.heap[w.heap.size]? = some (MoBox sa n cap)) := ⟨HB0.out.1.trans (hb.mono HB0.out.1.size), blkM HB0.out.2 hb⟩
    clear hb c0
    obtain ⟨i0, hi0, hz0, hz1, hz2⟩ := info_st
    obtain ⟨w2, hmk, hown, hgr⟩ := run_make_own (P := Tryd.prog) w1 w.heap.size 44 9 i0 (.string ⟨#[]⟩) 1 Tryd.underlying44 hi0 hz0 hz1 .i64 .i64 d (by rw [hz2]; omega) (by unfold maxLen; omega) HB1.out.1.size
    have hb2 := (Below.refl w1.heap.size w1).grown hgr (Nat.le_refl _) (fun k hk => by cases hk)
    have HB2 : Hid (Below w.heap.size w w2 ∧ w2.heap[w.heap.size]? = some (MoBox sa n cap)) := ⟨HB1.out.1.trans (hb2.mono HB1.out.1.size), blkM HB1.out.2 hb2⟩
    have HO2 := hid hown
    have c0 := mocell_of HB2.out.2
    clear hown hgr hb2 hi0 hz0 hz1 hz2
    obtain ⟨gv, hgv⟩ : ∃ t, Hid (w1.heap.size = t) := ⟨_, rfl⟩
    have hgv' := hgv.out
    rw [hgv'] at hmk HO2
    go_wp2_with fail
    refine (HAX2.out _ HB2.out.1).mono ?_
    rintro e w3 ⟨⟨v, rfl, hown⟩, hb⟩
    have HB3 := hid (HB2.out.1.trans (hb.mono HB2.out.1.size))
    have HO3 := hid (owns_keepB HO2.out hb)
    have HOW := hid hown
    clear hb hown c0 hmk
    obtain ⟨L, hL⟩ : ∃ t, axP A n = t := ⟨_, rfl⟩
    have HFIN : Hid (∀ v W, W.ownsRow w.heap.size 9 1 v (nmL K L).length (stL (nmL K L)) → Below w.heap.size w W → _) := fun v W h1 h2 => HFIN.out v W (by rw [hL]; exact h1) h2
    rw [hL] at HLN HOW HSM
    clear hL
    rcases Joins.ownsRow_forms HOW.out with ⟨rfl, h0⟩ | ⟨ax, acap, rfl⟩
    · have hLn : L = [] := List.length_eq_zero_iff.1 h0
      subst hLn
      go_wp2_with fail
      go_loopw [6, 23] (fun ov iv wr => iv = .int .i64 0 ∧ ov = .slice (some ⟨gv, 0, none⟩) 0 d ∧ Hid (wr = w3)) (fun _ _ _ => 0)
      case atStart => exact ⟨rfl, rfl, rfl⟩
      case round =>
        obtain ⟨rfl, rfl, hw⟩ := hrel
        rw [hw.out]
        clear hw
        go_wp2_with fail
        exact bodyPost_ret (v := .tuple #[.slice (some ⟨gv, 0, none⟩) 0 d, .int .i64 0]) (by simp [results, Tryd.results9, go_sem]) rfl (HFIN.out _ _ HO3.out HB3.out)
    · obtain ⟨cur, HCU⟩ : ∃ cur, Hid (w3.heap[ax]? = some (.cells cur 76 (0, 0))) := by
        rcases HOW.out.2 with ⟨h1, _⟩ | ⟨g', cap', cur, h1, _, h3, _⟩
        · cases h1
        · cases h1
          exact ⟨cur, h3⟩
      have HAT : Hid (∀ W, W.heap[ax]? = some (.cells cur 76 (0, 0)) → ∀ t (ht : t < L.length), AxD W ax (t * 7) L[t].1 L[t].2 (uS (ptS K A) L[t].1 + (L[t].2 : Int) * szK (K L[t].1)) (szK (K L[t].1)) (fnF (K L[t].1)) (fnQ (K L[t].1)) (fnG (K L[t].1))) := fun W hW t ht => by
        have a := ax_at HOW.out t ht
        have e : W.heap[ax]? = w3.heap[ax]? := hW.trans HCU.out.symm
        unfold AxD at a ⊢
        rw [World.cell?_of_block (a := ⟨ax, t * 7, none⟩) e, World.cell?_of_block (a := ⟨ax, t * 7 + 1, none⟩) e, World.cell?_of_block (a := ⟨ax, t * 7 + 2, none⟩) e, World.cell?_of_block (a := ⟨ax, t * 7 + 3, none⟩) e, World.cell?_of_block (a := ⟨ax, t * 7 + 4, none⟩) e, World.cell?_of_block (a := ⟨ax, t * 7 + 5, none⟩) e, World.cell?_of_block (a := ⟨ax, t * 7 + 6, none⟩) e]
        exact a
      obtain ⟨T, hT⟩ : ∃ t, Hid (L.length = t) := ⟨_, rfl⟩
      rw [hT.out] at HLN
      rw [hT.out]
      go_wp2_with fail
      go_loopw [6, 23] (fun ov iv wr => ∃ (t : Nat) (x : Value), t ≤ T ∧ iv = .int .i64 t ∧ x = ov ∧ Hid (wr.ownsRow w.heap.size 9 1 ov (nmL K (L.take t)).length (stL (nmL K (L.take t)))) ∧ Hid (wr.heap[ax]? = some (.cells cur 76 (0, 0))) ∧ Hid (Below w.heap.size w wr)) (fun _ iv _ => T - (intOf iv).toNat)
      case atStart => exact ⟨0, _, Nat.zero_le _, rfl, rfl, HO3, HCU, HB3⟩
      case round =>
        obtain ⟨t, x0, ht, rfl, rfl, HO, HCR, HBR⟩ := hrel
        by_cases hlt : t < T
        · have hlt' : t < L.length := by rw [hT.out]; exact hlt
          have HD := hid (HAT.out wr HCR.out t hlt')
          have HSE := hid (HSM.out L[t] (List.getElem_mem hlt'))
          have HNT := hid (nm_take K L t hlt')
          have HNN := hid (HNL.out (L.take t) (by rw [List.length_take]; have := HLN.out; rw [hT.out]; omega))
          have hkI : (t : Int) < (T : Int) := by omega
          have hk0 : (0 : Int) ≤ (t : Int) := by omega
          have hT12 := HLN.out
          obtain ⟨e, he⟩ : ∃ q, L[t] = q := ⟨_, rfl⟩
          rw [he] at HD HSE HNT
          obtain ⟨f, hf⟩ : ∃ q, uS (ptS K A) e.1 + (e.2 : Int) * szK (K e.1) = q := ⟨_, rfl⟩
          rw [hf] at HD
          obtain ⟨z, hz⟩ : ∃ q, szK (K e.1) = q := ⟨_, rfl⟩
          rw [hz] at HD HSE HNT
          obtain ⟨g1, hg1⟩ : ∃ q, fnF (K e.1) = q := ⟨_, rfl⟩
          obtain ⟨g2, hg2⟩ : ∃ q, fnQ (K e.1) = q := ⟨_, rfl⟩
          obtain ⟨g3, hg3⟩ : ∃ q, fnG (K e.1) = q := ⟨_, rfl⟩
          rw [hg1, hg2, hg3] at HD
          obtain ⟨i, hi⟩ : ∃ q, e.1 = q := ⟨_, rfl⟩
          obtain ⟨j, hj⟩ : ∃ q, e.2 = q := ⟨_, rfl⟩
          rw [hi, hj] at HD HSE HNT
          have hd := HD.out
          unfold AxD at hd
          obtain ⟨d0, d1, d2, d3, d4, d5, d6⟩ := hd
          have HIA := hid (fun W => itoa_any i HSE.out.1 W)
          have HJA := hid (fun W => itoa_any j HSE.out.2.1 W)
          have hal : Below wr.heap.size wr (wr.alloc (AxB i j f z g1 g2 g3)) := (Below.refl _ _).alloc (Nat.le_refl _) _
          have HB4 := hid (HBR.out.trans (hal.mono HBR.out.size))
          have HX4 : Hid ((wr.alloc (AxB i j f z g1 g2 g3)).heap[wr.heap.size]? = some (AxB i j f z g1 g2 g3)) := nblkM _ _
          have HO4 := hid (owns_keepB HO.out hal)
          have HC4 := hid (blkM HCR.out hal)
          obtain ⟨V4, hV4⟩ : ∃ V, Hid (wr.alloc (AxB i j f z g1 g2 g3) = V) := ⟨_, rfl⟩
          rw [hV4.out] at HB4 HX4 HO4 HC4
          have hV4' := hV4.out
          unfold AxB at hV4'
          obtain ⟨xb, hxb⟩ : ∃ t, Hid (wr.heap.size = t) := ⟨_, rfl⟩
          rw [hxb.out] at HX4
          have hxb' := hxb.out
          have hb4 := axb_cells HX4.out
          unfold AxD at hb4
          simp only [Nat.zero_add] at hb4
          obtain ⟨b0, b1, b2, b3, b4, b5, b6⟩ := hb4
          obtain ⟨l0, hl0⟩ : ∃ q, nmL K (L.take t) = q := ⟨_, rfl⟩
          rw [hl0] at HO4 HNT HNN
          clear hf hz hg1 hg2 hg3 hi hj hal hl0
          go_wp2_with fail
          clear d0 d1 d2 d3 d4 d5 d6 b0 b1 b2 b3 b4 b5 b6
          go_loopw [6, 30] (fun ov jv wi => ∃ (o : Nat) (x : Value), (o : Int) ≤ z ∧ jv = .int .i64 o ∧ x = ov ∧ Hid (wi.ownsRow w.heap.size 9 1 ov (l0 ++ (List.range o).map (fun q => nmS q i j)).length (stL (l0 ++ (List.range o).map (fun q => nmS q i j)))) ∧ Hid (wi.heap[ax]? = some (.cells cur 76 (0, 0))) ∧ Hid (wi.heap[xb]? = some (AxB i j f z g1 g2 g3)) ∧ Hid (Below w.heap.size w wi)) (fun _ jv _ => z.toNat - (intOf jv).toNat)
          case atStart => exact ⟨0, _, by have := HSE.out; omega, rfl, rfl, by show World.ownsRow _ _ _ _ _ _ _; simpa using HO4.out, HC4, HX4, HB4⟩
          case round =>
            obtain ⟨o, ov, ho, rfl, rfl, HOI, HCI, HXI, HBI⟩ := hrel
            by_cases hol : (o : Int) < z
            · have ho3 : o < 3 := by have := HSE.out; omega
              rcases (show o = 0 ∨ o = 1 ∨ o = 2 by omega) with rfl | rfl | rfl
              · have H1 : Hid (wr.drew.ownsRow w.heap.size 9 1 ov (l0 ++ (List.range 0).map (fun q => nmS q i j)).length (stL (l0 ++ (List.range 0).map (fun q => nmS q i j)))) := HOI.out
                obtain ⟨v', w9, hrun, hown9, hgr9, hb9⟩ := st_append (s := nmS 0 i j) 44 H1.out (by rw [List.length_append, List.length_map, List.length_range]; have := HNN.out; omega) HBI.out.size
                rw [nm_step] at hown9
                have HO9 : Hid (w9.ownsRow w.heap.size 9 1 v' (l0 ++ (List.range (0 + 1)).map (fun q => nmS q i j)).length (stL (l0 ++ (List.range (0 + 1)).map (fun q => nmS q i j)))) := hown9
                have hal : Below wr.drew.heap.size wr.drew (wr.drew.alloc (.cells #[.string (nmS 0 i j)] 9)) := (Below.refl _ _).alloc (Nat.le_refl _) _
                have HBD : Hid (Below w.heap.size w wr.drew) := HBI.out.drew
                have HBA := hid (HBD.out.trans (hal.mono HBD.out.size))
                have HB9 := hid (HBA.out.trans hb9)
                have HCA : Hid ((wr.drew.alloc (.cells #[.string (nmS 0 i j)] 9)).heap[ax]? = some (.cells cur 76 (0, 0))) := blkM (A := wr.drew) HCI.out hal
                have HXA : Hid ((wr.drew.alloc (.cells #[.string (nmS 0 i j)] 9)).heap[xb]? = some (AxB i j f z g1 g2 g3)) := blkM (A := wr.drew) HXI.out hal
                have HC9 := hid (st_keep (owns_keepB H1.out hal) HCA.out hgr9)
                have HX9 : Hid (w9.heap[xb]? = some (AxB i j f z g1 g2 g3)) := st_keep (owns_keepB H1.out hal) (cur := #[.int .i64 (i : Int), .int .i64 (j : Int), .int .i64 f, .int .i64 z, .func (.func g1) #[] #[], .func (.func g2) #[] #[], .func (.func g3) #[] #[]]) (fr := (0, 0)) HXA.out hgr9
                have HQC : Hid (∀ W : World, W.heap[xb]? = some (AxB i j f z g1 g2 g3) → W.cell? ⟨xb, 0, none⟩ = some (.int .i64 (i : Int)) ∧ W.cell? ⟨xb, 1, none⟩ = some (.int .i64 (j : Int))) := fun W hW => ⟨(axb_cells hW).1, (axb_cells hW).2.1⟩
                have HQ0 := hid (HQC.out wr.drew HXI.out)
                have HQA := hid (HQC.out _ HXA.out)
                have HQ9 := hid (HQC.out _ HX9.out)
                have hrun : (Builtin.append_ #[44, 44] 44 #[ov, .slice (some ⟨wr.heap.size, 0, none⟩) 1 1]).run Tryd.prog (wr.alloc (.cells #[.string (nmS 0 i j)] 9)).drew = .ok v' w9 := hrun
                have hs1 := sI_size i
                have hs2 := sI_size j
                have qa : 1 + (sI i).size ≤ 9223372036854775807 := by omega
                have qb : 1 + (sI i).size ≤ 9223372036854775806 := by omega
                have qc : ¬ 9223372036854775807 < 1 + (sI i).size + 1 + (sI j).size := by omega
                have qd : IntKind.i64.wrap 1 = 1 := by decide
                have qe : (⟨#[112, 118, 97]⟩ : ByteArray).extract 0 1 = ⟨#[112]⟩ := by decide
                have qf : (⟨#[112]⟩ ++ sI i ++ ⟨#[46]⟩ ++ sI j : ByteArray) = nmS 0 i j := rfl
                clear hs1 hs2
                clear hown9 hgr9 hb9 hal
                go_wp2_with fail
                refine wp_region_held_drew (S := fun W => W.cell? ⟨xb, 0, none⟩ = some (.int .i64 (i : Int)) ∧ W.cell? ⟨xb, 1, none⟩ = some (.int .i64 (j : Int))) (by kernel_rfl) HQ0.out (fun hHeld => ?_)
                refine take_at 0 33 (ov) rfl rfl (by kernel_rfl) (by kernel_rfl) (by kernel_rfl) (fun _ _ _ h => h) (Or.inl ⟨by rfl, fun w hSw => by (try dsimp only at hSw); go_simp⟩) (by assumption) ?_
                simp only [Act.put, List.setIfInBounds_toArray, List.set_cons_zero, List.set_cons_succ]
                refine take_at 1 34 (.int .i64 0) rfl rfl (by kernel_rfl) (by kernel_rfl) (by kernel_rfl) (fun _ _ _ h => h) (Or.inl ⟨by rfl, fun w hSw => by (try dsimp only at hSw); go_simp⟩) (by assumption) ?_
                simp only [Act.put, List.setIfInBounds_toArray, List.set_cons_zero, List.set_cons_succ]
                refine take_at 2 35 (.int .i64 0) rfl rfl (by kernel_rfl) (by kernel_rfl) (by kernel_rfl) (fun _ _ _ h => h) (Or.inl ⟨by rfl, fun w hSw => by (try dsimp only at hSw); go_simp⟩) (by assumption) ?_
                simp only [Act.put, List.setIfInBounds_toArray, List.set_cons_zero, List.set_cons_succ]
                refine take_at 3 36 (.int .i64 1) rfl rfl (by kernel_rfl) (by kernel_rfl) (by kernel_rfl) (fun _ _ _ h => h) (Or.inl ⟨by rfl, fun w hSw => by (try dsimp only at hSw); go_simp⟩) (by assumption) ?_
                simp only [Act.put, List.setIfInBounds_toArray, List.set_cons_zero, List.set_cons_succ]
                refine take_at 4 37 (.string ⟨#[112]⟩) rfl rfl (by kernel_rfl) (by kernel_rfl) (by kernel_rfl) (fun _ _ _ h => h) (Or.inl ⟨by rfl, fun w hSw => by (try dsimp only at hSw); go_simp⟩) (by assumption) ?_
                simp only [Act.put, List.setIfInBounds_toArray, List.set_cons_zero, List.set_cons_succ]
                refine take_at 5 38 (.pointer (some ⟨xb, 0, none⟩)) rfl rfl (by kernel_rfl) (by kernel_rfl) (by kernel_rfl) (fun _ _ _ h => h) (Or.inl ⟨by rfl, fun w hSw => by (try dsimp only at hSw); go_simp⟩) (by assumption) ?_
                simp only [Act.put, List.setIfInBounds_toArray, List.set_cons_zero, List.set_cons_succ]
                refine take_at 6 39 (.int .i64 (i : Int)) rfl rfl (by kernel_rfl) (by kernel_rfl) (by kernel_rfl) (fun _ _ _ h => h) (Or.inl ⟨by rfl, fun w hSw => by (try dsimp only at hSw); go_simp⟩) (by assumption) ?_
                simp only [Act.put, List.setIfInBounds_toArray, List.set_cons_zero, List.set_cons_succ]
                refine take_at 10 43 (.pointer (some ⟨xb, 1, none⟩)) rfl rfl (by kernel_rfl) (by kernel_rfl) (by kernel_rfl) (fun _ _ _ h => h) (Or.inl ⟨by rfl, fun w hSw => by (try dsimp only at hSw); go_simp⟩) (by assumption) ?_
                simp only [Act.put, List.setIfInBounds_toArray, List.set_cons_zero, List.set_cons_succ]
                refine take_at 11 44 (.int .i64 (j : Int)) rfl rfl (by kernel_rfl) (by kernel_rfl) (by kernel_rfl) (fun _ _ _ h => h) (Or.inl ⟨by rfl, fun w hSw => by (try dsimp only at hSw); go_simp⟩) (by assumption) ?_
                simp only [Act.put, List.setIfInBounds_toArray, List.set_cons_zero, List.set_cons_succ]
                refine wpAnyH_ready (rs := [7]) (by kernel_rfl) (by simp) ?_
                refine AllReadyH.cons (o := _) rfl (fun K' hK => ?_) AllReadyH.nil
                go_simp
                refine (HIA.out _).mono ?_
                rintro e u1 ⟨rfl, hw⟩
                rw [hw]
                clear hw
                go_wp2_with fail
                refine hK.out _ _ HQ0.out (fun hHeld7 => ?_)
                clear hK K'
                try simp only [Act.put, List.setIfInBounds_toArray, List.set_cons_zero, List.set_cons_succ]
                refine take_at 8 41 (.string (⟨#[112]⟩ ++ sI i)) rfl rfl (by kernel_rfl) (by kernel_rfl) (by kernel_rfl) (fun _ _ _ h => h) (Or.inl ⟨by rfl, fun w hSw => by (try dsimp only at hSw); go_simp⟩) (by assumption) ?_
                simp only [Act.put, List.setIfInBounds_toArray, List.set_cons_zero, List.set_cons_succ]
                refine take_at 9 42 (.string (⟨#[112]⟩ ++ sI i ++ ⟨#[46]⟩)) rfl rfl (by kernel_rfl) (by kernel_rfl) (by kernel_rfl) (fun _ _ _ h => h) (Or.inl ⟨by rfl, fun w hSw => by (try dsimp only at hSw); go_simp⟩) (by assumption) ?_
                simp only [Act.put, List.setIfInBounds_toArray, List.set_cons_zero, List.set_cons_succ]
                refine wpAnyH_ready (rs := [12]) (by kernel_rfl) (by simp) ?_
                refine AllReadyH.cons (o := _) rfl (fun K' hK => ?_) AllReadyH.nil
                go_simp
                refine (HJA.out _).mono ?_
                rintro e u1 ⟨rfl, hw⟩
                rw [hw]
                clear hw
                go_wp2_with fail
                refine hK.out _ _ HQ0.out (fun hHeld12 => ?_)
                clear hK K'
                try simp only [Act.put, List.setIfInBounds_toArray, List.set_cons_zero, List.set_cons_succ]
                refine take_at 13 46 (.string (nmS 0 i j)) rfl rfl (by kernel_rfl) (by kernel_rfl) (by kernel_rfl) (fun _ _ _ h => h) (Or.inl ⟨by rfl, fun w hSw => by (try dsimp only at hSw); go_simp⟩) (by assumption) ?_
                simp only [Act.put, List.setIfInBounds_toArray, List.set_cons_zero, List.set_cons_succ]
                refine wpAnyH_ready (rs := [14]) (by kernel_rfl) (by simp) ?_
                refine AllReadyH.cons (o := _) rfl (fun K' hK => ?_) AllReadyH.nil
                go_simp
                go_wp2_with fail
                refine hK.out _ _ HQA.out (fun hHeld14 => ?_)
                clear hK K'
                try simp only [Act.put, List.setIfInBounds_toArray, List.set_cons_zero, List.set_cons_succ]
                refine wpAnyH_ready (rs := [15]) (by kernel_rfl) (by simp) ?_
                refine AllReadyH.cons (o := _) rfl (fun K' hK => ?_) AllReadyH.nil
                refine step_app 44 rfl _ _ rfl ov (.slice (some ⟨wr.heap.size, 0, none⟩) 1 1) (by first | rfl | (simp [Act.eval]; done) | (simp [Act.eval, Act.put]; done)) (by first | rfl | (simp [Act.eval]; done) | (simp [Act.eval, Act.put]; done)) hrun ?_
                refine hK.out _ _ HQ9.out (fun hHeld15 => ?_)
                clear hK K'
                simp only [Act.put, List.setIfInBounds_toArray]
                refine take_at 16 6 (v') rfl rfl (by kernel_rfl) (by kernel_rfl) (by kernel_rfl) (fun _ _ _ h => h) (Or.inl ⟨by rfl, fun w hSw => by (try dsimp only at hSw); go_simp⟩) (by assumption) ?_
                simp only [Act.put]
                refine wpAnyH_done (by kernel_rfl) ?_ _
                go_wp2_with fail
                go_roundw
                case rel => exact ⟨1, _, by omega, by go_num, rfl, HO9, HC9, HX9, HB9⟩
                case measure => simp [intOf]; omega
              · have H2 : Hid (wr.drew.ownsRow w.heap.size 9 1 ov (l0 ++ (List.range 1).map (fun q => nmS q i j)).length (stL (l0 ++ (List.range 1).map (fun q => nmS q i j)))) := HOI.out
                obtain ⟨v', w9, hrun, hown9, hgr9, hb9⟩ := st_append (s := nmS 1 i j) 44 H2.out (by rw [List.length_append, List.length_map, List.length_range]; have := HNN.out; omega) HBI.out.size
                rw [nm_step] at hown9
                have HO9 : Hid (w9.ownsRow w.heap.size 9 1 v' (l0 ++ (List.range (1 + 1)).map (fun q => nmS q i j)).length (stL (l0 ++ (List.range (1 + 1)).map (fun q => nmS q i j)))) := hown9
                have hal : Below wr.drew.heap.size wr.drew (wr.drew.alloc (.cells #[.string (nmS 1 i j)] 9)) := (Below.refl _ _).alloc (Nat.le_refl _) _
                have HBD : Hid (Below w.heap.size w wr.drew) := HBI.out.drew
                have HBA := hid (HBD.out.trans (hal.mono HBD.out.size))
                have HB9 := hid (HBA.out.trans hb9)
                have HCA : Hid ((wr.drew.alloc (.cells #[.string (nmS 1 i j)] 9)).heap[ax]? = some (.cells cur 76 (0, 0))) := blkM (A := wr.drew) HCI.out hal
                have HXA : Hid ((wr.drew.alloc (.cells #[.string (nmS 1 i j)] 9)).heap[xb]? = some (AxB i j f z g1 g2 g3)) := blkM (A := wr.drew) HXI.out hal
                have HC9 := hid (st_keep (owns_keepB H2.out hal) HCA.out hgr9)
                have HX9 : Hid (w9.heap[xb]? = some (AxB i j f z g1 g2 g3)) := st_keep (owns_keepB H2.out hal) (cur := #[.int .i64 (i : Int), .int .i64 (j : Int), .int .i64 f, .int .i64 z, .func (.func g1) #[] #[], .func (.func g2) #[] #[], .func (.func g3) #[] #[]]) (fr := (0, 0)) HXA.out hgr9
                have HQC : Hid (∀ W : World, W.heap[xb]? = some (AxB i j f z g1 g2 g3) → W.cell? ⟨xb, 0, none⟩ = some (.int .i64 (i : Int)) ∧ W.cell? ⟨xb, 1, none⟩ = some (.int .i64 (j : Int))) := fun W hW => ⟨(axb_cells hW).1, (axb_cells hW).2.1⟩
                have HQ0 := hid (HQC.out wr.drew HXI.out)
                have HQA := hid (HQC.out _ HXA.out)
                have HQ9 := hid (HQC.out _ HX9.out)
                have hrun : (Builtin.append_ #[44, 44] 44 #[ov, .slice (some ⟨wr.heap.size, 0, none⟩) 1 1]).run Tryd.prog (wr.alloc (.cells #[.string (nmS 1 i j)] 9)).drew = .ok v' w9 := hrun
                have hs1 := sI_size i
                have hs2 := sI_size j
                have qa : 1 + (sI i).size ≤ 9223372036854775807 := by omega
                have qb : 1 + (sI i).size ≤ 9223372036854775806 := by omega
                have qc : ¬ 9223372036854775807 < 1 + (sI i).size + 1 + (sI j).size := by omega
                have qd : IntKind.i64.wrap 2 = 2 := by decide
                have qe : (⟨#[112, 118, 97]⟩ : ByteArray).extract 1 2 = ⟨#[118]⟩ := by decide
                have qf : (⟨#[118]⟩ ++ sI i ++ ⟨#[46]⟩ ++ sI j : ByteArray) = nmS 1 i j := rfl
                clear hs1 hs2
                clear hown9 hgr9 hb9 hal
                go_wp2_with fail
                refine wp_region_held_drew (S := fun W => W.cell? ⟨xb, 0, none⟩ = some (.int .i64 (i : Int)) ∧ W.cell? ⟨xb, 1, none⟩ = some (.int .i64 (j : Int))) (by kernel_rfl) HQ0.out (fun hHeld => ?_)
                refine take_at 0 33 (ov) rfl rfl (by kernel_rfl) (by kernel_rfl) (by kernel_rfl) (fun _ _ _ h => h) (Or.inl ⟨by rfl, fun w hSw => by (try dsimp only at hSw); go_simp⟩) (by assumption) ?_
                simp only [Act.put, List.setIfInBounds_toArray, List.set_cons_zero, List.set_cons_succ]
                refine take_at 1 34 (.int .i64 1) rfl rfl (by kernel_rfl) (by kernel_rfl) (by kernel_rfl) (fun _ _ _ h => h) (Or.inl ⟨by rfl, fun w hSw => by (try dsimp only at hSw); go_simp⟩) (by assumption) ?_
                simp only [Act.put, List.setIfInBounds_toArray, List.set_cons_zero, List.set_cons_succ]
                refine take_at 2 35 (.int .i64 1) rfl rfl (by kernel_rfl) (by kernel_rfl) (by kernel_rfl) (fun _ _ _ h => h) (Or.inl ⟨by rfl, fun w hSw => by (try dsimp only at hSw); go_simp⟩) (by assumption) ?_
                simp only [Act.put, List.setIfInBounds_toArray, List.set_cons_zero, List.set_cons_succ]
                refine take_at 3 36 (.int .i64 2) rfl rfl (by kernel_rfl) (by kernel_rfl) (by kernel_rfl) (fun _ _ _ h => h) (Or.inl ⟨by rfl, fun w hSw => by (try dsimp only at hSw); go_simp⟩) (by assumption) ?_
                simp only [Act.put, List.setIfInBounds_toArray, List.set_cons_zero, List.set_cons_succ]
                refine take_at 4 37 (.string ⟨#[118]⟩) rfl rfl (by kernel_rfl) (by kernel_rfl) (by kernel_rfl) (fun _ _ _ h => h) (Or.inl ⟨by rfl, fun w hSw => by (try dsimp only at hSw); go_simp⟩) (by assumption) ?_
                simp only [Act.put, List.setIfInBounds_toArray, List.set_cons_zero, List.set_cons_succ]
                refine take_at 5 38 (.pointer (some ⟨xb, 0, none⟩)) rfl rfl (by kernel_rfl) (by kernel_rfl) (by kernel_rfl) (fun _ _ _ h => h) (Or.inl ⟨by rfl, fun w hSw => by (try dsimp only at hSw); go_simp⟩) (by assumption) ?_
                simp only [Act.put, List.setIfInBounds_toArray, List.set_cons_zero, List.set_cons_succ]
                refine take_at 6 39 (.int .i64 (i : Int)) rfl rfl (by kernel_rfl) (by kernel_rfl) (by kernel_rfl) (fun _ _ _ h => h) (Or.inl ⟨by rfl, fun w hSw => by (try dsimp only at hSw); go_simp⟩) (by assumption) ?_
                simp only [Act.put, List.setIfInBounds_toArray, List.set_cons_zero, List.set_cons_succ]
                refine take_at 10 43 (.pointer (some ⟨xb, 1, none⟩)) rfl rfl (by kernel_rfl) (by kernel_rfl) (by kernel_rfl) (fun _ _ _ h => h) (Or.inl ⟨by rfl, fun w hSw => by (try dsimp only at hSw); go_simp⟩) (by assumption) ?_
                simp only [Act.put, List.setIfInBounds_toArray, List.set_cons_zero, List.set_cons_succ]
                refine take_at 11 44 (.int .i64 (j : Int)) rfl rfl (by kernel_rfl) (by kernel_rfl) (by kernel_rfl) (fun _ _ _ h => h) (Or.inl ⟨by rfl, fun w hSw => by (try dsimp only at hSw); go_simp⟩) (by assumption) ?_
                simp only [Act.put, List.setIfInBounds_toArray, List.set_cons_zero, List.set_cons_succ]
                refine wpAnyH_ready (rs := [7]) (by kernel_rfl) (by simp) ?_
                refine AllReadyH.cons (o := _) rfl (fun K' hK => ?_) AllReadyH.nil
                go_simp
                refine (HIA.out _).mono ?_
                rintro e u1 ⟨rfl, hw⟩
                rw [hw]
                clear hw
                go_wp2_with fail
                refine hK.out _ _ HQ0.out (fun hHeld7 => ?_)
                clear hK K'
                try simp only [Act.put, List.setIfInBounds_toArray, List.set_cons_zero, List.set_cons_succ]
                refine take_at 8 41 (.string (⟨#[118]⟩ ++ sI i)) rfl rfl (by kernel_rfl) (by kernel_rfl) (by kernel_rfl) (fun _ _ _ h => h) (Or.inl ⟨by rfl, fun w hSw => by (try dsimp only at hSw); go_simp⟩) (by assumption) ?_
                simp only [Act.put, List.setIfInBounds_toArray, List.set_cons_zero, List.set_cons_succ]
                refine take_at 9 42 (.string (⟨#[118]⟩ ++ sI i ++ ⟨#[46]⟩)) rfl rfl (by kernel_rfl) (by kernel_rfl) (by kernel_rfl) (fun _ _ _ h => h) (Or.inl ⟨by rfl, fun w hSw => by (try dsimp only at hSw); go_simp⟩) (by assumption) ?_
                simp only [Act.put, List.setIfInBounds_toArray, List.set_cons_zero, List.set_cons_succ]
                refine wpAnyH_ready (rs := [12]) (by kernel_rfl) (by simp) ?_
                refine AllReadyH.cons (o := _) rfl (fun K' hK => ?_) AllReadyH.nil
                go_simp
                refine (HJA.out _).mono ?_
                rintro e u1 ⟨rfl, hw⟩
                rw [hw]
                clear hw
                go_wp2_with fail
                refine hK.out _ _ HQ0.out (fun hHeld12 => ?_)
                clear hK K'
                try simp only [Act.put, List.setIfInBounds_toArray, List.set_cons_zero, List.set_cons_succ]
                refine take_at 13 46 (.string (nmS 1 i j)) rfl rfl (by kernel_rfl) (by kernel_rfl) (by kernel_rfl) (fun _ _ _ h => h) (Or.inl ⟨by rfl, fun w hSw => by (try dsimp only at hSw); go_simp⟩) (by assumption) ?_
                simp only [Act.put, List.setIfInBounds_toArray, List.set_cons_zero, List.set_cons_succ]
                refine wpAnyH_ready (rs := [14]) (by kernel_rfl) (by simp) ?_
                refine AllReadyH.cons (o := _) rfl (fun K' hK => ?_) AllReadyH.nil
                go_simp
                go_wp2_with fail
                refine hK.out _ _ HQA.out (fun hHeld14 => ?_)
                clear hK K'
                try simp only [Act.put, List.setIfInBounds_toArray, List.set_cons_zero, List.set_cons_succ]
                refine wpAnyH_ready (rs := [15]) (by kernel_rfl) (by simp) ?_
                refine AllReadyH.cons (o := _) rfl (fun K' hK => ?_) AllReadyH.nil
                refine step_app 44 rfl _ _ rfl ov (.slice (some ⟨wr.heap.size, 0, none⟩) 1 1) (by first | rfl | (simp [Act.eval]; done) | (simp [Act.eval, Act.put]; done)) (by first | rfl | (simp [Act.eval]; done) | (simp [Act.eval, Act.put]; done)) hrun ?_
                refine hK.out _ _ HQ9.out (fun hHeld15 => ?_)
                clear hK K'
                simp only [Act.put, List.setIfInBounds_toArray]
                refine take_at 16 6 (v') rfl rfl (by kernel_rfl) (by kernel_rfl) (by kernel_rfl) (fun _ _ _ h => h) (Or.inl ⟨by rfl, fun w hSw => by (try dsimp only at hSw); go_simp⟩) (by assumption) ?_
                simp only [Act.put]
                refine wpAnyH_done (by kernel_rfl) ?_ _
                go_wp2_with fail
                go_roundw
                case rel => exact ⟨2, _, by omega, by go_num, rfl, HO9, HC9, HX9, HB9⟩
                case measure => simp [intOf]; omega
              · have H3 : Hid (wr.drew.ownsRow w.heap.size 9 1 ov (l0 ++ (List.range 2).map (fun q => nmS q i j)).length (stL (l0 ++ (List.range 2).map (fun q => nmS q i j)))) := HOI.out
                obtain ⟨v', w9, hrun, hown9, hgr9, hb9⟩ := st_append (s := nmS 2 i j) 44 H3.out (by rw [List.length_append, List.length_map, List.length_range]; have := HNN.out; omega) HBI.out.size
                rw [nm_step] at hown9
                have HO9 : Hid (w9.ownsRow w.heap.size 9 1 v' (l0 ++ (List.range (2 + 1)).map (fun q => nmS q i j)).length (stL (l0 ++ (List.range (2 + 1)).map (fun q => nmS q i j)))) := hown9
                have hal : Below wr.drew.heap.size wr.drew (wr.drew.alloc (.cells #[.string (nmS 2 i j)] 9)) := (Below.refl _ _).alloc (Nat.le_refl _) _
                have HBD : Hid (Below w.heap.size w wr.drew) := HBI.out.drew
                have HBA := hid (HBD.out.trans (hal.mono HBD.out.size))
                have HB9 := hid (HBA.out.trans hb9)
                have HCA : Hid ((wr.drew.alloc (.cells #[.string (nmS 2 i j)] 9)).heap[ax]? = some (.cells cur 76 (0, 0))) := blkM (A := wr.drew) HCI.out hal
                have HXA : Hid ((wr.drew.alloc (.cells #[.string (nmS 2 i j)] 9)).heap[xb]? = some (AxB i j f z g1 g2 g3)) := blkM (A := wr.drew) HXI.out hal
                have HC9 := hid (st_keep (owns_keepB H3.out hal) HCA.out hgr9)
                have HX9 : Hid (w9.heap[xb]? = some (AxB i j f z g1 g2 g3)) := st_keep (owns_keepB H3.out hal) (cur := #[.int .i64 (i : Int), .int .i64 (j : Int), .int .i64 f, .int .i64 z, .func (.func g1) #[] #[], .func (.func g2) #[] #[], .func (.func g3) #[] #[]]) (fr := (0, 0)) HXA.out hgr9
                have HQC : Hid (∀ W : World, W.heap[xb]? = some (AxB i j f z g1 g2 g3) → W.cell? ⟨xb, 0, none⟩ = some (.int .i64 (i : Int)) ∧ W.cell? ⟨xb, 1, none⟩ = some (.int .i64 (j : Int))) := fun W hW => ⟨(axb_cells hW).1, (axb_cells hW).2.1⟩
                have HQ0 := hid (HQC.out wr.drew HXI.out)
                have HQA := hid (HQC.out _ HXA.out)
                have HQ9 := hid (HQC.out _ HX9.out)
                have hrun : (Builtin.append_ #[44, 44] 44 #[ov, .slice (some ⟨wr.heap.size, 0, none⟩) 1 1]).run Tryd.prog (wr.alloc (.cells #[.string (nmS 2 i j)] 9)).drew = .ok v' w9 := hrun
                have hs1 := sI_size i
                have hs2 := sI_size j
                have qa : 1 + (sI i).size ≤ 9223372036854775807 := by omega
                have qb : 1 + (sI i).size ≤ 9223372036854775806 := by omega
                have qc : ¬ 9223372036854775807 < 1 + (sI i).size + 1 + (sI j).size := by omega
                have qd : IntKind.i64.wrap 3 = 3 := by decide
                have qe : (⟨#[112, 118, 97]⟩ : ByteArray).extract 2 3 = ⟨#[97]⟩ := by decide
                have qf : (⟨#[97]⟩ ++ sI i ++ ⟨#[46]⟩ ++ sI j : ByteArray) = nmS 2 i j := rfl
                clear hs1 hs2
                clear hown9 hgr9 hb9 hal
                go_wp2_with fail
                refine wp_region_held_drew (S := fun W => W.cell? ⟨xb, 0, none⟩ = some (.int .i64 (i : Int)) ∧ W.cell? ⟨xb, 1, none⟩ = some (.int .i64 (j : Int))) (by kernel_rfl) HQ0.out (fun hHeld => ?_)
                refine take_at 0 33 (ov) rfl rfl (by kernel_rfl) (by kernel_rfl) (by kernel_rfl) (fun _ _ _ h => h) (Or.inl ⟨by rfl, fun w hSw => by (try dsimp only at hSw); go_simp⟩) (by assumption) ?_
                simp only [Act.put, List.setIfInBounds_toArray, List.set_cons_zero, List.set_cons_succ]
                refine take_at 1 34 (.int .i64 2) rfl rfl (by kernel_rfl) (by kernel_rfl) (by kernel_rfl) (fun _ _ _ h => h) (Or.inl ⟨by rfl, fun w hSw => by (try dsimp only at hSw); go_simp⟩) (by assumption) ?_
                simp only [Act.put, List.setIfInBounds_toArray, List.set_cons_zero, List.set_cons_succ]
                refine take_at 2 35 (.int .i64 2) rfl rfl (by kernel_rfl) (by kernel_rfl) (by kernel_rfl) (fun _ _ _ h => h) (Or.inl ⟨by rfl, fun w hSw => by (try dsimp only at hSw); go_simp⟩) (by assumption) ?_
                simp only [Act.put, List.setIfInBounds_toArray, List.set_cons_zero, List.set_cons_succ]
                refine take_at 3 36 (.int .i64 3) rfl rfl (by kernel_rfl) (by kernel_rfl) (by kernel_rfl) (fun _ _ _ h => h) (Or.inl ⟨by rfl, fun w hSw => by (try dsimp only at hSw); go_simp⟩) (by assumption) ?_
                simp only [Act.put, List.setIfInBounds_toArray, List.set_cons_zero, List.set_cons_succ]
                refine take_at 4 37 (.string ⟨#[97]⟩) rfl rfl (by kernel_rfl) (by kernel_rfl) (by kernel_rfl) (fun _ _ _ h => h) (Or.inl ⟨by rfl, fun w hSw => by (try dsimp only at hSw); go_simp⟩) (by assumption) ?_
                simp only [Act.put, List.setIfInBounds_toArray, List.set_cons_zero, List.set_cons_succ]
                refine take_at 5 38 (.pointer (some ⟨xb, 0, none⟩)) rfl rfl (by kernel_rfl) (by kernel_rfl) (by kernel_rfl) (fun _ _ _ h => h) (Or.inl ⟨by rfl, fun w hSw => by (try dsimp only at hSw); go_simp⟩) (by assumption) ?_
                simp only [Act.put, List.setIfInBounds_toArray, List.set_cons_zero, List.set_cons_succ]
                refine take_at 6 39 (.int .i64 (i : Int)) rfl rfl (by kernel_rfl) (by kernel_rfl) (by kernel_rfl) (fun _ _ _ h => h) (Or.inl ⟨by rfl, fun w hSw => by (try dsimp only at hSw); go_simp⟩) (by assumption) ?_
                simp only [Act.put, List.setIfInBounds_toArray, List.set_cons_zero, List.set_cons_succ]
                refine take_at 10 43 (.pointer (some ⟨xb, 1, none⟩)) rfl rfl (by kernel_rfl) (by kernel_rfl) (by kernel_rfl) (fun _ _ _ h => h) (Or.inl ⟨by rfl, fun w hSw => by (try dsimp only at hSw); go_simp⟩) (by assumption) ?_
                simp only [Act.put, List.setIfInBounds_toArray, List.set_cons_zero, List.set_cons_succ]
                refine take_at 11 44 (.int .i64 (j : Int)) rfl rfl (by kernel_rfl) (by kernel_rfl) (by kernel_rfl) (fun _ _ _ h => h) (Or.inl ⟨by rfl, fun w hSw => by (try dsimp only at hSw); go_simp⟩) (by assumption) ?_
                simp only [Act.put, List.setIfInBounds_toArray, List.set_cons_zero, List.set_cons_succ]
                refine wpAnyH_ready (rs := [7]) (by kernel_rfl) (by simp) ?_
                refine AllReadyH.cons (o := _) rfl (fun K' hK => ?_) AllReadyH.nil
                go_simp
                refine (HIA.out _).mono ?_
                rintro e u1 ⟨rfl, hw⟩
                rw [hw]
                clear hw
                go_wp2_with fail
                refine hK.out _ _ HQ0.out (fun hHeld7 => ?_)
                clear hK K'
                try simp only [Act.put, List.setIfInBounds_toArray, List.set_cons_zero, List.set_cons_succ]
                refine take_at 8 41 (.string (⟨#[97]⟩ ++ sI i)) rfl rfl (by kernel_rfl) (by kernel_rfl) (by kernel_rfl) (fun _ _ _ h => h) (Or.inl ⟨by rfl, fun w hSw => by (try dsimp only at hSw); go_simp⟩) (by assumption) ?_
                simp only [Act.put, List.setIfInBounds_toArray, List.set_cons_zero, List.set_cons_succ]
                refine take_at 9 42 (.string (⟨#[97]⟩ ++ sI i ++ ⟨#[46]⟩)) rfl rfl (by kernel_rfl) (by kernel_rfl) (by kernel_rfl) (fun _ _ _ h => h) (Or.inl ⟨by rfl, fun w hSw => by (try dsimp only at hSw); go_simp⟩) (by assumption) ?_
                simp only [Act.put, List.setIfInBounds_toArray, List.set_cons_zero, List.set_cons_succ]
                refine wpAnyH_ready (rs := [12]) (by kernel_rfl) (by simp) ?_
                refine AllReadyH.cons (o := _) rfl (fun K' hK => ?_) AllReadyH.nil
                go_simp
                refine (HJA.out _).mono ?_
                rintro e u1 ⟨rfl, hw⟩
                rw [hw]
                clear hw
                go_wp2_with fail
                refine hK.out _ _ HQ0.out (fun hHeld12 => ?_)
                clear hK K'
                try simp only [Act.put, List.setIfInBounds_toArray, List.set_cons_zero, List.set_cons_succ]
                refine take_at 13 46 (.string (nmS 2 i j)) rfl rfl (by kernel_rfl) (by kernel_rfl) (by kernel_rfl) (fun _ _ _ h => h) (Or.inl ⟨by rfl, fun w hSw => by (try dsimp only at hSw); go_simp⟩) (by assumption) ?_
                simp only [Act.put, List.setIfInBounds_toArray, List.set_cons_zero, List.set_cons_succ]
                refine wpAnyH_ready (rs := [14]) (by kernel_rfl) (by simp) ?_
                refine AllReadyH.cons (o := _) rfl (fun K' hK => ?_) AllReadyH.nil
                go_simp
                go_wp2_with fail
                refine hK.out _ _ HQA.out (fun hHeld14 => ?_)
                clear hK K'
                try simp only [Act.put, List.setIfInBounds_toArray, List.set_cons_zero, List.set_cons_succ]
                refine wpAnyH_ready (rs := [15]) (by kernel_rfl) (by simp) ?_
                refine AllReadyH.cons (o := _) rfl (fun K' hK => ?_) AllReadyH.nil
                refine step_app 44 rfl _ _ rfl ov (.slice (some ⟨wr.heap.size, 0, none⟩) 1 1) (by first | rfl | (simp [Act.eval]; done) | (simp [Act.eval, Act.put]; done)) (by first | rfl | (simp [Act.eval]; done) | (simp [Act.eval, Act.put]; done)) hrun ?_
                refine hK.out _ _ HQ9.out (fun hHeld15 => ?_)
                clear hK K'
                simp only [Act.put, List.setIfInBounds_toArray]
                refine take_at 16 6 (v') rfl rfl (by kernel_rfl) (by kernel_rfl) (by kernel_rfl) (fun _ _ _ h => h) (Or.inl ⟨by rfl, fun w hSw => by (try dsimp only at hSw); go_simp⟩) (by assumption) ?_
                simp only [Act.put]
                refine wpAnyH_done (by kernel_rfl) ?_ _
                go_wp2_with fail
                go_roundw
                case rel => exact ⟨3, _, by omega, by go_num, rfl, HO9, HC9, HX9, HB9⟩
                case measure => simp [intOf]; omega
            · have hoz : (o : Int) = z := by omega
              have HOF : Hid (wr.ownsRow w.heap.size 9 1 (ov) (nmL K (L.take (t + 1))).length (stL (nmL K (L.take (t + 1))))) := by
                show World.ownsRow _ _ _ _ _ _ _
                rw [← HNT.out, ← hoz, Int.toNat_natCast]
                exact HOI.out
              go_wp2_with fail
              go_roundw
              case rel => exact ⟨t + 1, _, by omega, by go_num, rfl, HOF, HCI, HBI⟩
              case measure => simp [intOf]; omega
        · obtain rfl : t = T := by omega
          have HOE : Hid (wr.ownsRow w.heap.size 9 1 (x0) (nmL K L).length (stL (nmL K L))) := by
            have := HO.out
            rw [List.take_of_length_le (Nat.le_of_eq hT.out)] at this
            exact this
          go_wp2_with fail
          exact bodyPost_ret (v := .tuple #[x0, .int .i64 0]) (by simp [results, Tryd.results9, go_sem]) rfl (HFIN.out _ _ HOE.out HBR.out)
  · have HE0 := hid hE0
    obtain ⟨E, hE⟩ : ∃ t, dmE n K A N F = t := ⟨_, rfl⟩
    rw [hE] at HDM HE0
    rw [hE]
    have hne : (E != 0) = true := by have := HE0.out; simpa using this
    clear h hn hE hE0
    go_enter Tryd.func9, Tryd.ntmps9
    go_wp2_with fail
    refine (HDM.out _ HB0.out.1).mono ?_
    rintro e w1 ⟨rfl, hb⟩
    have HB1 := hid (HB0.out.1.trans (hb.mono HB0.out.1.size))
    clear hb
    go_wp2_with fail
    exact bodyPost_ret (v := .tuple #[.slice none 0 0, .int .i64 E]) (by simp [results, Tryd.results9, go_sem]) rfl ⟨⟨_, rfl, Or.inr ⟨HE0.out, rfl⟩⟩, HB1.out⟩
end Go.Proofs.YtfngjoaghbofgabDoor
