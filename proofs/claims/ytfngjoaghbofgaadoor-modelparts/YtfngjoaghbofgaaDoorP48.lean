
/- The document's Names. -/
import Derived.Test.YtfngjoaghbofgaaDoorP47
namespace Go.Proofs.YtfngjoaghbofgaaDoor
open Go.RowKit Go.IntWalk

theorem st_keepT {W W' : World} {base n kb : Nat} {v : Value} {xs : List Value} {cur : Array Value} {fr : Nat × Nat} {ty : TypeId} (hT : ty ≠ 9) (hO : W.ownsRow base 9 1 v n xs) (hK : W.heap[kb]? = some (.cells cur ty fr)) (hg : W.grownBy W' v.ownBlock) : W'.heap[kb]? = some (.cells cur ty fr) := by
  refine (hg.block kb (Array.getElem?_eq_some_iff.1 hK).1 ?_).trans hK
  intro hc
  rcases hO.2 with ⟨rfl, _⟩ | ⟨g', cap, cur', rfl, _, e3, _⟩
  · cases hc
  · simp only [Value.ownBlock, Option.some.injEq] at hc
    rw [← hc, hK] at e3
    simp at e3
    exact hT e3.2.1
theorem nm_axis (K A : Nat → Int) (i a : Nat) (z : Nat) (hz : (szK (K i)).toNat = z) : nmL K (axP A i ++ (List.range a).map (fun j => (i, j))) ++ (List.range z).map (fun q => nmS q i a) = nmL K (axP A i ++ (List.range (a + 1)).map (fun j => (i, j))) := by
  unfold nmL
  rw [List.range_succ, List.map_append, ← List.append_assoc, List.flatMap_append (xs := axP A i ++ _)]
  simp [hz]
theorem nm_part (K A : Nat → Int) (i a : Nat) (ha : (a : Int) = A i) : nmL K (axP A i ++ (List.range a).map (fun j => (i, j))) = nmL K (axP A (i + 1)) := by
  show _ = nmL K (axP A i ++ (List.range (A i).toNat).map (fun j => (i, j)))
  rw [← ha, Int.toNat_natCast]
set_option maxRecDepth 4000 in
set_option maxHeartbeats 8000000 in
theorem rNames_any (sa : Option Addr) (n cap : Nat) (K A : Nat → Int) (N F : Nat → Nat) (w : World) (h : PtF w sa n K A N F) (hn : n ≤ 4398046511104) : Calls Tryd.prog 13 #[.agg #[.slice sa n cap]] w fun r w' => (∃ v, r = .returned (.tuple #[v, .int .i64 (dmE n K A N F)]) ∧ ((dmE n K A N F = 0 ∧ w'.ownsRow w.heap.size 9 1 v (nmL K (axP A n)).length (stL (nmL K (axP A n)))) ∨ (dmE n K A N F ≠ 0 ∧ v = .slice none 0 0))) ∧ Below w.heap.size w w' := by
  have HB0 : Hid (Below w.heap.size w (w.alloc (MoBox sa n cap)) ∧ (w.alloc (MoBox sa n cap)).heap[w.heap.size]? = some (MoBox sa n cap)) := ⟨(Below.refl _ _).alloc (Nat.le_refl _) _, nblkM _ _⟩
  have HCK := hid (fun W (hW : Below w.heap.size w W) => rCheck_mo sa n cap K A N F W (h.below hW) hn)
  have HP := hid h
  obtain ⟨V, hV⟩ : ∃ V, Hid (w.alloc (MoBox sa n cap) = V) := ⟨_, rfl⟩
  rw [hV.out] at HB0
  have hV' := hV.out
  unfold MoBox at hV'
  have c0 := mocell_of HB0.out.2
  by_cases hE0 : dmE n K A N F = 0
  · have HSM := hid (fun e he => @small_part K A N F n hE0 e he)
    obtain ⟨h0, y1, y2, y3, y4, y5⟩ := dm_zero hE0
    have HY1 := hid (scE_all y1)
    have HFIN : Hid (∀ v W, W.ownsRow w.heap.size 9 1 v (nmL K (axP A n)).length (stL (nmL K (axP A n))) → Below w.heap.size w W → (∃ v', Ending.returned (.tuple #[v, .int .i64 0]) = Ending.returned (.tuple #[v', .int .i64 (dmE n K A N F)]) ∧ ((dmE n K A N F = 0 ∧ W.ownsRow w.heap.size 9 1 v' (nmL K (axP A n)).length (stL (nmL K (axP A n)))) ∨ (dmE n K A N F ≠ 0 ∧ v' = .slice none 0 0))) ∧ Below w.heap.size w W) := fun v W h1 h2 => ⟨⟨v, by rw [hE0], Or.inl ⟨hE0, h1⟩⟩, h2⟩
    have HLN : Hid (∀ i a : Nat, i < n → (a : Int) < A i → (axP A i ++ (List.range a).map (fun j => (i, j))).length ≤ 12) := fun i a hi ha => by
      have p := axP_len (K := K) (A := A) (N := N) (F := F) (n := i) (fun q hq => HY1.out q (by omega))
      obtain ⟨_, _, _, z1, _⟩ := ptS_in (HY1.out i hi)
      obtain ⟨b1, b2, b3⟩ := y4 (i + 1) (by omega)
      have c1 : uS (ptS K A) (i + 1) = uS (ptS K A) i + A i * szK (K i) := rfl
      have c2 : A i * 1 ≤ A i * szK (K i) := Int.mul_le_mul_of_nonneg_left z1 (by omega)
      rw [List.length_append, List.length_map, List.length_range]
      omega
    have HNL := hid (nm_len K)
    rw [hE0] at HCK
    obtain ⟨b, off, rfl, hbl, hcl⟩ := HP.out.2 h0
    have HC := hid (fun W (hW : Below w.heap.size w W) i hi => pt_at hbl hcl hW i hi)
    clear hE0 h h0 y1 y2 y3 y4 y5 hcl
    go_enter Tryd.func13, Tryd.ntmps13
    go_wp2_with fail
    refine (HCK.out _ HB0.out.1).mono ?_
    rintro e w1 ⟨rfl, hb⟩
    have HB1 : Hid (Below w.heap.size w w1 ∧ w1.heap[w.heap.size]? = some (MoBox (some ⟨b, off, none⟩) n cap)) := ⟨HB0.out.1.trans (hb.mono HB0.out.1.size), blkM HB0.out.2 hb⟩
    clear hb c0
    go_wp2_with fail
    go_loopw [5, 7] (fun ov iv wr => ∃ (i : Nat) (x : Value), i ≤ n ∧ iv = .int .i64 i ∧ x = ov ∧ Hid (wr.ownsRow w.heap.size 9 1 ov (nmL K (axP A i)).length (stL (nmL K (axP A i)))) ∧ Hid (Below w.heap.size w wr ∧ wr.heap[w.heap.size]? = some (MoBox (some ⟨b, off, none⟩) n cap))) (fun _ iv _ => n - (intOf iv).toNat)
    case atStart => exact ⟨0, _, Nat.zero_le _, rfl, rfl, World.ownsRow_nil _ _ _ _, HB1⟩
    case round =>
      obtain ⟨i, x0, hi, rfl, rfl, HO, HBR⟩ := hrel
      have c0 := mocell_of HBR.out.2
      by_cases hlt : i < n
      · have hiI : (i : Int) < (n : Int) := by omega
        have hi0 : (0 : Int) ≤ (i : Int) := by omega
        have HSZ := hid (fun W => size_any (K i) W)
        obtain ⟨_, _, hA, hz1, hz3⟩ := ptS_in (HY1.out i hlt)
        have HCI : Hid (∀ W, Below w.heap.size w W → PtC W b (off + i * 4) (K i) (A i) (N i) (F i)) := fun W hW => HC.out W hW i hlt
        have HLI := hid (fun a ha => HLN.out i a hlt ha)
        have HSI : Hid (∀ a : Nat, (a : Int) < A i → i < 12 ∧ a < 12) := fun a ha => by
          have := HSM.out (i, a) (axP_mem.2 ⟨hlt, ha⟩)
          exact ⟨this.1, this.2.1⟩
        have HAX := hid (fun a z h => nm_axis K A i a z h)
        have HPT := hid (fun a h => nm_part K A i a h)
        obtain ⟨z0, hz0⟩ := Int.eq_ofNat_of_zero_le (show 0 ≤ szK (K i) by omega)
        have HZT : Hid ((szK (K i)).toNat = z0) := by show _ = z0; omega
        rw [hz0] at HSZ hz1 hz3
        obtain ⟨k1, hk1⟩ : ∃ t, K i = t := ⟨_, rfl⟩
        obtain ⟨a1, ha1⟩ : ∃ t, A i = t := ⟨_, rfl⟩
        rw [hk1] at HSZ HCI
        rw [ha1] at HCI HLI HSI HPT hA
        clear hz0 hk1 ha1
        go_wp2_with fail
        clear c0
        go_loopw [5, 8] (fun ov av wi => ∃ (a : Nat) (x : Value), (a : Int) ≤ a1 ∧ av = .int .i64 a ∧ x = ov ∧ Hid (wi.ownsRow w.heap.size 9 1 ov (nmL K (axP A i ++ (List.range a).map (fun j => (i, j)))).length (stL (nmL K (axP A i ++ (List.range a).map (fun j => (i, j)))))) ∧ Hid (Below w.heap.size w wi ∧ wi.heap[w.heap.size]? = some (MoBox (some ⟨b, off, none⟩) n cap))) (fun _ av _ => a1.toNat - (intOf av).toNat)
        case atStart => exact ⟨0, _, by omega, rfl, rfl, by show World.ownsRow _ _ _ _ _ _ _; simpa using HO.out, HBR⟩
        case round =>
          obtain ⟨a, x1, ha, rfl, rfl, HOA, HBA⟩ := hrel
          have c0 := mocell_of HBA.out.2
          obtain ⟨p0, p1, _, _⟩ := HCI.out wr HBA.out.1
          by_cases hal : (a : Int) < a1
          · have HNN := hid (HNL.out _ (HLI.out a hal))
            have HIA := hid (fun W => itoa_any i (HSI.out a hal).1 W)
            have HJA := hid (fun W => itoa_any a (HSI.out a hal).2 W)
            have HNX := hid (HAX.out a z0 HZT.out)
            obtain ⟨l0, hl0⟩ : ∃ q, nmL K (axP A i ++ (List.range a).map (fun j => (i, j))) = q := ⟨_, rfl⟩
            rw [hl0] at HOA HNN HNX
            clear hl0
            go_wp2_with fail
            clear c0 p0 p1
            go_loopw [5, 9] (fun ov jv wi => ∃ (o : Nat) (x : Value), o ≤ z0 ∧ jv = .int .i64 o ∧ x = ov ∧ Hid (wi.ownsRow w.heap.size 9 1 ov (l0 ++ (List.range o).map (fun q => nmS q i a)).length (stL (l0 ++ (List.range o).map (fun q => nmS q i a)))) ∧ Hid (Below w.heap.size w wi ∧ wi.heap[w.heap.size]? = some (MoBox (some ⟨b, off, none⟩) n cap))) (fun _ jv _ => z0 - (intOf jv).toNat)
            case atStart => exact ⟨0, _, Nat.zero_le _, rfl, rfl, by show World.ownsRow _ _ _ _ _ _ _; simpa using HOA.out, HBA⟩
            case round =>
              obtain ⟨o, ov, ho, rfl, rfl, HOI, HBI⟩ := hrel
              obtain ⟨p0, p1, _, _⟩ := HCI.out wr HBI.out.1
              by_cases hol : o < z0
              · have ho3 : o < 3 := by omega
                have holI : (o : Int) < (z0 : Int) := by omega
                rcases (show o = 0 ∨ o = 1 ∨ o = 2 by omega) with rfl | rfl | rfl
                · have H1 : Hid (wr.drew.ownsRow w.heap.size 9 1 ov (l0 ++ (List.range 0).map (fun q => nmS q i a)).length (stL (l0 ++ (List.range 0).map (fun q => nmS q i a)))) := HOI.out
                  obtain ⟨v', w9, hrun, hown9, hgr9, hb9⟩ := st_append (s := nmS 0 i a) 37 H1.out (by rw [List.length_append, List.length_map, List.length_range]; have := HNN.out; omega) HBI.out.1.size
                  rw [nm_step] at hown9
                  have HO9 : Hid (w9.ownsRow w.heap.size 9 1 v' (l0 ++ (List.range (0 + 1)).map (fun q => nmS q i a)).length (stL (l0 ++ (List.range (0 + 1)).map (fun q => nmS q i a)))) := hown9
                  have hal : Below wr.drew.heap.size wr.drew (wr.drew.alloc (.cells #[.string (nmS 0 i a)] 9)) := (Below.refl _ _).alloc (Nat.le_refl _) _
                  have HBD : Hid (Below w.heap.size w wr.drew) := HBI.out.1.drew
                  have HBA := hid (HBD.out.trans (hal.mono HBD.out.size))
                  have HXA : Hid ((wr.drew.alloc (.cells #[.string (nmS 0 i a)] 9)).heap[w.heap.size]? = some (MoBox (some ⟨b, off, none⟩) n cap)) := blkM (A := wr.drew) HBI.out.2 hal
                  have HB9 : Hid (Below w.heap.size w w9 ∧ w9.heap[w.heap.size]? = some (MoBox (some ⟨b, off, none⟩) n cap)) := ⟨HBA.out.trans hb9, st_keepT (by decide) (owns_keepB H1.out hal) (cur := #[.slice (some ⟨b, off, none⟩) n cap]) (fr := (0, 0)) HXA.out hgr9⟩
                  have hrun : (Builtin.append_ #[37, 37] 37 #[ov, .slice (some ⟨wr.heap.size, 0, none⟩) 1 1]).run Tryd.prog (wr.alloc (.cells #[.string (nmS 0 i a)] 9)).drew = .ok v' w9 := hrun
                  have hs1 := sI_size i
                  have hs2 := sI_size a
                  have qa : 1 + (sI i).size ≤ 9223372036854775807 := by omega
                  have qb : 1 + (sI i).size ≤ 9223372036854775806 := by omega
                  have qc : ¬ 9223372036854775807 < 1 + (sI i).size + 1 + (sI a).size := by omega
                  have qd : IntKind.i64.wrap 1 = 1 := by decide
                  have qe : (⟨#[112, 118, 97]⟩ : ByteArray).extract 0 1 = ⟨#[112]⟩ := by decide
                  have qf : (⟨#[112]⟩ ++ sI i ++ ⟨#[46]⟩ ++ sI a : ByteArray) = nmS 0 i a := rfl
                  have c0 := mocell_of HBI.out.2
                  clear hs1 hs2 hown9 hgr9 hb9 hal
                  go_wp2_with fail
                  refine (HSZ.out _).mono ?_
                  rintro e u0 ⟨rfl, hw⟩
                  rw [hw]
                  clear hw
                  go_wp2_with fail
                  refine wp_region_held_drew (S := fun _ => True) (by kernel_rfl) True.intro (fun hHeld => ?_)
                  refine take_at 0 43 (ov) rfl rfl (by kernel_rfl) (by kernel_rfl) (by kernel_rfl) (fun _ _ _ h => h) (Or.inl ⟨by rfl, fun w hSw => by (try dsimp only at hSw); go_simp⟩) (by assumption) ?_
                  simp only [Act.put, List.setIfInBounds_toArray, List.set_cons_zero, List.set_cons_succ]
                  refine take_at 1 44 (.string ⟨#[112, 118, 97]⟩) rfl rfl (by kernel_rfl) (by kernel_rfl) (by kernel_rfl) (fun _ _ _ h => h) (Or.inl ⟨by rfl, fun w hSw => by (try dsimp only at hSw); go_simp⟩) (by assumption) ?_
                  simp only [Act.put, List.setIfInBounds_toArray, List.set_cons_zero, List.set_cons_succ]
                  refine take_at 2 45 (.int .i64 0) rfl rfl (by kernel_rfl) (by kernel_rfl) (by kernel_rfl) (fun _ _ _ h => h) (Or.inl ⟨by rfl, fun w hSw => by (try dsimp only at hSw); go_simp⟩) (by assumption) ?_
                  simp only [Act.put, List.setIfInBounds_toArray, List.set_cons_zero, List.set_cons_succ]
                  refine take_at 3 46 (.int .i64 0) rfl rfl (by kernel_rfl) (by kernel_rfl) (by kernel_rfl) (fun _ _ _ h => h) (Or.inl ⟨by rfl, fun w hSw => by (try dsimp only at hSw); go_simp⟩) (by assumption) ?_
                  simp only [Act.put, List.setIfInBounds_toArray, List.set_cons_zero, List.set_cons_succ]
                  refine take_at 4 47 (.int .i64 1) rfl rfl (by kernel_rfl) (by kernel_rfl) (by kernel_rfl) (fun _ _ _ h => h) (Or.inl ⟨by rfl, fun w hSw => by (try dsimp only at hSw); go_simp⟩) (by assumption) ?_
                  simp only [Act.put, List.setIfInBounds_toArray, List.set_cons_zero, List.set_cons_succ]
                  refine take_at 5 48 (.string ⟨#[112]⟩) rfl rfl (by kernel_rfl) (by kernel_rfl) (by kernel_rfl) (fun _ _ _ h => h) (Or.inl ⟨by rfl, fun w hSw => by (try dsimp only at hSw); go_simp⟩) (by assumption) ?_
                  simp only [Act.put, List.setIfInBounds_toArray, List.set_cons_zero, List.set_cons_succ]
                  refine take_at 6 49 (.int .i64 (i : Int)) rfl rfl (by kernel_rfl) (by kernel_rfl) (by kernel_rfl) (fun _ _ _ h => h) (Or.inl ⟨by rfl, fun w hSw => by (try dsimp only at hSw); go_simp⟩) (by assumption) ?_
                  simp only [Act.put, List.setIfInBounds_toArray, List.set_cons_zero, List.set_cons_succ]
                  refine take_at 10 53 (.int .i64 (a : Int)) rfl rfl (by kernel_rfl) (by kernel_rfl) (by kernel_rfl) (fun _ _ _ h => h) (Or.inl ⟨by rfl, fun w hSw => by (try dsimp only at hSw); go_simp⟩) (by assumption) ?_
                  simp only [Act.put, List.setIfInBounds_toArray, List.set_cons_zero, List.set_cons_succ]
                  refine wpAnyH_ready (rs := [7]) (by kernel_rfl) (by simp) ?_
                  refine AllReadyH.cons (o := _) rfl (fun K' hK => ?_) AllReadyH.nil
                  go_simp
                  refine (HIA.out _).mono ?_
                  rintro e u1 ⟨rfl, hw⟩
                  rw [hw]
                  clear hw
                  go_wp2_with fail
                  refine hK.out _ _ True.intro (fun hHeld7 => ?_)
                  clear hK K'
                  try simp only [Act.put, List.setIfInBounds_toArray, List.set_cons_zero, List.set_cons_succ]
                  refine take_at 8 51 (.string (⟨#[112]⟩ ++ sI i)) rfl rfl (by kernel_rfl) (by kernel_rfl) (by kernel_rfl) (fun _ _ _ h => h) (Or.inl ⟨by rfl, fun w hSw => by (try dsimp only at hSw); go_simp⟩) (by assumption) ?_
                  simp only [Act.put, List.setIfInBounds_toArray, List.set_cons_zero, List.set_cons_succ]
                  refine take_at 9 52 (.string (⟨#[112]⟩ ++ sI i ++ ⟨#[46]⟩)) rfl rfl (by kernel_rfl) (by kernel_rfl) (by kernel_rfl) (fun _ _ _ h => h) (Or.inl ⟨by rfl, fun w hSw => by (try dsimp only at hSw); go_simp⟩) (by assumption) ?_
                  simp only [Act.put, List.setIfInBounds_toArray, List.set_cons_zero, List.set_cons_succ]
                  refine wpAnyH_ready (rs := [11]) (by kernel_rfl) (by simp) ?_
                  refine AllReadyH.cons (o := _) rfl (fun K' hK => ?_) AllReadyH.nil
                  go_simp
                  refine (HJA.out _).mono ?_
                  rintro e u1 ⟨rfl, hw⟩
                  rw [hw]
                  clear hw
                  go_wp2_with fail
                  refine hK.out _ _ True.intro (fun hHeld11 => ?_)
                  clear hK K'
                  try simp only [Act.put, List.setIfInBounds_toArray, List.set_cons_zero, List.set_cons_succ]
                  refine take_at 12 55 (.string (nmS 0 i a)) rfl rfl (by kernel_rfl) (by kernel_rfl) (by kernel_rfl) (fun _ _ _ h => h) (Or.inl ⟨by rfl, fun w hSw => by (try dsimp only at hSw); go_simp⟩) (by assumption) ?_
                  simp only [Act.put, List.setIfInBounds_toArray, List.set_cons_zero, List.set_cons_succ]
                  refine wpAnyH_ready (rs := [13]) (by kernel_rfl) (by simp) ?_
                  refine AllReadyH.cons (o := _) rfl (fun K' hK => ?_) AllReadyH.nil
                  go_simp
                  go_wp2_with fail
                  refine hK.out _ _ True.intro (fun hHeld13 => ?_)
                  clear hK K'
                  try simp only [Act.put, List.setIfInBounds_toArray, List.set_cons_zero, List.set_cons_succ]
                  refine wpAnyH_ready (rs := [14]) (by kernel_rfl) (by simp) ?_
                  refine AllReadyH.cons (o := _) rfl (fun K' hK => ?_) AllReadyH.nil
                  refine step_app 37 rfl _ _ rfl ov (.slice (some ⟨wr.heap.size, 0, none⟩) 1 1) (by first | rfl | (simp [Act.eval]; done) | (simp [Act.eval, Act.put]; done)) (by first | rfl | (simp [Act.eval]; done) | (simp [Act.eval, Act.put]; done)) hrun ?_
                  refine hK.out _ _ True.intro (fun hHeld14 => ?_)
                  clear hK K'
                  simp only [Act.put, List.setIfInBounds_toArray]
                  refine take_at 15 5 (v') rfl rfl (by kernel_rfl) (by kernel_rfl) (by kernel_rfl) (fun _ _ _ h => h) (Or.inl ⟨by rfl, fun w hSw => by (try dsimp only at hSw); go_simp⟩) (by assumption) ?_
                  simp only [Act.put]
                  refine wpAnyH_done (by kernel_rfl) ?_ _
                  go_wp2_with fail
                  go_roundw
                  case rel => exact ⟨1, _, by omega, by go_num, rfl, HO9, HB9⟩
                  case measure => simp [intOf]; omega
                · have H2 : Hid (wr.drew.ownsRow w.heap.size 9 1 ov (l0 ++ (List.range 1).map (fun q => nmS q i a)).length (stL (l0 ++ (List.range 1).map (fun q => nmS q i a)))) := HOI.out
                  obtain ⟨v', w9, hrun, hown9, hgr9, hb9⟩ := st_append (s := nmS 1 i a) 37 H2.out (by rw [List.length_append, List.length_map, List.length_range]; have := HNN.out; omega) HBI.out.1.size
                  rw [nm_step] at hown9
                  have HO9 : Hid (w9.ownsRow w.heap.size 9 1 v' (l0 ++ (List.range (1 + 1)).map (fun q => nmS q i a)).length (stL (l0 ++ (List.range (1 + 1)).map (fun q => nmS q i a)))) := hown9
                  have hal : Below wr.drew.heap.size wr.drew (wr.drew.alloc (.cells #[.string (nmS 1 i a)] 9)) := (Below.refl _ _).alloc (Nat.le_refl _) _
                  have HBD : Hid (Below w.heap.size w wr.drew) := HBI.out.1.drew
                  have HBA := hid (HBD.out.trans (hal.mono HBD.out.size))
                  have HXA : Hid ((wr.drew.alloc (.cells #[.string (nmS 1 i a)] 9)).heap[w.heap.size]? = some (MoBox (some ⟨b, off, none⟩) n cap)) := blkM (A := wr.drew) HBI.out.2 hal
                  have HB9 : Hid (Below w.heap.size w w9 ∧ w9.heap[w.heap.size]? = some (MoBox (some ⟨b, off, none⟩) n cap)) := ⟨HBA.out.trans hb9, st_keepT (by decide) (owns_keepB H2.out hal) (cur := #[.slice (some ⟨b, off, none⟩) n cap]) (fr := (0, 0)) HXA.out hgr9⟩
                  have hrun : (Builtin.append_ #[37, 37] 37 #[ov, .slice (some ⟨wr.heap.size, 0, none⟩) 1 1]).run Tryd.prog (wr.alloc (.cells #[.string (nmS 1 i a)] 9)).drew = .ok v' w9 := hrun
                  have hs1 := sI_size i
                  have hs2 := sI_size a
                  have qa : 1 + (sI i).size ≤ 9223372036854775807 := by omega
                  have qb : 1 + (sI i).size ≤ 9223372036854775806 := by omega
                  have qc : ¬ 9223372036854775807 < 1 + (sI i).size + 1 + (sI a).size := by omega
                  have qd : IntKind.i64.wrap 2 = 2 := by decide
                  have qe : (⟨#[112, 118, 97]⟩ : ByteArray).extract 1 2 = ⟨#[118]⟩ := by decide
                  have qf : (⟨#[118]⟩ ++ sI i ++ ⟨#[46]⟩ ++ sI a : ByteArray) = nmS 1 i a := rfl
                  have c0 := mocell_of HBI.out.2
                  clear hs1 hs2 hown9 hgr9 hb9 hal
                  go_wp2_with fail
                  refine (HSZ.out _).mono ?_
                  rintro e u0 ⟨rfl, hw⟩
                  rw [hw]
                  clear hw
                  go_wp2_with fail
                  refine wp_region_held_drew (S := fun _ => True) (by kernel_rfl) True.intro (fun hHeld => ?_)
                  refine take_at 0 43 (ov) rfl rfl (by kernel_rfl) (by kernel_rfl) (by kernel_rfl) (fun _ _ _ h => h) (Or.inl ⟨by rfl, fun w hSw => by (try dsimp only at hSw); go_simp⟩) (by assumption) ?_
                  simp only [Act.put, List.setIfInBounds_toArray, List.set_cons_zero, List.set_cons_succ]
                  refine take_at 1 44 (.string ⟨#[112, 118, 97]⟩) rfl rfl (by kernel_rfl) (by kernel_rfl) (by kernel_rfl) (fun _ _ _ h => h) (Or.inl ⟨by rfl, fun w hSw => by (try dsimp only at hSw); go_simp⟩) (by assumption) ?_
                  simp only [Act.put, List.setIfInBounds_toArray, List.set_cons_zero, List.set_cons_succ]
                  refine take_at 2 45 (.int .i64 1) rfl rfl (by kernel_rfl) (by kernel_rfl) (by kernel_rfl) (fun _ _ _ h => h) (Or.inl ⟨by rfl, fun w hSw => by (try dsimp only at hSw); go_simp⟩) (by assumption) ?_
                  simp only [Act.put, List.setIfInBounds_toArray, List.set_cons_zero, List.set_cons_succ]
                  refine take_at 3 46 (.int .i64 1) rfl rfl (by kernel_rfl) (by kernel_rfl) (by kernel_rfl) (fun _ _ _ h => h) (Or.inl ⟨by rfl, fun w hSw => by (try dsimp only at hSw); go_simp⟩) (by assumption) ?_
                  simp only [Act.put, List.setIfInBounds_toArray, List.set_cons_zero, List.set_cons_succ]
                  refine take_at 4 47 (.int .i64 2) rfl rfl (by kernel_rfl) (by kernel_rfl) (by kernel_rfl) (fun _ _ _ h => h) (Or.inl ⟨by rfl, fun w hSw => by (try dsimp only at hSw); go_simp⟩) (by assumption) ?_
                  simp only [Act.put, List.setIfInBounds_toArray, List.set_cons_zero, List.set_cons_succ]
                  refine take_at 5 48 (.string ⟨#[118]⟩) rfl rfl (by kernel_rfl) (by kernel_rfl) (by kernel_rfl) (fun _ _ _ h => h) (Or.inl ⟨by rfl, fun w hSw => by (try dsimp only at hSw); go_simp⟩) (by assumption) ?_
                  simp only [Act.put, List.setIfInBounds_toArray, List.set_cons_zero, List.set_cons_succ]
                  refine take_at 6 49 (.int .i64 (i : Int)) rfl rfl (by kernel_rfl) (by kernel_rfl) (by kernel_rfl) (fun _ _ _ h => h) (Or.inl ⟨by rfl, fun w hSw => by (try dsimp only at hSw); go_simp⟩) (by assumption) ?_
                  simp only [Act.put, List.setIfInBounds_toArray, List.set_cons_zero, List.set_cons_succ]
                  refine take_at 10 53 (.int .i64 (a : Int)) rfl rfl (by kernel_rfl) (by kernel_rfl) (by kernel_rfl) (fun _ _ _ h => h) (Or.inl ⟨by rfl, fun w hSw => by (try dsimp only at hSw); go_simp⟩) (by assumption) ?_
                  simp only [Act.put, List.setIfInBounds_toArray, List.set_cons_zero, List.set_cons_succ]
                  refine wpAnyH_ready (rs := [7]) (by kernel_rfl) (by simp) ?_
                  refine AllReadyH.cons (o := _) rfl (fun K' hK => ?_) AllReadyH.nil
                  go_simp
                  refine (HIA.out _).mono ?_
                  rintro e u1 ⟨rfl, hw⟩
                  rw [hw]
                  clear hw
                  go_wp2_with fail
                  refine hK.out _ _ True.intro (fun hHeld7 => ?_)
                  clear hK K'
                  try simp only [Act.put, List.setIfInBounds_toArray, List.set_cons_zero, List.set_cons_succ]
                  refine take_at 8 51 (.string (⟨#[118]⟩ ++ sI i)) rfl rfl (by kernel_rfl) (by kernel_rfl) (by kernel_rfl) (fun _ _ _ h => h) (Or.inl ⟨by rfl, fun w hSw => by (try dsimp only at hSw); go_simp⟩) (by assumption) ?_
                  simp only [Act.put, List.setIfInBounds_toArray, List.set_cons_zero, List.set_cons_succ]
                  refine take_at 9 52 (.string (⟨#[118]⟩ ++ sI i ++ ⟨#[46]⟩)) rfl rfl (by kernel_rfl) (by kernel_rfl) (by kernel_rfl) (fun _ _ _ h => h) (Or.inl ⟨by rfl, fun w hSw => by (try dsimp only at hSw); go_simp⟩) (by assumption) ?_
                  simp only [Act.put, List.setIfInBounds_toArray, List.set_cons_zero, List.set_cons_succ]
                  refine wpAnyH_ready (rs := [11]) (by kernel_rfl) (by simp) ?_
                  refine AllReadyH.cons (o := _) rfl (fun K' hK => ?_) AllReadyH.nil
                  go_simp
                  refine (HJA.out _).mono ?_
                  rintro e u1 ⟨rfl, hw⟩
                  rw [hw]
                  clear hw
                  go_wp2_with fail
                  refine hK.out _ _ True.intro (fun hHeld11 => ?_)
                  clear hK K'
                  try simp only [Act.put, List.setIfInBounds_toArray, List.set_cons_zero, List.set_cons_succ]
                  refine take_at 12 55 (.string (nmS 1 i a)) rfl rfl (by kernel_rfl) (by kernel_rfl) (by kernel_rfl) (fun _ _ _ h => h) (Or.inl ⟨by rfl, fun w hSw => by (try dsimp only at hSw); go_simp⟩) (by assumption) ?_
                  simp only [Act.put, List.setIfInBounds_toArray, List.set_cons_zero, List.set_cons_succ]
                  refine wpAnyH_ready (rs := [13]) (by kernel_rfl) (by simp) ?_
                  refine AllReadyH.cons (o := _) rfl (fun K' hK => ?_) AllReadyH.nil
                  go_simp
                  go_wp2_with fail
                  refine hK.out _ _ True.intro (fun hHeld13 => ?_)
                  clear hK K'
                  try simp only [Act.put, List.setIfInBounds_toArray, List.set_cons_zero, List.set_cons_succ]
                  refine wpAnyH_ready (rs := [14]) (by kernel_rfl) (by simp) ?_
                  refine AllReadyH.cons (o := _) rfl (fun K' hK => ?_) AllReadyH.nil
                  refine step_app 37 rfl _ _ rfl ov (.slice (some ⟨wr.heap.size, 0, none⟩) 1 1) (by first | rfl | (simp [Act.eval]; done) | (simp [Act.eval, Act.put]; done)) (by first | rfl | (simp [Act.eval]; done) | (simp [Act.eval, Act.put]; done)) hrun ?_
                  refine hK.out _ _ True.intro (fun hHeld14 => ?_)
                  clear hK K'
                  simp only [Act.put, List.setIfInBounds_toArray]
                  refine take_at 15 5 (v') rfl rfl (by kernel_rfl) (by kernel_rfl) (by kernel_rfl) (fun _ _ _ h => h) (Or.inl ⟨by rfl, fun w hSw => by (try dsimp only at hSw); go_simp⟩) (by assumption) ?_
                  simp only [Act.put]
                  refine wpAnyH_done (by kernel_rfl) ?_ _
                  go_wp2_with fail
                  go_roundw
                  case rel => exact ⟨2, _, by omega, by go_num, rfl, HO9, HB9⟩
                  case measure => simp [intOf]; omega
                · have H3 : Hid (wr.drew.ownsRow w.heap.size 9 1 ov (l0 ++ (List.range 2).map (fun q => nmS q i a)).length (stL (l0 ++ (List.range 2).map (fun q => nmS q i a)))) := HOI.out
                  obtain ⟨v', w9, hrun, hown9, hgr9, hb9⟩ := st_append (s := nmS 2 i a) 37 H3.out (by rw [List.length_append, List.length_map, List.length_range]; have := HNN.out; omega) HBI.out.1.size
                  rw [nm_step] at hown9
                  have HO9 : Hid (w9.ownsRow w.heap.size 9 1 v' (l0 ++ (List.range (2 + 1)).map (fun q => nmS q i a)).length (stL (l0 ++ (List.range (2 + 1)).map (fun q => nmS q i a)))) := hown9
                  have hal : Below wr.drew.heap.size wr.drew (wr.drew.alloc (.cells #[.string (nmS 2 i a)] 9)) := (Below.refl _ _).alloc (Nat.le_refl _) _
                  have HBD : Hid (Below w.heap.size w wr.drew) := HBI.out.1.drew
                  have HBA := hid (HBD.out.trans (hal.mono HBD.out.size))
                  have HXA : Hid ((wr.drew.alloc (.cells #[.string (nmS 2 i a)] 9)).heap[w.heap.size]? = some (MoBox (some ⟨b, off, none⟩) n cap)) := blkM (A := wr.drew) HBI.out.2 hal
                  have HB9 : Hid (Below w.heap.size w w9 ∧ w9.heap[w.heap.size]? = some (MoBox (some ⟨b, off, none⟩) n cap)) := ⟨HBA.out.trans hb9, st_keepT (by decide) (owns_keepB H3.out hal) (cur := #[.slice (some ⟨b, off, none⟩) n cap]) (fr := (0, 0)) HXA.out hgr9⟩
                  have hrun : (Builtin.append_ #[37, 37] 37 #[ov, .slice (some ⟨wr.heap.size, 0, none⟩) 1 1]).run Tryd.prog (wr.alloc (.cells #[.string (nmS 2 i a)] 9)).drew = .ok v' w9 := hrun
                  have hs1 := sI_size i
                  have hs2 := sI_size a
                  have qa : 1 + (sI i).size ≤ 9223372036854775807 := by omega
                  have qb : 1 + (sI i).size ≤ 9223372036854775806 := by omega
                  have qc : ¬ 9223372036854775807 < 1 + (sI i).size + 1 + (sI a).size := by omega
                  have qd : IntKind.i64.wrap 3 = 3 := by decide
                  have qe : (⟨#[112, 118, 97]⟩ : ByteArray).extract 2 3 = ⟨#[97]⟩ := by decide
                  have qf : (⟨#[97]⟩ ++ sI i ++ ⟨#[46]⟩ ++ sI a : ByteArray) = nmS 2 i a := rfl
                  have c0 := mocell_of HBI.out.2
                  clear hs1 hs2 hown9 hgr9 hb9 hal
                  go_wp2_with fail
                  refine (HSZ.out _).mono ?_
                  rintro e u0 ⟨rfl, hw⟩
                  rw [hw]
                  clear hw
                  go_wp2_with fail
                  refine wp_region_held_drew (S := fun _ => True) (by kernel_rfl) True.intro (fun hHeld => ?_)
                  refine take_at 0 43 (ov) rfl rfl (by kernel_rfl) (by kernel_rfl) (by kernel_rfl) (fun _ _ _ h => h) (Or.inl ⟨by rfl, fun w hSw => by (try dsimp only at hSw); go_simp⟩) (by assumption) ?_
                  simp only [Act.put, List.setIfInBounds_toArray, List.set_cons_zero, List.set_cons_succ]
                  refine take_at 1 44 (.string ⟨#[112, 118, 97]⟩) rfl rfl (by kernel_rfl) (by kernel_rfl) (by kernel_rfl) (fun _ _ _ h => h) (Or.inl ⟨by rfl, fun w hSw => by (try dsimp only at hSw); go_simp⟩) (by assumption) ?_
                  simp only [Act.put, List.setIfInBounds_toArray, List.set_cons_zero, List.set_cons_succ]
                  refine take_at 2 45 (.int .i64 2) rfl rfl (by kernel_rfl) (by kernel_rfl) (by kernel_rfl) (fun _ _ _ h => h) (Or.inl ⟨by rfl, fun w hSw => by (try dsimp only at hSw); go_simp⟩) (by assumption) ?_
                  simp only [Act.put, List.setIfInBounds_toArray, List.set_cons_zero, List.set_cons_succ]
                  refine take_at 3 46 (.int .i64 2) rfl rfl (by kernel_rfl) (by kernel_rfl) (by kernel_rfl) (fun _ _ _ h => h) (Or.inl ⟨by rfl, fun w hSw => by (try dsimp only at hSw); go_simp⟩) (by assumption) ?_
                  simp only [Act.put, List.setIfInBounds_toArray, List.set_cons_zero, List.set_cons_succ]
                  refine take_at 4 47 (.int .i64 3) rfl rfl (by kernel_rfl) (by kernel_rfl) (by kernel_rfl) (fun _ _ _ h => h) (Or.inl ⟨by rfl, fun w hSw => by (try dsimp only at hSw); go_simp⟩) (by assumption) ?_
                  simp only [Act.put, List.setIfInBounds_toArray, List.set_cons_zero, List.set_cons_succ]
                  refine take_at 5 48 (.string ⟨#[97]⟩) rfl rfl (by kernel_rfl) (by kernel_rfl) (by kernel_rfl) (fun _ _ _ h => h) (Or.inl ⟨by rfl, fun w hSw => by (try dsimp only at hSw); go_simp⟩) (by assumption) ?_
                  simp only [Act.put, List.setIfInBounds_toArray, List.set_cons_zero, List.set_cons_succ]
                  refine take_at 6 49 (.int .i64 (i : Int)) rfl rfl (by kernel_rfl) (by kernel_rfl) (by kernel_rfl) (fun _ _ _ h => h) (Or.inl ⟨by rfl, fun w hSw => by (try dsimp only at hSw); go_simp⟩) (by assumption) ?_
                  simp only [Act.put, List.setIfInBounds_toArray, List.set_cons_zero, List.set_cons_succ]
                  refine take_at 10 53 (.int .i64 (a : Int)) rfl rfl (by kernel_rfl) (by kernel_rfl) (by kernel_rfl) (fun _ _ _ h => h) (Or.inl ⟨by rfl, fun w hSw => by (try dsimp only at hSw); go_simp⟩) (by assumption) ?_
                  simp only [Act.put, List.setIfInBounds_toArray, List.set_cons_zero, List.set_cons_succ]
                  refine wpAnyH_ready (rs := [7]) (by kernel_rfl) (by simp) ?_
                  refine AllReadyH.cons (o := _) rfl (fun K' hK => ?_) AllReadyH.nil
                  go_simp
                  refine (HIA.out _).mono ?_
                  rintro e u1 ⟨rfl, hw⟩
                  rw [hw]
                  clear hw
                  go_wp2_with fail
                  refine hK.out _ _ True.intro (fun hHeld7 => ?_)
                  clear hK K'
                  try simp only [Act.put, List.setIfInBounds_toArray, List.set_cons_zero, List.set_cons_succ]
                  refine take_at 8 51 (.string (⟨#[97]⟩ ++ sI i)) rfl rfl (by kernel_rfl) (by kernel_rfl) (by kernel_rfl) (fun _ _ _ h => h) (Or.inl ⟨by rfl, fun w hSw => by (try dsimp only at hSw); go_simp⟩) (by assumption) ?_
                  simp only [Act.put, List.setIfInBounds_toArray, List.set_cons_zero, List.set_cons_succ]
                  refine take_at 9 52 (.string (⟨#[97]⟩ ++ sI i ++ ⟨#[46]⟩)) rfl rfl (by kernel_rfl) (by kernel_rfl) (by kernel_rfl) (fun _ _ _ h => h) (Or.inl ⟨by rfl, fun w hSw => by (try dsimp only at hSw); go_simp⟩) (by assumption) ?_
                  simp only [Act.put, List.setIfInBounds_toArray, List.set_cons_zero, List.set_cons_succ]
                  refine wpAnyH_ready (rs := [11]) (by kernel_rfl) (by simp) ?_
                  refine AllReadyH.cons (o := _) rfl (fun K' hK => ?_) AllReadyH.nil
                  go_simp
                  refine (HJA.out _).mono ?_
                  rintro e u1 ⟨rfl, hw⟩
                  rw [hw]
                  clear hw
                  go_wp2_with fail
                  refine hK.out _ _ True.intro (fun hHeld11 => ?_)
                  clear hK K'
                  try simp only [Act.put, List.setIfInBounds_toArray, List.set_cons_zero, List.set_cons_succ]
                  refine take_at 12 55 (.string (nmS 2 i a)) rfl rfl (by kernel_rfl) (by kernel_rfl) (by kernel_rfl) (fun _ _ _ h => h) (Or.inl ⟨by rfl, fun w hSw => by (try dsimp only at hSw); go_simp⟩) (by assumption) ?_
                  simp only [Act.put, List.setIfInBounds_toArray, List.set_cons_zero, List.set_cons_succ]
                  refine wpAnyH_ready (rs := [13]) (by kernel_rfl) (by simp) ?_
                  refine AllReadyH.cons (o := _) rfl (fun K' hK => ?_) AllReadyH.nil
                  go_simp
                  go_wp2_with fail
                  refine hK.out _ _ True.intro (fun hHeld13 => ?_)
                  clear hK K'
                  try simp only [Act.put, List.setIfInBounds_toArray, List.set_cons_zero, List.set_cons_succ]
                  refine wpAnyH_ready (rs := [14]) (by kernel_rfl) (by simp) ?_
                  refine AllReadyH.cons (o := _) rfl (fun K' hK => ?_) AllReadyH.nil
                  refine step_app 37 rfl _ _ rfl ov (.slice (some ⟨wr.heap.size, 0, none⟩) 1 1) (by first | rfl | (simp [Act.eval]; done) | (simp [Act.eval, Act.put]; done)) (by first | rfl | (simp [Act.eval]; done) | (simp [Act.eval, Act.put]; done)) hrun ?_
                  refine hK.out _ _ True.intro (fun hHeld14 => ?_)
                  clear hK K'
                  simp only [Act.put, List.setIfInBounds_toArray]
                  refine take_at 15 5 (v') rfl rfl (by kernel_rfl) (by kernel_rfl) (by kernel_rfl) (fun _ _ _ h => h) (Or.inl ⟨by rfl, fun w hSw => by (try dsimp only at hSw); go_simp⟩) (by assumption) ?_
                  simp only [Act.put]
                  refine wpAnyH_done (by kernel_rfl) ?_ _
                  go_wp2_with fail
                  go_roundw
                  case rel => exact ⟨3, _, by omega, by go_num, rfl, HO9, HB9⟩
                  case measure => simp [intOf]; omega
              · obtain rfl : o = z0 := by omega
                have hoo : ¬ (o : Int) < (o : Int) := by omega
                have HOF : Hid (wr.ownsRow w.heap.size 9 1 ov (nmL K (axP A i ++ (List.range (a + 1)).map (fun j => (i, j)))).length (stL (nmL K (axP A i ++ (List.range (a + 1)).map (fun j => (i, j)))))) := by
                  show World.ownsRow _ _ _ _ _ _ _
                  rw [← HNX.out]
                  exact HOI.out
                have c0 := mocell_of HBI.out.2
                go_wp2_with fail
                refine (HSZ.out _).mono ?_
                rintro e u0 ⟨rfl, hw⟩
                rw [hw]
                clear hw
                go_wp2_with fail
                go_roundw
                case rel => exact ⟨a + 1, _, by omega, by go_num, rfl, HOF, HBI⟩
                case measure => simp [intOf]; omega
          · have haa : (a : Int) = a1 := by omega
            have HOF : Hid (wr.ownsRow w.heap.size 9 1 x1 (nmL K (axP A (i + 1))).length (stL (nmL K (axP A (i + 1))))) := by
              show World.ownsRow _ _ _ _ _ _ _
              rw [← HPT.out a haa]
              exact HOA.out
            go_wp2_with fail
            go_roundw
            case rel => exact ⟨i + 1, _, by omega, by go_num, rfl, HOF, HBA⟩
            case measure => simp [intOf]; omega
      · obtain rfl : i = n := by omega
        have hii : ¬ (i : Int) < (i : Int) := by omega
        go_wp2_with fail
        exact bodyPost_ret (v := .tuple #[x0, .int .i64 0]) (by simp [results, Tryd.results13, go_sem]) rfl (HFIN.out _ _ HO.out HBR.out.1)
  · have HE0 := hid hE0
    obtain ⟨E, hE⟩ : ∃ t, dmE n K A N F = t := ⟨_, rfl⟩
    rw [hE] at HCK HE0
    rw [hE]
    have hne : (E != 0) = true := by have := HE0.out; simpa using this
    clear h hn hE hE0
    go_enter Tryd.func13, Tryd.ntmps13
    go_wp2_with fail
    refine (HCK.out _ HB0.out.1).mono ?_
    rintro e w1 ⟨rfl, hb⟩
    have HB1 := hid (HB0.out.1.trans (hb.mono HB0.out.1.size))
    clear hb
    go_wp2_with fail
    exact bodyPost_ret (v := .tuple #[.slice none 0 0, .int .i64 E]) (by simp [results, Tryd.results13, go_sem]) rfl ⟨⟨_, rfl, Or.inr ⟨HE0.out, rfl⟩⟩, HB1.out⟩
end Go.Proofs.YtfngjoaghbofgaaDoor
