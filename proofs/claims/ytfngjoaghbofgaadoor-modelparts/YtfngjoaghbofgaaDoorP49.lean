
/- The law ModelParts. -/
import Derived.Test.YtfngjoaghbofgaaDoorP48
namespace Go.Proofs.YtfngjoaghbofgaaDoor
open Go.RowKit Go.IntWalk

theorem nm_pos {n : Nat} {K A : Nat → Int} {N F : Nat → Nat} (h : dmE n K A N F = 0) : (nmL K (axP A n)).length ≠ 0 := by
  obtain ⟨h0, y1, _⟩ := dm_zero h
  obtain ⟨_, _, a1, a2, _⟩ := ptS_in (scE_all y1 0 (by omega))
  intro hc
  have hnil : nmL K (axP A n) = [] := List.length_eq_zero_iff.1 hc
  have hm : nmS 0 0 0 ∈ nmL K (axP A n) := by
    unfold nmL
    rw [List.mem_flatMap]
    exact ⟨(0, 0), axP_mem.2 ⟨by show 0 < n; omega, by show ((0 : Nat) : Int) < A 0; omega⟩, List.mem_map.2 ⟨0, List.mem_range.2 (by show 0 < (szK (K 0)).toNat; omega), rfl⟩⟩
  rw [hnil] at hm
  cases hm
theorem owns_base {w : World} {base size n : Nat} {e : TypeId} {v : Value} {xs : List Value} (h : w.ownsRow base e size v n xs) : w.ownsRow 0 e size v n xs := by
  obtain ⟨h1, h2⟩ := h
  refine ⟨h1, ?_⟩
  rcases h2 with h2 | ⟨g, cap, cur, e1, _, e3, e4⟩
  · exact .inl h2
  · exact .inr ⟨g, cap, cur, e1, Nat.zero_le _, e3, e4⟩
theorem st_cell {W : World} {base g cap : Nat} {l : List ByteArray} (h : W.ownsRow base 9 1 (.slice (some ⟨g, 0, none⟩) l.length cap) l.length (stL l)) (k : Nat) (hk : k < l.length) : W.cell? ⟨g, k, none⟩ = some (.string (l.getD k ⟨#[]⟩)) := by
  have hc := h.cells (g := g) rfl k (.string (l.getD k ⟨#[]⟩)) (by
    unfold stL
    rw [List.getElem?_map, List.getElem?_eq_getElem hk, List.getD_eq_getElem?_getD, List.getElem?_eq_getElem hk]
    rfl)
  rw [Go.WideShapes.add_plain, Nat.zero_add] at hc
  exact hc
set_option maxRecDepth 4000 in
set_option maxHeartbeats 8000000 in
theorem parts_walk (sa : Option Addr) (n cap : Nat) (K A : Nat → Int) (N F : Nat → Nat) (part axis order : Int) (w : World) (h : PtU w sa n K A N F) (hn : n ≤ 4398046511104) (_hp : -9223372036854775808 ≤ part ∧ part ≤ 9223372036854775807) (_ha : -9223372036854775808 ≤ axis ∧ axis ≤ 9223372036854775807) (ho : -9223372036854775808 ≤ order ∧ order ≤ 9223372036854775807) : Calls Tryd.prog 3 #[.slice sa n cap, .int .i64 part, .int .i64 axis, .int .i64 order] w fun r w' => r = .returned (.bool true) ∧ Below w.heap.size w w' := by
  have HM := hid (fun W (hW : Below w.heap.size w W) => motion_any sa n cap K A N F W (h.below hW) hn)
  have HC1 := hid (fun ta tc W hp => Check_mo ta n tc K A N F W hp hn)
  have HC2 := hid (fun ta tc W hp => rCheck_mo ta n tc K A N F W hp hn)
  have HD1 := hid (fun ta tc W hp => Dim_any ta n tc K A N F W hp hn)
  have HD2 := hid (fun ta tc W hp => rDim_mo ta n tc K A N F W hp hn)
  have HP1 := hid (fun ta tc W hp => Place_any ta n tc K A N F part axis order W hp hn ho)
  have HP2 := hid (fun ta tc W hp => rPlace_any ta n tc K A N F part axis order W hp hn)
  have HN1 := hid (fun ta tc W hp => Names_any ta n tc K A N F W hp hn)
  have HN2 := hid (fun ta tc W hp => rNames_any ta n tc K A N F W hp hn)
  have HAW := hid awake14_any
  have HPOS := hid (@nm_pos n K A N F)
  have HLE : Hid (dmE n K A N F = 0 → (nmL K (axP A n)).length ≤ 36) := fun hE => by
    obtain ⟨_, y1, _, _, y4, _⟩ := dm_zero hE
    have a := axP_len (K := K) (A := A) (N := N) (F := F) (n := n) (scE_all y1)
    have b := (y4 n (Nat.le_refl _)).1
    have c := (y4 n (Nat.le_refl _)).2.2
    exact nm_len K _ (by omega)
  obtain ⟨E, hE⟩ : ∃ t, dmE n K A N F = t := ⟨_, rfl⟩
  obtain ⟨D, hD⟩ : ∃ t, dmV n K A N F = t := ⟨_, rfl⟩
  obtain ⟨P, hP⟩ : ∃ t, plV n K A N F part axis order = t := ⟨_, rfl⟩
  obtain ⟨Q, hQ⟩ : ∃ t, plE n K A N F part axis order = t := ⟨_, rfl⟩
  rw [hE] at HC1 HC2 HN1 HN2 HPOS HLE
  rw [hE, hD] at HD1 HD2
  rw [hP, hQ] at HP1 HP2
  obtain ⟨l, hl⟩ : ∃ t, nmL K (axP A n) = t := ⟨_, rfl⟩
  rw [hl] at HN1 HN2 HPOS HLE
  have hEE : (E != E) = false := by simp
  have hDD : (D != D) = false := by simp
  have hPP : (P != P) = false := by simp
  have hQQ : (Q != Q) = false := by simp
  clear h hE hD hP hQ hl ho _hp _ha hn
  go_enter Tryd.func3, Tryd.ntmps3
  have HB0 := hid (Below.refl w.heap.size w)
  go_wp2_with fail
  refine (HM.out _ HB0.out).mono ?_
  rintro e m0 ⟨⟨ta0, tc0, rfl, hp⟩, hb⟩
  have HB1 := hid (HB0.out.trans (hb.mono HB0.out.size))
  have HPF := hid hp
  clear hp hb
  go_wp2_with fail
  refine (HC1.out _ _ _ HPF.out).mono ?_
  rintro e c1 ⟨rfl, hb⟩
  have HB2 := hid (HB1.out.trans (hb.mono HB1.out.size))
  clear hb HPF
  go_wp2_with fail
  refine (HM.out _ HB2.out).mono ?_
  rintro e m2 ⟨⟨ta2, tc2, rfl, hp⟩, hb⟩
  have HB3 := hid (HB2.out.trans (hb.mono HB2.out.size))
  have HPF := hid hp
  clear hp hb
  go_wp2_with fail
  refine (HC2.out _ _ _ HPF.out).mono ?_
  rintro e c3 ⟨rfl, hb⟩
  have HB4 := hid (HB3.out.trans (hb.mono HB3.out.size))
  clear hb HPF
  go_wp2_with fail
  refine (HAW.out _).mono ?_
  rintro e c4 ⟨rfl, hb⟩
  have HB5 := hid (HB4.out.trans (hb.mono HB4.out.size))
  clear hb
  go_wp2_with fail
  refine (HM.out _ HB5.out).mono ?_
  rintro e m5 ⟨⟨ta5, tc5, rfl, hp⟩, hb⟩
  have HB6 := hid (HB5.out.trans (hb.mono HB5.out.size))
  have HPF := hid hp
  clear hp hb
  go_wp2_with fail
  refine (HD1.out _ _ _ HPF.out).mono ?_
  rintro e c6 ⟨rfl, hb⟩
  have HB7 := hid (HB6.out.trans (hb.mono HB6.out.size))
  clear hb HPF
  go_wp2_with fail
  refine (HM.out _ HB7.out).mono ?_
  rintro e m7 ⟨⟨ta7, tc7, rfl, hp⟩, hb⟩
  have HB8 := hid (HB7.out.trans (hb.mono HB7.out.size))
  have HPF := hid hp
  clear hp hb
  go_wp2_with fail
  refine (HD2.out _ _ _ HPF.out).mono ?_
  rintro e c8 ⟨rfl, hb⟩
  have HB9 := hid (HB8.out.trans (hb.mono HB8.out.size))
  clear hb HPF
  go_wp2_with fail
  refine (HM.out _ HB9.out).mono ?_
  rintro e m9 ⟨⟨ta9, tc9, rfl, hp⟩, hb⟩
  have HB10 := hid (HB9.out.trans (hb.mono HB9.out.size))
  have HPF := hid hp
  clear hp hb
  go_wp2_with fail
  refine (HP1.out _ _ _ HPF.out).mono ?_
  rintro e c10 ⟨rfl, hb⟩
  have HB11 := hid (HB10.out.trans (hb.mono HB10.out.size))
  clear hb HPF
  go_wp2_with fail
  refine (HM.out _ HB11.out).mono ?_
  rintro e m11 ⟨⟨ta11, tc11, rfl, hp⟩, hb⟩
  have HB12 := hid (HB11.out.trans (hb.mono HB11.out.size))
  have HPF := hid hp
  clear hp hb
  go_wp2_with fail
  refine (HP2.out _ _ _ HPF.out).mono ?_
  rintro e c12 ⟨rfl, hb⟩
  have HB13 := hid (HB12.out.trans (hb.mono HB12.out.size))
  clear hb HPF
  go_wp2_with fail
  refine (HM.out _ HB13.out).mono ?_
  rintro e m13 ⟨⟨ta13, tc13, rfl, hp⟩, hb⟩
  have HB14 := hid (HB13.out.trans (hb.mono HB13.out.size))
  have HPF := hid hp
  clear hp hb
  go_wp2_with fail
  refine (HN1.out _ _ _ HPF.out).mono ?_
  rintro e c14 ⟨⟨v1, rfl, hr1⟩, hb⟩
  have HB15 := hid (HB14.out.trans (hb.mono HB14.out.size))
  clear hb HPF
  have HR1 : Hid ((E = 0 ∧ c14.ownsRow 0 9 1 v1 l.length (stL l)) ∨ (E ≠ 0 ∧ v1 = .slice none 0 0)) := hr1.imp (fun q => ⟨q.1, owns_base q.2⟩) id
  clear hr1
  go_wp2_with fail
  refine (HM.out _ HB15.out).mono ?_
  rintro e m15 ⟨⟨ta15, tc15, rfl, hp⟩, hb⟩
  have HB16 := hid (HB15.out.trans (hb.mono HB15.out.size))
  have HR1 : Hid ((E = 0 ∧ m15.ownsRow 0 9 1 v1 l.length (stL l)) ∨ (E ≠ 0 ∧ v1 = .slice none 0 0)) := HR1.out.imp (fun q => ⟨q.1, owns_keepB q.2 hb⟩) id
  have HPF := hid hp
  clear hp hb
  go_wp2_with fail
  refine (HN2.out _ _ _ HPF.out).mono ?_
  rintro e c16 ⟨⟨v2, rfl, hr2⟩, hb⟩
  have HB17 := hid (HB16.out.trans (hb.mono HB16.out.size))
  have hr1 : (E = 0 ∧ c16.ownsRow 0 9 1 v1 l.length (stL l)) ∨ (E ≠ 0 ∧ v1 = .slice none 0 0) := HR1.out.imp (fun q => ⟨q.1, owns_keepB q.2 hb⟩) id
  clear hb HPF
  have HBZ := HB17
  rcases hr1 with ⟨hz, ho1⟩ | ⟨hz, rfl⟩
  · rcases hr2 with ⟨_, ho2⟩ | ⟨hz2, _⟩
    · have hne := HPOS.out hz
      rcases Joins.ownsRow_forms ho1 with ⟨_, e0⟩ | ⟨g1, q1, rfl⟩
      · exact absurd e0 hne
      rcases Joins.ownsRow_forms ho2 with ⟨_, e0⟩ | ⟨g2, q2, rfl⟩
      · exact absurd e0 hne
      have HCE : Hid (∀ W, Below c16.heap.size c16 W → ∀ k, k < l.length → W.cell? ⟨g1, k, none⟩ = some (.string (l.getD k ⟨#[]⟩)) ∧ W.cell? ⟨g2, k, none⟩ = some (.string (l.getD k ⟨#[]⟩))) := fun W hW k hk => by
        have c1 := st_cell ho1 k hk
        have c2 := st_cell ho2 k hk
        exact ⟨(hW.cell (p := ⟨g1, k, none⟩) (ho1.lt g1 rfl).2).trans c1, (hW.cell (p := ⟨g2, k, none⟩) (ho2.lt g2 rfl).2).trans c2⟩
      have hM36 := HLE.out hz
      obtain ⟨M, hM⟩ : ∃ t, Hid (l.length = t) := ⟨_, rfl⟩
      rw [hM.out] at HCE hM36
      rw [hM.out]
      clear ho1 ho2 hne hz
      go_wp2_with fail
      go_loopw [15] (fun iv wr => ∃ k : Nat, k ≤ M ∧ iv = .int .i64 k ∧ Hid (Below c16.heap.size c16 wr)) (fun iv _ => M - (intOf iv).toNat)
      case atStart => exact ⟨0, Nat.zero_le _, rfl, Below.refl _ _⟩
      case round =>
        obtain ⟨k, hk, rfl, HBR⟩ := hrel
        by_cases hlt : k < M
        · have hkI : (k : Int) < (M : Int) := by omega
          have hk0 : (0 : Int) ≤ (k : Int) := by omega
          obtain ⟨x, hx⟩ : ∃ t, l.getD k ⟨#[]⟩ = t := ⟨_, rfl⟩
          have HS0 := hid (HCE.out wr.drew HBR.out.drew k hlt)
          rw [hx] at HS0
          go_wp2_with fail
          refine wp_region_held_drew (S := fun W => W.cell? ⟨g1, k, none⟩ = some (.string x) ∧ W.cell? ⟨g2, k, none⟩ = some (.string x)) (by kernel_rfl) HS0.out (fun hHeld => ?_)
          refine take_at 0 101 (.slice (some ⟨g1, 0, none⟩) M q1) rfl rfl (by kernel_rfl) (by kernel_rfl) (by kernel_rfl) (fun _ _ _ h => h) (Or.inl ⟨by rfl, fun w hSw => by (try dsimp only at hSw); go_simp⟩) (by assumption) ?_
          simp only [Act.put, List.setIfInBounds_toArray, List.set_cons_zero, List.set_cons_succ]
          refine take_at 1 102 (.int .i64 k) rfl rfl (by kernel_rfl) (by kernel_rfl) (by kernel_rfl) (fun _ _ _ h => h) (Or.inl ⟨by rfl, fun w hSw => by (try dsimp only at hSw); go_simp⟩) (by assumption) ?_
          simp only [Act.put, List.setIfInBounds_toArray, List.set_cons_zero, List.set_cons_succ]
          refine take_at 2 103 (.pointer (some ⟨g1, k, none⟩)) rfl rfl (by kernel_rfl) (by kernel_rfl) (by kernel_rfl) (fun _ _ _ h => h) (Or.inl ⟨by rfl, fun w hSw => by (try dsimp only at hSw); go_simp⟩) (by assumption) ?_
          simp only [Act.put, List.setIfInBounds_toArray, List.set_cons_zero, List.set_cons_succ]
          refine take_at 3 104 (.string x) rfl rfl (by kernel_rfl) (by kernel_rfl) (by kernel_rfl) (fun _ _ _ h => h) (Or.inl ⟨by rfl, fun w hSw => by (try dsimp only at hSw); go_simp⟩) (by assumption) ?_
          simp only [Act.put, List.setIfInBounds_toArray, List.set_cons_zero, List.set_cons_succ]
          refine take_at 4 105 (.slice (some ⟨g2, 0, none⟩) M q2) rfl rfl (by kernel_rfl) (by kernel_rfl) (by kernel_rfl) (fun _ _ _ h => h) (Or.inl ⟨by rfl, fun w hSw => by (try dsimp only at hSw); go_simp⟩) (by assumption) ?_
          simp only [Act.put, List.setIfInBounds_toArray, List.set_cons_zero, List.set_cons_succ]
          refine take_at 5 106 (.int .i64 k) rfl rfl (by kernel_rfl) (by kernel_rfl) (by kernel_rfl) (fun _ _ _ h => h) (Or.inl ⟨by rfl, fun w hSw => by (try dsimp only at hSw); go_simp⟩) (by assumption) ?_
          simp only [Act.put, List.setIfInBounds_toArray, List.set_cons_zero, List.set_cons_succ]
          refine take_at 6 107 (.pointer (some ⟨g2, k, none⟩)) rfl rfl (by kernel_rfl) (by kernel_rfl) (by kernel_rfl) (fun _ _ _ h => h) (Or.inl ⟨by rfl, fun w hSw => by (try dsimp only at hSw); go_simp⟩) (by assumption) ?_
          simp only [Act.put, List.setIfInBounds_toArray, List.set_cons_zero, List.set_cons_succ]
          refine take_at 7 108 (.string x) rfl rfl (by kernel_rfl) (by kernel_rfl) (by kernel_rfl) (fun _ _ _ h => h) (Or.inl ⟨by rfl, fun w hSw => by (try dsimp only at hSw); go_simp⟩) (by assumption) ?_
          simp only [Act.put, List.setIfInBounds_toArray, List.set_cons_zero, List.set_cons_succ]
          refine take_at 8 109 (.bool false) rfl rfl (by kernel_rfl) (by kernel_rfl) (by kernel_rfl) (fun _ _ _ h => h) (Or.inl ⟨by rfl, fun w hSw => by (try dsimp only at hSw); go_simp⟩) (by assumption) ?_
          simp only [Act.put, List.setIfInBounds_toArray, List.set_cons_zero, List.set_cons_succ]
          refine wpAnyH_done (by kernel_rfl) ?_ _
          go_wp2_with fail
          go_roundw
          case rel => exact ⟨k + 1, by omega, by go_num, HBR.out.drew⟩
          case measure => simp [intOf]; omega
        · obtain rfl : k = M := by omega
          have hkk : ¬ (k : Int) < (k : Int) := by omega
          go_wp2_with fail
          go_ret
          exact ⟨rfl, HBZ.out.trans (HBR.out.mono HBZ.out.size)⟩
    · exact absurd hz hz2
  · rcases hr2 with ⟨hz2, _⟩ | ⟨_, rfl⟩
    · exact absurd hz2 hz
    · go_wp2_with fail
      go_loopw [15] (fun iv wr => iv = .int .i64 0 ∧ Hid (Below c16.heap.size c16 wr)) (fun _ _ => 0)
      case atStart => exact ⟨rfl, Below.refl _ _⟩
      case round =>
        obtain ⟨rfl, HBR⟩ := hrel
        go_wp2_with fail
        go_ret
        exact ⟨rfl, HBZ.out.trans (HBR.out.mono HBZ.out.size)⟩
end Go.Proofs.YtfngjoaghbofgaaDoor
