
/- The law ModelNamed. -/
import Derived.Test.YtfngjoaghbofgabDoorP48
import Derived.Test.YtfngjoaghbofgabDoorP47
namespace Go.Proofs.YtfngjoaghbofgabDoor
open Go.RowKit Go.IntWalk

/-- append([]int{}, l...) with the empty list anywhere. -/
theorem append_ints2 (ty : TypeId) (pa : Option Addr) (m pc : Nat) (xs : List Int) (w W : World) (sb : Nat) (hW : Below w.heap.size w W) (hs : w.heap.size ≤ sb) (hsb : W.heap[sb]? = some (.cells #[] 3)) (h0' : I64At w pa m xs) (hm : m ≤ 17592186043904) :
    ∃ a' cap' w', (Builtin.append_ #[27, 27] ty #[.slice (some ⟨sb, 0, none⟩) 0 0, .slice pa m pc]).run Tryd.prog W = .ok (.slice a' m cap') w' ∧ I64At w' a' m xs ∧ Below w.heap.size W w' ∧ ∀ b, b < W.heap.size → b ≠ sb → w'.heap[b]? = W.heap[b]? := by
  obtain ⟨i, hi, hz, hsz, hby⟩ := info_in
  have h := h0'.below hW
  by_cases h0 : m = 0
  · subst h0
    refine ⟨some ⟨sb, 0, none⟩, 0, W, ?_, ⟨h.1, h.2.1, fun h => absurd rfl h⟩, Below.refl _ _, fun _ _ _ => rfl⟩
    cases pa with
    | none => simp [Builtin.append_, run_underlying Tryd.underlying27, sizeOf, typeInfo, hi, Builtin.lenOf, Builtin.firstCells, storeCells]
    | some a => simp [Builtin.append_, run_underlying Tryd.underlying27, sizeOf, typeInfo, hi, Builtin.lenOf, Builtin.firstCells, loadCells, loadCellsFrom, storeCells]
  · obtain ⟨b, off, rfl, hbl, hc⟩ := h.2.2 h0
    have hown : W.ownsRow w.heap.size 3 1 (.slice (some ⟨sb, 0, none⟩) 0 0) 0 [] := ⟨rfl, Or.inr ⟨sb, 0, #[], rfl, hs, hsb, Nat.le_refl _, Nat.zero_le _, rfl, rfl⟩⟩
    have hl := h.1
    have hcell : ∀ j u, (xs.map (fun x => Value.int .i64 x))[j]? = some u → W.cell? ((⟨b, off, none⟩ : Addr).add j) = some u := by
      intro j u hj
      rw [List.getElem?_map] at hj
      obtain ⟨x, hx, rfl⟩ := Option.map_eq_some_iff.1 hj
      obtain ⟨hjl, rfl⟩ := List.getElem?_eq_some_iff.1 hx
      rw [Go.WideShapes.add_plain, hc j (by omega), List.getD_eq_getElem?_getD, hx]
      rfl
    obtain ⟨v', w', hr, hown', hgr, _⟩ := run_append_own (P := Tryd.prog) W w.heap.size 27 ty 3 i (.int .i64 0) 1 8 Tryd.underlying27 hi hz hsz hby rfl (by decide) (.slice (some ⟨sb, 0, none⟩) 0 0) 0 [] hown ⟨b, off, none⟩ m pc (xs.map (fun x => Value.int .i64 x)) (by simp [hl]) hcell (by intro u hu; obtain ⟨x, _, rfl⟩ := List.mem_map.1 hu; rfl) (by unfold maxLen; omega) (by omega) hW.size
    rw [Nat.zero_add, List.nil_append] at hown'
    rcases Joins.ownsRow_forms hown' with ⟨_, h1⟩ | ⟨g, cap, rfl⟩
    · exact absurd h1 h0
    · refine ⟨some ⟨g, 0, none⟩, cap, w', hr, ⟨h.1, h.2.1, fun _ => ⟨g, 0, rfl, (hown'.lt g rfl).2, fun j hj => ?_⟩⟩, (Below.refl _ _).grown hgr hW.size (fun x hx => (World.ownsRow.lt hown x hx).1), fun b hb hne => hgr.block b hb (by intro hc; simp only [Value.ownBlock, Option.some.injEq] at hc; exact hne hc)⟩
      have hcs := hown'.cells (g := g) rfl j (.int .i64 (xs.getD j 0)) (by rw [List.getElem?_map, List.getElem?_eq_getElem (by omega), List.getD_eq_getElem?_getD, List.getElem?_eq_getElem (by omega)]; rfl)
      rw [Go.WideShapes.add_plain] at hcs
      exact hcs
theorem head_at {o i j : Nat} (ho : o < 3) (hi : i < 12) (hj : j < 12) : ∃ b : UInt8, (nmS o i j)[0]? = some b ∧ (⟨#[112, 118, 97]⟩ : ByteArray)[o]? = some b ∧ ((nmS o i j).size : Int) ≠ 0 := by
  obtain ⟨h1, h2, _⟩ := nmS_head ⟨o, ho⟩ ⟨i, hi⟩ ⟨j, hj⟩
  simp only at h1 h2
  have h3 : (nmS o i j)[0]? = some ((nmS o i j)[0]'(by omega)) := getElem?_pos _ _ _
  exact ⟨_, h3, by rw [← h2]; exact h3, by omega⟩
theorem ne_box {W : World} {a b : Nat} {r c : Int} {sa : Option Addr} {n cap : Nat} (h1 : W.heap[a]? = some (MBox r c sa n cap)) (h2 : W.heap[b]? = some (.cells #[] 3)) : a ≠ b := by
  rintro rfl
  rw [h1] at h2
  unfold MBox at h2
  simp at h2
theorem ones_map (m : Nat) : (List.range m).map (fun _ => 4607182418800017408) = onesL m := by
  unfold onesL
  rw [List.map_const', List.length_range]
theorem plusq_is {x : Nat} (hx : x < 18446744073709551616) (fx : x % 9223372036854775808 < 9218868437227405312) : floatBits .add .f64 x 0 = some (plusQ x) := by
  by_cases c : x = 9223372036854775808
  · rw [c]; decide +kernel
  · have := addq_zero x 0 hx fx (Or.inl rfl) c
    unfold plusQ
    rw [if_neg c]
    exact this
theorem canon_back {x r : Nat} (hx : x < 18446744073709551616) (fx : x % 9223372036854775808 < 9218868437227405312) (h : canonOf r = plusQ x) : r = plusQ x := by
  obtain ⟨_, p2, _⟩ := plusQ_fin hx fx
  by_cases hc : r % 9223372036854775808 > 9218868437227405312
  · unfold canonOf at h
    rw [if_pos hc] at h
    rw [← h] at p2
    exact absurd p2 (by decide)
  · unfold canonOf at h
    rw [if_neg hc] at h
    exact h
set_option maxRecDepth 4000 in
set_option maxHeartbeats 8000000 in
theorem named_walk (sa : Option Addr) (n cap : Nat) (K A : Nat → Int) (N F : Nat → Nat) (pa : Option Addr) (m pc : Nat) (xs : List Int) (su : Option Addr) (q ku : Nat) (us : List Nat) (part axis order : Int) (w : World) (h : PtU w sa n K A N F) (hn : n ≤ 4398046511104) (hu : I64At w pa m xs) (hm : m ≤ 17592186043904) (hx : U64At w su q us) (hq : q ≤ 17592186043904) (_hp : -9223372036854775808 ≤ part ∧ part ≤ 9223372036854775807) (_ha : -9223372036854775808 ≤ axis ∧ axis ≤ 9223372036854775807) (ho : -9223372036854775808 ≤ order ∧ order ≤ 9223372036854775807) : Calls Tryd.prog 4 #[.slice sa n cap, .slice pa m pc, .slice su q ku, .int .i64 part, .int .i64 axis, .int .i64 order] w fun r w' => r = .returned (.bool true) ∧ Below w.heap.size w w' := by
  have HM := hid (fun W (hW : Below w.heap.size w W) => motion_any sa n cap K A N F W (h.below hW) hn)
  have HN := hid (fun ta tc W hp => Names_any ta n tc K A N F W hp hn)
  have HD := hid (fun ta tc W hp => Dim_any ta n tc K A N F W hp hn)
  have HP := hid (fun ta tc W hp => Place_any ta n tc K A N F part axis order W hp hn ho)
  have HPK := hid (fun ta tc qa qc W hp hq => Picks_any ta n tc K A N F qa m qc xs W hp hn hq hm)
  have HOF := hid (fun W (hW : Below w.heap.size w W) => l_any su q ku us W (hx.below hW) hq)
  have HAL := hid (fun ta tc W hp => rall_any ta q tc us W hp hq)
  have HAP := hid (fun W (hW : Below w.heap.size w W) V sb (hV : Below W.heap.size W V) hs hsb => append_ints2 27 pa m pc xs W V sb hV hs hsb (hu.below hW) hm)
  have HAW := hid awake14_any
  have HUN := hid (@nm_unlike n K A N F)
  have HLD := hid (@nmL_lenD n K A N F)
  have HPOS := hid (@nm_pos n K A N F)
  have HPL := hid (@nm_place n K A N F part axis order)
  have HDZ : Hid (dmE n K A N F = 0 → dmV n K A N F ≤ 12) := fun hE => by
    obtain ⟨_, _, y2, y3, _⟩ := dm_zero hE
    show dmV n K A N F ≤ 12
    omega
  have HU := hid hu
  have HUS := hid hx
  have HMM := hid hm
  have HQQ := hid hq
  obtain ⟨E, hE⟩ : ∃ t, dmE n K A N F = t := ⟨_, rfl⟩
  obtain ⟨D, hD⟩ : ∃ t, dmV n K A N F = t := ⟨_, rfl⟩
  obtain ⟨P, hP⟩ : ∃ t, plV n K A N F part axis order = t := ⟨_, rfl⟩
  obtain ⟨Q, hQ⟩ : ∃ t, plE n K A N F part axis order = t := ⟨_, rfl⟩
  obtain ⟨l, hl⟩ : ∃ t, nmL K (axP A n) = t := ⟨_, rfl⟩
  rw [hE, hl] at HN HUN HPOS
  rw [hE, hD] at HD HPK HDZ
  rw [hP, hQ] at HP
  rw [hE, hl, hD] at HLD
  rw [hE, hQ, hP, hl] at HPL
  have hEE : (E != E) = false := by simp
  clear h hE hD hP hQ hl ho _hp _ha hn hu hx hm hq
  go_enter Tryd.func4, Tryd.ntmps4
  go_wp2_with fail
  refine (HAW.out _).mono ?_
  rintro e w1 ⟨rfl, hb⟩
  have HB1 := hid hb
  clear hb
  go_wp2_with fail
  refine (HM.out _ HB1.out).mono ?_
  rintro e w2 ⟨⟨ta, tc, rfl, hp⟩, hb⟩
  have HB2 := hid (HB1.out.trans (hb.mono HB1.out.size))
  have hal : Below w2.heap.size w2 (w2.alloc (MoBox ta n tc)) := (Below.refl _ _).alloc (Nat.le_refl _) _
  have HPF := hid (hp.below hal)
  have HA : Hid ((w2.alloc (MoBox ta n tc)).heap[w2.heap.size]? = some (MoBox ta n tc)) := nblkM _ _
  have HB3 := hid (HB2.out.trans (hal.mono HB2.out.size))
  obtain ⟨V, hV⟩ : ∃ V, Hid (w2.alloc (MoBox ta n tc) = V) := ⟨_, rfl⟩
  rw [hV.out] at HPF HA HB3
  have hV' := hV.out
  unfold MoBox at hV'
  obtain ⟨mb, hmb⟩ : ∃ t, Hid (w2.heap.size = t) := ⟨_, rfl⟩
  rw [hmb.out] at HA
  have hmb' := hmb.out
  have c0 := mocell_of HA.out
  clear hp hb hal
  go_wp2_with fail
  refine (HN.out _ _ _ HPF.out).mono ?_
  rintro e w4 ⟨⟨v1, rfl, hr1⟩, hb⟩
  have HB4 := hid (HB3.out.trans (hb.mono HB3.out.size))
  have HPF4 := hid (HPF.out.below hb)
  have HA4 := hid (blkM HA.out hb)
  have HR1 : Hid ((E = 0 ∧ w4.ownsRow 0 9 1 v1 l.length (stL l)) ∨ (E ≠ 0 ∧ v1 = .slice none 0 0)) := hr1.imp (fun q => ⟨q.1, owns_base q.2⟩) id
  have c1 := mocell_of HA4.out
  clear hr1 hb c0 HPF HA hV hV' hmb hmb'
  go_wp2_with fail
  refine (HD.out _ _ _ HPF4.out).mono ?_
  rintro e w5 ⟨rfl, hb⟩
  have HB5 := hid (HB4.out.trans (hb.mono HB4.out.size))
  have HPF5 := hid (HPF4.out.below hb)
  have HA5 := hid (blkM HA4.out hb)
  have hr1 : (E = 0 ∧ w5.ownsRow 0 9 1 v1 l.length (stL l)) ∨ (E ≠ 0 ∧ v1 = .slice none 0 0) := HR1.out.imp (fun q => ⟨q.1, owns_keepB q.2 hb⟩) id
  clear hb c1 HR1 HPF4 HA4
  rcases hr1 with ⟨hz, hrow⟩ | ⟨hz, rfl⟩
  rotate_left
  · have hz1 : (E == 0) = false := by simpa using hz
    have hz2 : (E != 0) = true := by simpa using hz
    clear hz
    go_wp2_with fail
    go_ret
    exact ⟨rfl, HB5.out⟩
  have hD := HLD.out hz
  have HPOS2 := hid (HPOS.out hz)
  have hD12 := HDZ.out hz
  have HUN2 := hid (HUN.out hz)
  have HPL2 := hid (HPL.out hz)
  rw [hz] at HPK
  subst hz
  obtain ⟨M, hM⟩ : ∃ t, Hid (l.length = t) := ⟨_, rfl⟩
  have HMI : Hid (M ≤ 12) := by have := hM.out; show M ≤ 12; omega
  rw [hM.out] at hD
  subst hD
  rcases Joins.ownsRow_forms hrow with ⟨_, h0⟩ | ⟨g1, q1, rfl⟩
  · exact absurd h0 HPOS2.out
  have HCE : Hid (∀ W, Below w5.heap.size w5 W → ∀ k, k < M → W.cell? ⟨g1, k, none⟩ = some (.string (l.getD k ⟨#[]⟩))) := fun W hb k hk => by
    rw [hb.cell (p := ⟨g1, k, none⟩) (World.ownsRow.lt hrow g1 rfl).2]
    exact st_cell hrow k (by rw [hM.out]; exact hk)
  rw [hM.out]
  clear hrow HUN HLD HPL HDZ hD12 HPOS HPOS2
  have hMM : ((M : Int) != (M : Int)) = false := by simp
  have hM12 := HMI.out
  go_wp2_with fail
  go_loopw [18] (fun iv wr => ∃ k : Nat, k ≤ M ∧ iv = .int .i64 k ∧ Hid (Below w5.heap.size w5 wr)) (fun iv _ => M - (intOf iv).toNat)
  case atStart => exact ⟨0, Nat.zero_le _, rfl, Below.refl _ _⟩
  case round =>
    obtain ⟨k, hk, rfl, HBR⟩ := hrel
    by_cases hlt : k < M
    · have hkI : (k : Int) < (M : Int) := by omega
      go_wp2_with fail
      go_loopw [19] (fun jv wr2 => ∃ j : Nat, j ≤ k ∧ jv = .int .i64 j ∧ Hid (Below w5.heap.size w5 wr2)) (fun jv _ => k - (intOf jv).toNat)
      case atStart => exact ⟨0, Nat.zero_le _, rfl, HBR⟩
      case round =>
        obtain ⟨j, hj, rfl, HBR2⟩ := hrel
        by_cases hjk : j < k
        · have hjI : (j : Int) < (k : Int) := by omega
          have hj0 : (0 : Int) ≤ (j : Int) := by omega
          have hk0 : (0 : Int) ≤ (k : Int) := by omega
          have hjM : (j : Int) < (M : Int) := by omega
          obtain ⟨x, hx⟩ : ∃ t, l.getD k ⟨#[]⟩ = t := ⟨_, rfl⟩
          obtain ⟨y, hy⟩ : ∃ t, l.getD j ⟨#[]⟩ = t := ⟨_, rfl⟩
          have HS0 := hid (And.intro (HCE.out wr.drew HBR2.out.drew k hlt) (HCE.out wr.drew HBR2.out.drew j (by omega)))
          have hxy := HUN2.out k j (by rw [hM.out]; exact hlt) hjk
          rw [hx, hy] at HS0 hxy
          go_wp2_with fail
          refine wp_region_held_drew (S := fun W => W.cell? ⟨g1, k, none⟩ = some (.string x) ∧ W.cell? ⟨g1, j, none⟩ = some (.string y)) (by kernel_rfl) HS0.out (fun hHeld => ?_)
          refine take_at 0 68 (.slice (some ⟨g1, 0, none⟩) M q1) rfl rfl (by kernel_rfl) (by kernel_rfl) (by kernel_rfl) (fun _ _ _ h => h) (Or.inl ⟨by rfl, fun w hSw => by (try dsimp only at hSw); go_simp⟩) (by assumption) ?_
          simp only [Act.put, List.setIfInBounds_toArray, List.set_cons_zero, List.set_cons_succ]
          refine take_at 1 69 (.int .i64 k) rfl rfl (by kernel_rfl) (by kernel_rfl) (by kernel_rfl) (fun _ _ _ h => h) (Or.inl ⟨by rfl, fun w hSw => by (try dsimp only at hSw); go_simp⟩) (by assumption) ?_
          simp only [Act.put, List.setIfInBounds_toArray, List.set_cons_zero, List.set_cons_succ]
          refine take_at 2 70 (.pointer (some ⟨g1, k, none⟩)) rfl rfl (by kernel_rfl) (by kernel_rfl) (by kernel_rfl) (fun _ _ _ h => h) (Or.inl ⟨by rfl, fun w hSw => by (try dsimp only at hSw); go_simp⟩) (by assumption) ?_
          simp only [Act.put, List.setIfInBounds_toArray, List.set_cons_zero, List.set_cons_succ]
          refine take_at 3 71 (.string x) rfl rfl (by kernel_rfl) (by kernel_rfl) (by kernel_rfl) (fun _ _ _ h => h) (Or.inl ⟨by rfl, fun w hSw => by (try dsimp only at hSw); go_simp⟩) (by assumption) ?_
          simp only [Act.put, List.setIfInBounds_toArray, List.set_cons_zero, List.set_cons_succ]
          refine take_at 4 72 (.slice (some ⟨g1, 0, none⟩) M q1) rfl rfl (by kernel_rfl) (by kernel_rfl) (by kernel_rfl) (fun _ _ _ h => h) (Or.inl ⟨by rfl, fun w hSw => by (try dsimp only at hSw); go_simp⟩) (by assumption) ?_
          simp only [Act.put, List.setIfInBounds_toArray, List.set_cons_zero, List.set_cons_succ]
          refine take_at 5 73 (.int .i64 j) rfl rfl (by kernel_rfl) (by kernel_rfl) (by kernel_rfl) (fun _ _ _ h => h) (Or.inl ⟨by rfl, fun w hSw => by (try dsimp only at hSw); go_simp⟩) (by assumption) ?_
          simp only [Act.put, List.setIfInBounds_toArray, List.set_cons_zero, List.set_cons_succ]
          refine take_at 6 74 (.pointer (some ⟨g1, j, none⟩)) rfl rfl (by kernel_rfl) (by kernel_rfl) (by kernel_rfl) (fun _ _ _ h => h) (Or.inl ⟨by rfl, fun w hSw => by (try dsimp only at hSw); go_simp⟩) (by assumption) ?_
          simp only [Act.put, List.setIfInBounds_toArray, List.set_cons_zero, List.set_cons_succ]
          refine take_at 7 75 (.string y) rfl rfl (by kernel_rfl) (by kernel_rfl) (by kernel_rfl) (fun _ _ _ h => h) (Or.inl ⟨by rfl, fun w hSw => by (try dsimp only at hSw); go_simp⟩) (by assumption) ?_
          simp only [Act.put, List.setIfInBounds_toArray, List.set_cons_zero, List.set_cons_succ]
          refine take_at 8 76 (.bool false) rfl rfl (by kernel_rfl) (by kernel_rfl) (by kernel_rfl) (fun _ _ _ h => h) (Or.inl ⟨by rfl, fun w hSw => by (try dsimp only at hSw); go_simp⟩) (by assumption) ?_
          simp only [Act.put, List.setIfInBounds_toArray, List.set_cons_zero, List.set_cons_succ]
          refine wpAnyH_done (by kernel_rfl) ?_ _
          go_wp2_with fail
          go_roundw
          case rel => exact ⟨j + 1, by omega, by go_num, HBR2.out.drew⟩
          case measure => simp [intOf]; omega
        · obtain rfl : j = k := by omega
          have hjj : ¬ (j : Int) < (j : Int) := by omega
          go_wp2_with fail
          go_roundw
          case rel => exact ⟨j + 1, by omega, by go_num, HBR2⟩
          case measure => simp [intOf]; omega
    · obtain rfl : k = M := by omega
      have hkk : ¬ (k : Int) < (k : Int) := by omega
      have c5 := mocell_of (blkM HA5.out HBR.out)
      have HPF6 := hid (HPF5.out.below HBR.out)
      have HBW := hid (HB5.out.trans (HBR.out.mono HB5.out.size))
      go_wp2_with fail
      refine (HP.out _ _ _ HPF6.out).mono ?_
      rintro e w6 ⟨rfl, hb⟩
      have HBN6 := hid (HBR.out.trans (hb.mono HBR.out.size))
      clear hb c5 HPF6 HBW
      go_wp2_with fail
      refine region_merge2 (fun a0 a' w' => ∃ (v85 v86 v87 v88 v89 v90 v91 v92 v93 v94 v95 v96 v97 v98 v99 v100 v101 v102 v103 v104 v105 v106 v107 v108 v109 v110 v111 v112 v113 v114 v115 v116 v117 v118 v119 v120 : Value), a' = Act.put (Act.put (Act.put (Act.put (Act.put (Act.put (Act.put (Act.put (Act.put (Act.put (Act.put (Act.put (Act.put (Act.put (Act.put (Act.put (Act.put (Act.put (Act.put (Act.put (Act.put (Act.put (Act.put (Act.put (Act.put (Act.put (Act.put (Act.put (Act.put (Act.put (Act.put (Act.put (Act.put (Act.put (Act.put (Act.put (Act.put (a0) (some 85) v85) (some 86) v86) (some 87) v87) (some 88) v88) (some 89) v89) (some 90) v90) (some 91) v91) (some 92) v92) (some 93) v93) (some 94) v94) (some 95) v95) (some 96) v96) (some 97) v97) (some 98) v98) (some 99) v99) (some 100) v100) (some 101) v101) (some 102) v102) (some 103) v103) (some 104) v104) (some 105) v105) (some 106) v106) (some 107) v107) (some 108) v108) (some 109) v109) (some 110) v110) (some 111) v111) (some 112) v112) (some 113) v113) (some 114) v114) (some 115) v115) (some 116) v116) (some 117) v117) (some 118) v118) (some 119) v119) (some 120) v120) (some 121) (.bool false) ∧ Hid (Below w5.heap.size w5 w')) (fun HR => ?_) ?_
      · simp only [Act.put, List.setIfInBounds_toArray, List.set_cons_zero, List.set_cons_succ] at HR
        by_cases hQ0 : Q = 0
        · obtain ⟨t, o, hP, ho, ho3, htM, i, j, hi, hj, hnm⟩ := HPL2.out hQ0
          rw [hM.out] at htM
          subst hP ho hQ0
          obtain ⟨b, hb1, hb2, hb3⟩ := head_at ho3 hi hj
          rw [← hnm] at hb1 hb3
          obtain ⟨x, hx⟩ : ∃ t', l.getD t ⟨#[]⟩ = t' := ⟨_, rfl⟩
          have HS0 := hid (HCE.out w6.drew HBN6.out.drew t htM)
          rw [hx] at HS0 hb1 hb3
          have ht0 : (0 : Int) ≤ (t : Int) := by omega
          have ht1 : (t : Int) < (k : Int) := by omega
          have ho0 : (0 : Int) ≤ (o : Int) := by omega
          have ho2 : (o : Int) ≤ 2 := by omega
          have k1 : decide ((t : Int) < 0) = false := by simp
          have k2 : decide ((t : Int) ≥ (k : Int)) = false := by simp; omega
          have k3 : decide ((o : Int) < 0) = false := by simp
          have k4 : decide ((o : Int) > 2) = false := by simp; omega
          have k5 : ((x.size : Int) == 0) = false := by rw [beq_eq_false_iff_ne]; exact hb3
          have k6 : ((b.toNat : Int) != (b.toNat : Int)) = false := by simp
          have hxs : 0 < x.size := by have h0 : x.size ≠ 0 := fun hc => hb3 (by rw [hc]; rfl); omega
          have hx0 : x[0]'hxs = b := by rw [getElem?_pos x 0 hxs] at hb1; exact Option.some.inj hb1
          have hpo : (⟨#[112, 118, 97]⟩ : ByteArray)[o]'ho3 = b := by rw [getElem?_pos (⟨#[112, 118, 97]⟩ : ByteArray) o ho3] at hb2; exact Option.some.inj hb2
          clear hnm hx hb1 hb2 hb3
          refine wp_region_held_drew (S := fun W => W.cell? ⟨g1, t, none⟩ = some (.string x)) (by kernel_rfl) HS0.out (fun hHeld => ?_)
          refine take_at 0 85 (.int .i64 0) rfl rfl (by kernel_rfl) (by kernel_rfl) (by kernel_rfl) (fun _ _ _ h => h) (Or.inl ⟨by rfl, fun w hSw => by (try dsimp only at hSw); go_simp⟩) (by assumption) ?_
          simp only [Act.put, List.setIfInBounds_toArray, List.set_cons_zero, List.set_cons_succ]
          refine take_at 1 86 (.bool true) rfl rfl (by kernel_rfl) (by kernel_rfl) (by kernel_rfl) (fun _ _ _ h => h) (Or.inl ⟨by rfl, fun w hSw => by (try dsimp only at hSw); go_simp⟩) (by assumption) ?_
          simp only [Act.put, List.setIfInBounds_toArray, List.set_cons_zero, List.set_cons_succ]
          refine take_at 2 87 (.bool true) rfl rfl (by kernel_rfl) (by kernel_rfl) (by kernel_rfl) (fun _ _ _ h => h) (Or.inl ⟨by rfl, fun w hSw => by (try dsimp only at hSw); go_simp⟩) (by assumption) ?_
          simp only [Act.put, List.setIfInBounds_toArray, List.set_cons_zero, List.set_cons_succ]
          refine take_at 3 88 (.int .i64 t) rfl rfl (by kernel_rfl) (by kernel_rfl) (by kernel_rfl) (fun _ _ _ h => h) (Or.inl ⟨by rfl, fun w hSw => by (try dsimp only at hSw); go_simp⟩) (by assumption) ?_
          simp only [Act.put, List.setIfInBounds_toArray, List.set_cons_zero, List.set_cons_succ]
          refine take_at 4 89 (.bool false) rfl rfl (by kernel_rfl) (by kernel_rfl) (by kernel_rfl) (fun _ _ _ h => h) (Or.inl ⟨by rfl, fun w hSw => by (try dsimp only at hSw); go_simp⟩) (by assumption) ?_
          simp only [Act.put, List.setIfInBounds_toArray, List.set_cons_zero, List.set_cons_succ]
          refine take_at 5 90 (.bool false) rfl rfl (by kernel_rfl) (by kernel_rfl) (by kernel_rfl) (fun _ _ _ h => h) (Or.inl ⟨by rfl, fun w hSw => by (try dsimp only at hSw); go_simp⟩) (by assumption) ?_
          simp only [Act.put, List.setIfInBounds_toArray, List.set_cons_zero, List.set_cons_succ]
          refine take_at 6 91 (.int .i64 t) rfl rfl (by kernel_rfl) (by kernel_rfl) (by kernel_rfl) (fun _ _ _ h => h) (Or.inl ⟨by rfl, fun w hSw => by (try dsimp only at hSw); go_simp⟩) (by assumption) ?_
          simp only [Act.put, List.setIfInBounds_toArray, List.set_cons_zero, List.set_cons_succ]
          refine take_at 7 92 (.int .i64 k) rfl rfl (by kernel_rfl) (by kernel_rfl) (by kernel_rfl) (fun _ _ _ h => h) (Or.inl ⟨by rfl, fun w hSw => by (try dsimp only at hSw); go_simp⟩) (by assumption) ?_
          simp only [Act.put, List.setIfInBounds_toArray, List.set_cons_zero, List.set_cons_succ]
          refine take_at 8 93 (.bool false) rfl rfl (by kernel_rfl) (by kernel_rfl) (by kernel_rfl) (fun _ _ _ h => h) (Or.inl ⟨by rfl, fun w hSw => by (try dsimp only at hSw); go_simp⟩) (by assumption) ?_
          simp only [Act.put, List.setIfInBounds_toArray, List.set_cons_zero, List.set_cons_succ]
          refine take_at 9 94 (.bool false) rfl rfl (by kernel_rfl) (by kernel_rfl) (by kernel_rfl) (fun _ _ _ h => h) (Or.inl ⟨by rfl, fun w hSw => by (try dsimp only at hSw); go_simp⟩) (by assumption) ?_
          simp only [Act.put, List.setIfInBounds_toArray, List.set_cons_zero, List.set_cons_succ]
          refine take_at 10 95 (.bool false) rfl rfl (by kernel_rfl) (by kernel_rfl) (by kernel_rfl) (fun _ _ _ h => h) (Or.inl ⟨by rfl, fun w hSw => by (try dsimp only at hSw); go_simp⟩) (by assumption) ?_
          simp only [Act.put, List.setIfInBounds_toArray, List.set_cons_zero, List.set_cons_succ]
          refine take_at 11 96 (.int .i64 o) rfl rfl (by kernel_rfl) (by kernel_rfl) (by kernel_rfl) (fun _ _ _ h => h) (Or.inl ⟨by rfl, fun w hSw => by (try dsimp only at hSw); go_simp⟩) (by assumption) ?_
          simp only [Act.put, List.setIfInBounds_toArray, List.set_cons_zero, List.set_cons_succ]
          refine take_at 12 97 (.bool false) rfl rfl (by kernel_rfl) (by kernel_rfl) (by kernel_rfl) (fun _ _ _ h => h) (Or.inl ⟨by rfl, fun w hSw => by (try dsimp only at hSw); go_simp⟩) (by assumption) ?_
          simp only [Act.put, List.setIfInBounds_toArray, List.set_cons_zero, List.set_cons_succ]
          refine take_at 13 98 (.bool false) rfl rfl (by kernel_rfl) (by kernel_rfl) (by kernel_rfl) (fun _ _ _ h => h) (Or.inl ⟨by rfl, fun w hSw => by (try dsimp only at hSw); go_simp⟩) (by assumption) ?_
          simp only [Act.put, List.setIfInBounds_toArray, List.set_cons_zero, List.set_cons_succ]
          refine take_at 14 99 (.bool false) rfl rfl (by kernel_rfl) (by kernel_rfl) (by kernel_rfl) (fun _ _ _ h => h) (Or.inl ⟨by rfl, fun w hSw => by (try dsimp only at hSw); go_simp⟩) (by assumption) ?_
          simp only [Act.put, List.setIfInBounds_toArray, List.set_cons_zero, List.set_cons_succ]
          refine take_at 15 100 (.int .i64 o) rfl rfl (by kernel_rfl) (by kernel_rfl) (by kernel_rfl) (fun _ _ _ h => h) (Or.inl ⟨by rfl, fun w hSw => by (try dsimp only at hSw); go_simp⟩) (by assumption) ?_
          simp only [Act.put, List.setIfInBounds_toArray, List.set_cons_zero, List.set_cons_succ]
          refine take_at 16 101 (.bool false) rfl rfl (by kernel_rfl) (by kernel_rfl) (by kernel_rfl) (fun _ _ _ h => h) (Or.inl ⟨by rfl, fun w hSw => by (try dsimp only at hSw); go_simp⟩) (by assumption) ?_
          simp only [Act.put, List.setIfInBounds_toArray, List.set_cons_zero, List.set_cons_succ]
          refine take_at 17 102 (.bool false) rfl rfl (by kernel_rfl) (by kernel_rfl) (by kernel_rfl) (fun _ _ _ h => h) (Or.inl ⟨by rfl, fun w hSw => by (try dsimp only at hSw); go_simp⟩) (by assumption) ?_
          simp only [Act.put, List.setIfInBounds_toArray, List.set_cons_zero, List.set_cons_succ]
          refine take_at 18 103 (.bool false) rfl rfl (by kernel_rfl) (by kernel_rfl) (by kernel_rfl) (fun _ _ _ h => h) (Or.inl ⟨by rfl, fun w hSw => by (try dsimp only at hSw); go_simp⟩) (by assumption) ?_
          simp only [Act.put, List.setIfInBounds_toArray, List.set_cons_zero, List.set_cons_succ]
          refine take_at 19 104 (.slice (some ⟨g1, 0, none⟩) k q1) rfl rfl (by kernel_rfl) (by kernel_rfl) (by kernel_rfl) (fun _ _ _ h => h) (Or.inl ⟨by rfl, fun w hSw => by (try dsimp only at hSw); go_simp⟩) (by assumption) ?_
          simp only [Act.put, List.setIfInBounds_toArray, List.set_cons_zero, List.set_cons_succ]
          refine take_at 20 105 (.int .i64 t) rfl rfl (by kernel_rfl) (by kernel_rfl) (by kernel_rfl) (fun _ _ _ h => h) (Or.inl ⟨by rfl, fun w hSw => by (try dsimp only at hSw); go_simp⟩) (by assumption) ?_
          simp only [Act.put, List.setIfInBounds_toArray, List.set_cons_zero, List.set_cons_succ]
          refine take_at 21 106 (.pointer (some ⟨g1, t, none⟩)) rfl rfl (by kernel_rfl) (by kernel_rfl) (by kernel_rfl) (fun _ _ _ h => h) (Or.inl ⟨by rfl, fun w hSw => by (try dsimp only at hSw); go_simp⟩) (by assumption) ?_
          simp only [Act.put, List.setIfInBounds_toArray, List.set_cons_zero, List.set_cons_succ]
          refine take_at 22 107 (.string x) rfl rfl (by kernel_rfl) (by kernel_rfl) (by kernel_rfl) (fun _ _ _ h => h) (Or.inl ⟨by rfl, fun w hSw => by (try dsimp only at hSw); go_simp⟩) (by assumption) ?_
          simp only [Act.put, List.setIfInBounds_toArray, List.set_cons_zero, List.set_cons_succ]
          refine take_at 23 108 (.int .i64 (x.size : Int)) rfl rfl (by kernel_rfl) (by kernel_rfl) (by kernel_rfl) (fun _ _ _ h => h) (Or.inl ⟨by rfl, fun w hSw => by (try dsimp only at hSw); go_simp⟩) (by assumption) ?_
          simp only [Act.put, List.setIfInBounds_toArray, List.set_cons_zero, List.set_cons_succ]
          refine take_at 24 109 (.bool false) rfl rfl (by kernel_rfl) (by kernel_rfl) (by kernel_rfl) (fun _ _ _ h => h) (Or.inl ⟨by rfl, fun w hSw => by (try dsimp only at hSw); go_simp⟩) (by assumption) ?_
          simp only [Act.put, List.setIfInBounds_toArray, List.set_cons_zero, List.set_cons_succ]
          refine take_at 25 110 (.bool false) rfl rfl (by kernel_rfl) (by kernel_rfl) (by kernel_rfl) (fun _ _ _ h => h) (Or.inl ⟨by rfl, fun w hSw => by (try dsimp only at hSw); go_simp⟩) (by assumption) ?_
          simp only [Act.put, List.setIfInBounds_toArray, List.set_cons_zero, List.set_cons_succ]
          refine take_at 26 111 (.bool false) rfl rfl (by kernel_rfl) (by kernel_rfl) (by kernel_rfl) (fun _ _ _ h => h) (Or.inl ⟨by rfl, fun w hSw => by (try dsimp only at hSw); go_simp⟩) (by assumption) ?_
          simp only [Act.put, List.setIfInBounds_toArray, List.set_cons_zero, List.set_cons_succ]
          refine take_at 27 112 (.slice (some ⟨g1, 0, none⟩) k q1) rfl rfl (by kernel_rfl) (by kernel_rfl) (by kernel_rfl) (fun _ _ _ h => h) (Or.inl ⟨by rfl, fun w hSw => by (try dsimp only at hSw); go_simp⟩) (by assumption) ?_
          simp only [Act.put, List.setIfInBounds_toArray, List.set_cons_zero, List.set_cons_succ]
          refine take_at 28 113 (.int .i64 t) rfl rfl (by kernel_rfl) (by kernel_rfl) (by kernel_rfl) (fun _ _ _ h => h) (Or.inl ⟨by rfl, fun w hSw => by (try dsimp only at hSw); go_simp⟩) (by assumption) ?_
          simp only [Act.put, List.setIfInBounds_toArray, List.set_cons_zero, List.set_cons_succ]
          refine take_at 29 114 (.pointer (some ⟨g1, t, none⟩)) rfl rfl (by kernel_rfl) (by kernel_rfl) (by kernel_rfl) (fun _ _ _ h => h) (Or.inl ⟨by rfl, fun w hSw => by (try dsimp only at hSw); go_simp⟩) (by assumption) ?_
          simp only [Act.put, List.setIfInBounds_toArray, List.set_cons_zero, List.set_cons_succ]
          refine take_at 30 115 (.string x) rfl rfl (by kernel_rfl) (by kernel_rfl) (by kernel_rfl) (fun _ _ _ h => h) (Or.inl ⟨by rfl, fun w hSw => by (try dsimp only at hSw); go_simp⟩) (by assumption) ?_
          simp only [Act.put, List.setIfInBounds_toArray, List.set_cons_zero, List.set_cons_succ]
          refine take_at 31 116 (.int .u8 (b.toNat : Int)) rfl rfl (by kernel_rfl) (by kernel_rfl) (by kernel_rfl) (fun _ _ _ h => h) (Or.inl ⟨by rfl, fun w hSw => by (try dsimp only at hSw); go_simp⟩) (by assumption) ?_
          simp only [Act.put, List.setIfInBounds_toArray, List.set_cons_zero, List.set_cons_succ]
          refine take_at 32 117 (.int .i64 o) rfl rfl (by kernel_rfl) (by kernel_rfl) (by kernel_rfl) (fun _ _ _ h => h) (Or.inl ⟨by rfl, fun w hSw => by (try dsimp only at hSw); go_simp⟩) (by assumption) ?_
          simp only [Act.put, List.setIfInBounds_toArray, List.set_cons_zero, List.set_cons_succ]
          refine take_at 33 118 (.int .u8 (b.toNat : Int)) rfl rfl (by kernel_rfl) (by kernel_rfl) (by kernel_rfl) (fun _ _ _ h => h) (Or.inl ⟨by rfl, fun w hSw => by (try dsimp only at hSw); go_simp; intro hc; omega⟩) (by assumption) ?_
          simp only [Act.put, List.setIfInBounds_toArray, List.set_cons_zero, List.set_cons_succ]
          refine take_at 34 119 (.bool false) rfl rfl (by kernel_rfl) (by kernel_rfl) (by kernel_rfl) (fun _ _ _ h => h) (Or.inl ⟨by rfl, fun w hSw => by (try dsimp only at hSw); go_simp⟩) (by assumption) ?_
          simp only [Act.put, List.setIfInBounds_toArray, List.set_cons_zero, List.set_cons_succ]
          refine take_at 35 120 (.bool false) rfl rfl (by kernel_rfl) (by kernel_rfl) (by kernel_rfl) (fun _ _ _ h => h) (Or.inl ⟨by rfl, fun w hSw => by (try dsimp only at hSw); go_simp⟩) (by assumption) ?_
          simp only [Act.put, List.setIfInBounds_toArray, List.set_cons_zero, List.set_cons_succ]
          refine take_at 36 121 (.bool false) rfl rfl (by kernel_rfl) (by kernel_rfl) (by kernel_rfl) (fun _ _ _ h => h) (Or.inl ⟨by rfl, fun w hSw => by (try dsimp only at hSw); go_simp⟩) (by assumption) ?_
          simp only [Act.put, List.setIfInBounds_toArray, List.set_cons_zero, List.set_cons_succ]
          refine wpAnyH_done (by kernel_rfl) ?_ _
          exact HR.out _ _ ⟨_, _, _, _, _, _, _, _, _, _, _, _, _, _, _, _, _, _, _, _, _, _, _, _, _, _, _, _, _, _, _, _, _, _, _, _, rfl, HBN6.out.drew⟩
        · have hQ1 : (Q == 0) = false := by simpa using hQ0
          clear hQ0
          refine wp_region_held_drew (S := fun _ => True) (by kernel_rfl) trivial (fun hHeld => ?_)
          refine take_at 0 85 (.int .i64 Q) rfl rfl (by kernel_rfl) (by kernel_rfl) (by kernel_rfl) (fun _ _ _ h => h) (Or.inl ⟨by rfl, fun w hSw => by (try dsimp only at hSw); go_simp⟩) (by assumption) ?_
          simp only [Act.put, List.setIfInBounds_toArray, List.set_cons_zero, List.set_cons_succ]
          refine take_at 1 86 (.bool false) rfl rfl (by kernel_rfl) (by kernel_rfl) (by kernel_rfl) (fun _ _ _ h => h) (Or.inl ⟨by rfl, fun w hSw => by (try dsimp only at hSw); go_simp⟩) (by assumption) ?_
          simp only [Act.put, List.setIfInBounds_toArray, List.set_cons_zero, List.set_cons_succ]
          refine take_at 2 87 (.bool false) rfl rfl (by kernel_rfl) (by kernel_rfl) (by kernel_rfl) (fun _ _ _ h => h) (Or.inl ⟨by rfl, fun w hSw => by (try dsimp only at hSw); go_simp⟩) (by assumption) ?_
          simp only [Act.put, List.setIfInBounds_toArray, List.set_cons_zero, List.set_cons_succ]
          refine take_at 3 88 (undef) rfl rfl (by kernel_rfl) (by kernel_rfl) (by kernel_rfl) (fun _ _ _ h => h) (Or.inr ⟨by rfl, rfl⟩) (by assumption) ?_
          simp only [Act.put, List.setIfInBounds_toArray, List.set_cons_zero, List.set_cons_succ]
          refine take_at 4 89 (undef) rfl rfl (by kernel_rfl) (by kernel_rfl) (by kernel_rfl) (fun _ _ _ h => h) (Or.inr ⟨by rfl, rfl⟩) (by assumption) ?_
          simp only [Act.put, List.setIfInBounds_toArray, List.set_cons_zero, List.set_cons_succ]
          refine take_at 5 90 (undef) rfl rfl (by kernel_rfl) (by kernel_rfl) (by kernel_rfl) (fun _ _ _ h => h) (Or.inr ⟨by rfl, rfl⟩) (by assumption) ?_
          simp only [Act.put, List.setIfInBounds_toArray, List.set_cons_zero, List.set_cons_succ]
          refine take_at 6 91 (undef) rfl rfl (by kernel_rfl) (by kernel_rfl) (by kernel_rfl) (fun _ _ _ h => h) (Or.inr ⟨by rfl, rfl⟩) (by assumption) ?_
          simp only [Act.put, List.setIfInBounds_toArray, List.set_cons_zero, List.set_cons_succ]
          refine take_at 7 92 (undef) rfl rfl (by kernel_rfl) (by kernel_rfl) (by kernel_rfl) (fun _ _ _ h => h) (Or.inr ⟨by rfl, rfl⟩) (by assumption) ?_
          simp only [Act.put, List.setIfInBounds_toArray, List.set_cons_zero, List.set_cons_succ]
          refine take_at 8 93 (undef) rfl rfl (by kernel_rfl) (by kernel_rfl) (by kernel_rfl) (fun _ _ _ h => h) (Or.inr ⟨by rfl, rfl⟩) (by assumption) ?_
          simp only [Act.put, List.setIfInBounds_toArray, List.set_cons_zero, List.set_cons_succ]
          refine take_at 9 94 (undef) rfl rfl (by kernel_rfl) (by kernel_rfl) (by kernel_rfl) (fun _ _ _ h => h) (Or.inr ⟨by rfl, rfl⟩) (by assumption) ?_
          simp only [Act.put, List.setIfInBounds_toArray, List.set_cons_zero, List.set_cons_succ]
          refine take_at 10 95 (undef) rfl rfl (by kernel_rfl) (by kernel_rfl) (by kernel_rfl) (fun _ _ _ h => h) (Or.inr ⟨by rfl, rfl⟩) (by assumption) ?_
          simp only [Act.put, List.setIfInBounds_toArray, List.set_cons_zero, List.set_cons_succ]
          refine take_at 11 96 (undef) rfl rfl (by kernel_rfl) (by kernel_rfl) (by kernel_rfl) (fun _ _ _ h => h) (Or.inr ⟨by rfl, rfl⟩) (by assumption) ?_
          simp only [Act.put, List.setIfInBounds_toArray, List.set_cons_zero, List.set_cons_succ]
          refine take_at 12 97 (undef) rfl rfl (by kernel_rfl) (by kernel_rfl) (by kernel_rfl) (fun _ _ _ h => h) (Or.inr ⟨by rfl, rfl⟩) (by assumption) ?_
          simp only [Act.put, List.setIfInBounds_toArray, List.set_cons_zero, List.set_cons_succ]
          refine take_at 13 98 (undef) rfl rfl (by kernel_rfl) (by kernel_rfl) (by kernel_rfl) (fun _ _ _ h => h) (Or.inr ⟨by rfl, rfl⟩) (by assumption) ?_
          simp only [Act.put, List.setIfInBounds_toArray, List.set_cons_zero, List.set_cons_succ]
          refine take_at 14 99 (undef) rfl rfl (by kernel_rfl) (by kernel_rfl) (by kernel_rfl) (fun _ _ _ h => h) (Or.inr ⟨by rfl, rfl⟩) (by assumption) ?_
          simp only [Act.put, List.setIfInBounds_toArray, List.set_cons_zero, List.set_cons_succ]
          refine take_at 15 100 (undef) rfl rfl (by kernel_rfl) (by kernel_rfl) (by kernel_rfl) (fun _ _ _ h => h) (Or.inr ⟨by rfl, rfl⟩) (by assumption) ?_
          simp only [Act.put, List.setIfInBounds_toArray, List.set_cons_zero, List.set_cons_succ]
          refine take_at 16 101 (undef) rfl rfl (by kernel_rfl) (by kernel_rfl) (by kernel_rfl) (fun _ _ _ h => h) (Or.inr ⟨by rfl, rfl⟩) (by assumption) ?_
          simp only [Act.put, List.setIfInBounds_toArray, List.set_cons_zero, List.set_cons_succ]
          refine take_at 17 102 (undef) rfl rfl (by kernel_rfl) (by kernel_rfl) (by kernel_rfl) (fun _ _ _ h => h) (Or.inr ⟨by rfl, rfl⟩) (by assumption) ?_
          simp only [Act.put, List.setIfInBounds_toArray, List.set_cons_zero, List.set_cons_succ]
          refine take_at 18 103 (undef) rfl rfl (by kernel_rfl) (by kernel_rfl) (by kernel_rfl) (fun _ _ _ h => h) (Or.inr ⟨by rfl, rfl⟩) (by assumption) ?_
          simp only [Act.put, List.setIfInBounds_toArray, List.set_cons_zero, List.set_cons_succ]
          refine take_at 19 104 (undef) rfl rfl (by kernel_rfl) (by kernel_rfl) (by kernel_rfl) (fun _ _ _ h => h) (Or.inr ⟨by rfl, rfl⟩) (by assumption) ?_
          simp only [Act.put, List.setIfInBounds_toArray, List.set_cons_zero, List.set_cons_succ]
          refine take_at 20 105 (undef) rfl rfl (by kernel_rfl) (by kernel_rfl) (by kernel_rfl) (fun _ _ _ h => h) (Or.inr ⟨by rfl, rfl⟩) (by assumption) ?_
          simp only [Act.put, List.setIfInBounds_toArray, List.set_cons_zero, List.set_cons_succ]
          refine take_at 21 106 (undef) rfl rfl (by kernel_rfl) (by kernel_rfl) (by kernel_rfl) (fun _ _ _ h => h) (Or.inr ⟨by rfl, rfl⟩) (by assumption) ?_
          simp only [Act.put, List.setIfInBounds_toArray, List.set_cons_zero, List.set_cons_succ]
          refine take_at 22 107 (undef) rfl rfl (by kernel_rfl) (by kernel_rfl) (by kernel_rfl) (fun _ _ _ h => h) (Or.inr ⟨by rfl, rfl⟩) (by assumption) ?_
          simp only [Act.put, List.setIfInBounds_toArray, List.set_cons_zero, List.set_cons_succ]
          refine take_at 23 108 (undef) rfl rfl (by kernel_rfl) (by kernel_rfl) (by kernel_rfl) (fun _ _ _ h => h) (Or.inr ⟨by rfl, rfl⟩) (by assumption) ?_
          simp only [Act.put, List.setIfInBounds_toArray, List.set_cons_zero, List.set_cons_succ]
          refine take_at 24 109 (undef) rfl rfl (by kernel_rfl) (by kernel_rfl) (by kernel_rfl) (fun _ _ _ h => h) (Or.inr ⟨by rfl, rfl⟩) (by assumption) ?_
          simp only [Act.put, List.setIfInBounds_toArray, List.set_cons_zero, List.set_cons_succ]
          refine take_at 25 110 (undef) rfl rfl (by kernel_rfl) (by kernel_rfl) (by kernel_rfl) (fun _ _ _ h => h) (Or.inr ⟨by rfl, rfl⟩) (by assumption) ?_
          simp only [Act.put, List.setIfInBounds_toArray, List.set_cons_zero, List.set_cons_succ]
          refine take_at 26 111 (undef) rfl rfl (by kernel_rfl) (by kernel_rfl) (by kernel_rfl) (fun _ _ _ h => h) (Or.inr ⟨by rfl, rfl⟩) (by assumption) ?_
          simp only [Act.put, List.setIfInBounds_toArray, List.set_cons_zero, List.set_cons_succ]
          refine take_at 27 112 (undef) rfl rfl (by kernel_rfl) (by kernel_rfl) (by kernel_rfl) (fun _ _ _ h => h) (Or.inr ⟨by rfl, rfl⟩) (by assumption) ?_
          simp only [Act.put, List.setIfInBounds_toArray, List.set_cons_zero, List.set_cons_succ]
          refine take_at 28 113 (undef) rfl rfl (by kernel_rfl) (by kernel_rfl) (by kernel_rfl) (fun _ _ _ h => h) (Or.inr ⟨by rfl, rfl⟩) (by assumption) ?_
          simp only [Act.put, List.setIfInBounds_toArray, List.set_cons_zero, List.set_cons_succ]
          refine take_at 29 114 (undef) rfl rfl (by kernel_rfl) (by kernel_rfl) (by kernel_rfl) (fun _ _ _ h => h) (Or.inr ⟨by rfl, rfl⟩) (by assumption) ?_
          simp only [Act.put, List.setIfInBounds_toArray, List.set_cons_zero, List.set_cons_succ]
          refine take_at 30 115 (undef) rfl rfl (by kernel_rfl) (by kernel_rfl) (by kernel_rfl) (fun _ _ _ h => h) (Or.inr ⟨by rfl, rfl⟩) (by assumption) ?_
          simp only [Act.put, List.setIfInBounds_toArray, List.set_cons_zero, List.set_cons_succ]
          refine take_at 31 116 (undef) rfl rfl (by kernel_rfl) (by kernel_rfl) (by kernel_rfl) (fun _ _ _ h => h) (Or.inr ⟨by rfl, rfl⟩) (by assumption) ?_
          simp only [Act.put, List.setIfInBounds_toArray, List.set_cons_zero, List.set_cons_succ]
          refine take_at 32 117 (undef) rfl rfl (by kernel_rfl) (by kernel_rfl) (by kernel_rfl) (fun _ _ _ h => h) (Or.inr ⟨by rfl, rfl⟩) (by assumption) ?_
          simp only [Act.put, List.setIfInBounds_toArray, List.set_cons_zero, List.set_cons_succ]
          refine take_at 33 118 (undef) rfl rfl (by kernel_rfl) (by kernel_rfl) (by kernel_rfl) (fun _ _ _ h => h) (Or.inr ⟨by rfl, rfl⟩) (by assumption) ?_
          simp only [Act.put, List.setIfInBounds_toArray, List.set_cons_zero, List.set_cons_succ]
          refine take_at 34 119 (undef) rfl rfl (by kernel_rfl) (by kernel_rfl) (by kernel_rfl) (fun _ _ _ h => h) (Or.inr ⟨by rfl, rfl⟩) (by assumption) ?_
          simp only [Act.put, List.setIfInBounds_toArray, List.set_cons_zero, List.set_cons_succ]
          refine take_at 35 120 (undef) rfl rfl (by kernel_rfl) (by kernel_rfl) (by kernel_rfl) (fun _ _ _ h => h) (Or.inr ⟨by rfl, rfl⟩) (by assumption) ?_
          simp only [Act.put, List.setIfInBounds_toArray, List.set_cons_zero, List.set_cons_succ]
          refine take_at 36 121 (.bool false) rfl rfl (by kernel_rfl) (by kernel_rfl) (by kernel_rfl) (fun _ _ _ h => h) (Or.inl ⟨by rfl, fun w hSw => by (try dsimp only at hSw); go_simp⟩) (by assumption) ?_
          simp only [Act.put, List.setIfInBounds_toArray, List.set_cons_zero, List.set_cons_succ]
          refine wpAnyH_done (by kernel_rfl) ?_ _
          exact HR.out _ _ ⟨_, _, _, _, _, _, _, _, _, _, _, _, _, _, _, _, _, _, _, _, _, _, _, _, _, _, _, _, _, _, _, _, _, _, _, _, rfl, HBN6.out.drew⟩
      rintro a' w7 ⟨v85, v86, v87, v88, v89, v90, v91, v92, v93, v94, v95, v96, v97, v98, v99, v100, v101, v102, v103, v104, v105, v106, v107, v108, v109, v110, v111, v112, v113, v114, v115, v116, v117, v118, v119, v120, rfl, HBN7⟩
      simp only [Act.put, List.setIfInBounds_toArray, List.set_cons_zero, List.set_cons_succ]
      have HB7 := hid (HB5.out.trans (HBN7.out.mono HB5.out.size))
      go_wp2_with fail
      refine (HOF.out _ HB7.out).mono ?_
      rintro e w8 ⟨va, vc, rfl, hfl, hb⟩
      have HFV := hid hfl
      have HB8 := hid (HB7.out.trans (hb.mono HB7.out.size))
      have hbn := HBN7.out.trans (hb.mono HBN7.out.size)
      have HPF8 := hid (HPF5.out.below hbn)
      have HA8 := hid (blkM HA5.out hbn)
      have HML : Hid (mb < w8.heap.size) := (Array.getElem?_eq_some_iff.1 HA8.out).1
      clear hfl hb hbn
      obtain ⟨Z, hZ⟩ : ∃ t, Hid (pkE 0 (k : Int) m xs = t) := ⟨_, rfl⟩
      rw [hZ.out] at HPK
      have HKT : Hid (∀ W, Below w8.heap.size w8 W → W.cell? ⟨mb, 0, none⟩ = some (.slice ta n tc)) := fun W hb => mocell_of (blkM HA8.out hb)
      have HB0 := hid (Below.refl w8.heap.size w8).drew
      go_wp2_with fail
      refine region_merge2 (fun a0 a' w' => ∃ (X0 X1 : Int) (X2 : Option Addr) (X3 X4 ab : Nat) (qa : Option Addr) (qc sb : Nat), a' = Act.put (Act.put (Act.put (Act.put (Act.put (Act.put (Act.put (Act.put (Act.put (Act.put (a0) (some 125) (.agg #[.slice ta n tc])) (some 127) (.slice pa m pc)) (some 126) (.slice (some ⟨sb, 0, none⟩) 0 0)) (some 128) (.slice qa m qc)) (some 129) (.tuple #[.agg #[.int .i64 X0, .int .i64 X1, .slice X2 X3 X4], .int .i64 Z])) (some 124) (.tuple #[.agg #[.int .i64 X0, .int .i64 X1, .slice X2 X3 X4], .int .i64 Z])) (some 130) (.agg #[.int .i64 X0, .int .i64 X1, .slice X2 X3 X4])) (some 131) (.int .i64 Z)) (some 23) (.pointer (some ⟨ab, 0, none⟩))) (some 24) (.int .i64 Z) ∧ w'.heap[ab]? = some (MBox X0 X1 X2 X3 X4) ∧ ResM Z m k (pkV xs) w' X0 X1 X2 X3 X4 ∧ Hid (Below w8.heap.size w8 w')) (fun HR => ?_) ?_
      · simp only [Act.put, List.setIfInBounds_toArray, List.set_cons_zero, List.set_cons_succ] at HR
        refine wp_region_held_drew (S := fun W => W.cell? ⟨mb, 0, none⟩ = some (.slice ta n tc)) (by kernel_rfl) (HKT.out _ HB0.out) (fun hHeld => ?_)
        refine take_at 0 125 (.agg #[.slice ta n tc]) rfl rfl (by kernel_rfl) (by kernel_rfl) (by kernel_rfl) (fun _ _ _ h => h) (Or.inl ⟨by rfl, fun w hSw => by (try dsimp only at hSw); go_simp⟩) (by assumption) ?_
        simp only [Act.put, List.setIfInBounds_toArray, List.set_cons_zero, List.set_cons_succ]
        refine take_at 2 127 (.slice pa m pc) rfl rfl (by kernel_rfl) (by kernel_rfl) (by kernel_rfl) (fun _ _ _ h => h) (Or.inl ⟨by rfl, fun w hSw => by (try dsimp only at hSw); go_simp⟩) (by assumption) ?_
        simp only [Act.put, List.setIfInBounds_toArray, List.set_cons_zero, List.set_cons_succ]
        refine wpAnyH_ready (rs := [1, 8]) (by kernel_rfl) (by simp) ?_
        refine AllReadyH.cons (o := _) rfl (fun K hK => ?_) (AllReadyH.cons (o := _) rfl (fun K hK => ?_) AllReadyH.nil)
        · have HC1 := hid (HB0.out.alloc HB0.out.size (.cells #[] 3))
          have hal : Below w8.drew.heap.size w8.drew (w8.drew.alloc (.cells #[] 3)) := (Below.refl _ _).alloc (Nat.le_refl _) _
          have hnew : (w8.drew.alloc (.cells #[] 3)).heap[w8.drew.heap.size]? = some (.cells #[] 3) := nblkM _ _
          clear hal
          go_simp
          go_wp2_with fail
          refine hK.out _ _ (HKT.out _ HC1.out) (fun hHeld1 => ?_)
          clear hK K
          try simp only [Act.put, List.setIfInBounds_toArray, List.set_cons_zero, List.set_cons_succ]
          obtain ⟨t1, ht1⟩ : ∃ X, Hid (w8.drew.alloc (.cells #[] 3) = X) := ⟨_, rfl⟩
          obtain ⟨sb, hsb⟩ : ∃ X, Hid (w8.drew.heap.size = X) := ⟨_, rfl⟩
          have HsbL : Hid (w8.heap.size ≤ sb) := by have h1 := HB0.out.size; have h2 := hsb.out; show w8.heap.size ≤ sb; omega
          rw [ht1.out] at HC1 hnew
          rw [hsb.out] at hnew
          have HSB := hid hnew
          clear hnew
          have hy1 : (w8.alloc (.cells #[] 3)).drew = t1 := ht1.out
          have hy2 : w8.heap.size = sb := hsb.out
          rw [hy1]
          rw [hy2]
          clear hy1 hy2
          refine wpAnyH_ready (rs := [3, 8]) (by kernel_rfl) (by simp) ?_
          refine AllReadyH.cons (o := _) rfl (fun K hK => ?_) (AllReadyH.cons (o := _) rfl (fun K hK => ?_) AllReadyH.nil)
          · obtain ⟨qa, qc, t2, hrun, hqi, hb, hkeep⟩ := HAP.out w8 HB8.out t1 sb HC1.out HsbL.out HSB.out
            refine step_app 27 rfl _ _ rfl (.slice (some ⟨sb, 0, none⟩) 0 0) (.slice pa m pc) (by first | rfl | (simp [Act.eval]; done) | (simp [Act.eval, Act.put]; done)) (by first | rfl | (simp [Act.eval]; done) | (simp [Act.eval, Act.put]; done)) hrun ?_
            have HC2 := hid (HC1.out.trans hb)
            have HQI := hid hqi
            clear hrun hqi hb hkeep
            refine hK.out _ _ (HKT.out _ HC2.out) (fun hHeld1 => ?_)
            clear hK K
            simp only [Act.put, List.setIfInBounds_toArray]
            refine wpAnyH_ready (rs := [4, 8]) (by kernel_rfl) (by simp) ?_
            refine AllReadyH.cons (o := _) rfl (fun K hK => ?_) (AllReadyH.cons (o := _) rfl (fun K hK => ?_) AllReadyH.nil)
            · go_simp
              refine (HPK.out ta tc qa qc _ (HPF8.out.below HC2.out) HQI.out).mono ?_
              rintro e t3 ⟨⟨X0, X1, X2, X3, X4, rfl, hres⟩, hb⟩
              have HC3 := hid (HC2.out.trans (hb.mono HC2.out.size))
              have HRS := hid hres
              clear hres hb
              go_wp2_with fail
              refine hK.out _ _ (HKT.out _ HC3.out) (fun hHeld1 => ?_)
              clear hK K
              try simp only [Act.put, List.setIfInBounds_toArray, List.set_cons_zero, List.set_cons_succ]
              refine take_at 5 124 (.tuple #[.agg #[.int .i64 X0, .int .i64 X1, .slice X2 X3 X4], .int .i64 Z]) rfl rfl (by kernel_rfl) (by kernel_rfl) (by kernel_rfl) (fun _ _ _ h => h) (Or.inl ⟨by rfl, fun w hSw => by (try dsimp only at hSw); go_simp⟩) (by assumption) ?_
              simp only [Act.put, List.setIfInBounds_toArray, List.set_cons_zero, List.set_cons_succ]
              refine take_at 6 130 (.agg #[.int .i64 X0, .int .i64 X1, .slice X2 X3 X4]) rfl rfl (by kernel_rfl) (by kernel_rfl) (by kernel_rfl) (fun _ _ _ h => h) (Or.inl ⟨by rfl, fun w hSw => by (try dsimp only at hSw); go_simp⟩) (by assumption) ?_
              simp only [Act.put, List.setIfInBounds_toArray, List.set_cons_zero, List.set_cons_succ]
              refine take_at 7 131 (.int .i64 Z) rfl rfl (by kernel_rfl) (by kernel_rfl) (by kernel_rfl) (fun _ _ _ h => h) (Or.inl ⟨by rfl, fun w hSw => by (try dsimp only at hSw); go_simp⟩) (by assumption) ?_
              simp only [Act.put, List.setIfInBounds_toArray, List.set_cons_zero, List.set_cons_succ]
              refine wpAnyH_ready (rs := [8]) (by kernel_rfl) (by simp) ?_
              refine AllReadyH.cons (o := _) rfl (fun K hK => ?_) AllReadyH.nil
              have HC4 := hid (HC3.out.alloc HC3.out.size (MBox 0 0 none 0 0))
              have hal : Below t3.heap.size t3 (t3.alloc (MBox 0 0 none 0 0)) := (Below.refl _ _).alloc (Nat.le_refl _) _
              have hnew : (t3.alloc (MBox 0 0 none 0 0)).heap[t3.heap.size]? = some (MBox 0 0 none 0 0) := nblkM _ _
              have HRS := hid (HRS.out.below hal)
              clear hal
              go_simp
              go_wp2_with fail
              refine hK.out _ _ (HKT.out _ HC4.out) (fun hHeld1 => ?_)
              clear hK K
              try simp only [Act.put, List.setIfInBounds_toArray, List.set_cons_zero, List.set_cons_succ]
              obtain ⟨t4, ht4⟩ : ∃ X, Hid (t3.alloc (MBox 0 0 none 0 0) = X) := ⟨_, rfl⟩
              obtain ⟨ab, hab⟩ : ∃ X, Hid (t3.heap.size = X) := ⟨_, rfl⟩
              have HabL : Hid (w8.heap.size ≤ ab) := by have h1 := HC3.out.size; have h2 := hab.out; show w8.heap.size ≤ ab; omega
              rw [ht4.out] at HC4 HRS hnew
              rw [hab.out] at hnew
              have HAB := hid hnew
              clear hnew
              have hy1 : t3.alloc (.cells #[.int .i64 0, .int .i64 0, .slice none 0 0] 34) = t4 := ht4.out
              have hy2 := hab.out
              rw [hy1]
              rw [hy2]
              clear hy1 hy2
              refine wpAnyH_ready (rs := [9]) (by kernel_rfl) (by simp) ?_
              refine AllReadyH.cons (o := _) rfl (fun K hK => ?_) AllReadyH.nil
              obtain ⟨z0, z1, z2⟩ := mcells_of HAB.out
              have fz := frzM HAB.out
              have HCS := hid (StoM.below (r := X0) (c := X1) (sa := X2) (n := X3) (cap := X4) HC4.out HabL.out)
              have HRS := hid (HRS.out.sto (r1 := X0) (c1 := X1) (s1 := X2) (n1 := X3) (k1 := X4) HAB.out)
              have HAB : Hid ((StoM t4 ab X0 X1 X2 X3 X4).heap[ab]? = some (MBox X0 X1 X2 X3 X4)) := mset HAB.out
              obtain ⟨U4, hU4⟩ : ∃ X, Hid ((StoM t4 ab X0 X1 X2 X3 X4) = X) := ⟨_, rfl⟩
              rw [hU4.out] at HCS HRS HAB
              have hU4' := hU4.out
              unfold StoM at hU4'
              go_simp
              go_wp2_with fail
              refine hK.out _ _ (HKT.out _ HCS.out) (fun hHeld1 => ?_)
              clear hK K
              try simp only [Act.put, List.setIfInBounds_toArray, List.set_cons_zero, List.set_cons_succ]
              clear z0 z1 z2 fz
              refine take_at 10 24 (.int .i64 Z) rfl rfl (by kernel_rfl) (by kernel_rfl) (by kernel_rfl) (fun _ _ _ h => h) (Or.inl ⟨by rfl, fun w hSw => by (try dsimp only at hSw); go_simp⟩) (by assumption) ?_
              simp only [Act.put, List.setIfInBounds_toArray, List.set_cons_zero, List.set_cons_succ]
              refine wpAnyH_done (by kernel_rfl) ?_ _
              exact HR.out _ _ ⟨X0, X1, X2, X3, X4, ab, qa, qc, sb, rfl, HAB.out, HRS.out, HCS⟩
            · have HC5 := hid (HC2.out.alloc HC2.out.size (MBox 0 0 none 0 0))
              have hal : Below t2.heap.size t2 (t2.alloc (MBox 0 0 none 0 0)) := (Below.refl _ _).alloc (Nat.le_refl _) _
              have hnew : (t2.alloc (MBox 0 0 none 0 0)).heap[t2.heap.size]? = some (MBox 0 0 none 0 0) := nblkM _ _
              have HQI := hid (HQI.out.below hal)
              clear hal
              go_simp
              go_wp2_with fail
              refine hK.out _ _ (HKT.out _ HC5.out) (fun hHeld1 => ?_)
              clear hK K
              try simp only [Act.put, List.setIfInBounds_toArray, List.set_cons_zero, List.set_cons_succ]
              obtain ⟨t5, ht5⟩ : ∃ X, Hid (t2.alloc (MBox 0 0 none 0 0) = X) := ⟨_, rfl⟩
              obtain ⟨ab, hab⟩ : ∃ X, Hid (t2.heap.size = X) := ⟨_, rfl⟩
              have HabL : Hid (w8.heap.size ≤ ab) := by have h1 := HC2.out.size; have h2 := hab.out; show w8.heap.size ≤ ab; omega
              rw [ht5.out] at HC5 HQI hnew
              rw [hab.out] at hnew
              have HAB := hid hnew
              clear hnew
              have hy1 : t2.alloc (.cells #[.int .i64 0, .int .i64 0, .slice none 0 0] 34) = t5 := ht5.out
              have hy2 := hab.out
              rw [hy1]
              rw [hy2]
              clear hy1 hy2
              refine wpAnyH_ready (rs := [4]) (by kernel_rfl) (by simp) ?_
              refine AllReadyH.cons (o := _) rfl (fun K hK => ?_) AllReadyH.nil
              go_simp
              refine (HPK.out ta tc qa qc _ (HPF8.out.below HC5.out) HQI.out).mono ?_
              rintro e t6 ⟨⟨X0, X1, X2, X3, X4, rfl, hres⟩, hb⟩
              have HC6 := hid (HC5.out.trans (hb.mono HC5.out.size))
              have HRS := hid hres
              have HAB := hid (blkM HAB.out hb)
              clear hres hb
              go_wp2_with fail
              refine hK.out _ _ (HKT.out _ HC6.out) (fun hHeld1 => ?_)
              clear hK K
              try simp only [Act.put, List.setIfInBounds_toArray, List.set_cons_zero, List.set_cons_succ]
              refine take_at 5 124 (.tuple #[.agg #[.int .i64 X0, .int .i64 X1, .slice X2 X3 X4], .int .i64 Z]) rfl rfl (by kernel_rfl) (by kernel_rfl) (by kernel_rfl) (fun _ _ _ h => h) (Or.inl ⟨by rfl, fun w hSw => by (try dsimp only at hSw); go_simp⟩) (by assumption) ?_
              simp only [Act.put, List.setIfInBounds_toArray, List.set_cons_zero, List.set_cons_succ]
              refine take_at 6 130 (.agg #[.int .i64 X0, .int .i64 X1, .slice X2 X3 X4]) rfl rfl (by kernel_rfl) (by kernel_rfl) (by kernel_rfl) (fun _ _ _ h => h) (Or.inl ⟨by rfl, fun w hSw => by (try dsimp only at hSw); go_simp⟩) (by assumption) ?_
              simp only [Act.put, List.setIfInBounds_toArray, List.set_cons_zero, List.set_cons_succ]
              refine take_at 7 131 (.int .i64 Z) rfl rfl (by kernel_rfl) (by kernel_rfl) (by kernel_rfl) (fun _ _ _ h => h) (Or.inl ⟨by rfl, fun w hSw => by (try dsimp only at hSw); go_simp⟩) (by assumption) ?_
              simp only [Act.put, List.setIfInBounds_toArray, List.set_cons_zero, List.set_cons_succ]
              refine wpAnyH_ready (rs := [9]) (by kernel_rfl) (by simp) ?_
              refine AllReadyH.cons (o := _) rfl (fun K hK => ?_) AllReadyH.nil
              obtain ⟨z0, z1, z2⟩ := mcells_of HAB.out
              have fz := frzM HAB.out
              have HCS := hid (StoM.below (r := X0) (c := X1) (sa := X2) (n := X3) (cap := X4) HC6.out HabL.out)
              have HRS := hid (HRS.out.sto (r1 := X0) (c1 := X1) (s1 := X2) (n1 := X3) (k1 := X4) HAB.out)
              have HAB : Hid ((StoM t6 ab X0 X1 X2 X3 X4).heap[ab]? = some (MBox X0 X1 X2 X3 X4)) := mset HAB.out
              obtain ⟨U6, hU6⟩ : ∃ X, Hid ((StoM t6 ab X0 X1 X2 X3 X4) = X) := ⟨_, rfl⟩
              rw [hU6.out] at HCS HRS HAB
              have hU6' := hU6.out
              unfold StoM at hU6'
              go_simp
              go_wp2_with fail
              refine hK.out _ _ (HKT.out _ HCS.out) (fun hHeld1 => ?_)
              clear hK K
              try simp only [Act.put, List.setIfInBounds_toArray, List.set_cons_zero, List.set_cons_succ]
              clear z0 z1 z2 fz
              refine take_at 10 24 (.int .i64 Z) rfl rfl (by kernel_rfl) (by kernel_rfl) (by kernel_rfl) (fun _ _ _ h => h) (Or.inl ⟨by rfl, fun w hSw => by (try dsimp only at hSw); go_simp⟩) (by assumption) ?_
              simp only [Act.put, List.setIfInBounds_toArray, List.set_cons_zero, List.set_cons_succ]
              refine wpAnyH_done (by kernel_rfl) ?_ _
              exact HR.out _ _ ⟨X0, X1, X2, X3, X4, ab, qa, qc, sb, rfl, HAB.out, HRS.out, HCS⟩
          · have HC7 := hid (HC1.out.alloc HC1.out.size (MBox 0 0 none 0 0))
            have hal : Below t1.heap.size t1 (t1.alloc (MBox 0 0 none 0 0)) := (Below.refl _ _).alloc (Nat.le_refl _) _
            have hnew : (t1.alloc (MBox 0 0 none 0 0)).heap[t1.heap.size]? = some (MBox 0 0 none 0 0) := nblkM _ _
            have HSB := hid (blkM HSB.out hal)
            clear hal
            go_simp
            go_wp2_with fail
            refine hK.out _ _ (HKT.out _ HC7.out) (fun hHeld1 => ?_)
            clear hK K
            try simp only [Act.put, List.setIfInBounds_toArray, List.set_cons_zero, List.set_cons_succ]
            obtain ⟨t7, ht7⟩ : ∃ X, Hid (t1.alloc (MBox 0 0 none 0 0) = X) := ⟨_, rfl⟩
            obtain ⟨ab, hab⟩ : ∃ X, Hid (t1.heap.size = X) := ⟨_, rfl⟩
            have HabL : Hid (w8.heap.size ≤ ab) := by have h1 := HC1.out.size; have h2 := hab.out; show w8.heap.size ≤ ab; omega
            rw [ht7.out] at HC7 HSB hnew
            rw [hab.out] at hnew
            have HAB := hid hnew
            clear hnew
            have hy1 : t1.alloc (.cells #[.int .i64 0, .int .i64 0, .slice none 0 0] 34) = t7 := ht7.out
            have hy2 := hab.out
            rw [hy1]
            rw [hy2]
            clear hy1 hy2
            refine wpAnyH_ready (rs := [3]) (by kernel_rfl) (by simp) ?_
            refine AllReadyH.cons (o := _) rfl (fun K hK => ?_) AllReadyH.nil
            obtain ⟨qa, qc, t8, hrun, hqi, hb, hkeep⟩ := HAP.out w8 HB8.out t7 sb HC7.out HsbL.out HSB.out
            refine step_app 27 rfl _ _ rfl (.slice (some ⟨sb, 0, none⟩) 0 0) (.slice pa m pc) (by first | rfl | (simp [Act.eval]; done) | (simp [Act.eval, Act.put]; done)) (by first | rfl | (simp [Act.eval]; done) | (simp [Act.eval, Act.put]; done)) hrun ?_
            have HC8 := hid (HC7.out.trans hb)
            have HQI := hid hqi
            have HAB := hid ((hkeep ab (Array.getElem?_eq_some_iff.1 HAB.out).1 (ne_box HAB.out HSB.out)).trans HAB.out)
            clear hrun hqi hb hkeep
            refine hK.out _ _ (HKT.out _ HC8.out) (fun hHeld1 => ?_)
            clear hK K
            simp only [Act.put, List.setIfInBounds_toArray]
            refine wpAnyH_ready (rs := [4]) (by kernel_rfl) (by simp) ?_
            refine AllReadyH.cons (o := _) rfl (fun K hK => ?_) AllReadyH.nil
            go_simp
            refine (HPK.out ta tc qa qc _ (HPF8.out.below HC8.out) HQI.out).mono ?_
            rintro e t9 ⟨⟨X0, X1, X2, X3, X4, rfl, hres⟩, hb⟩
            have HC9 := hid (HC8.out.trans (hb.mono HC8.out.size))
            have HRS := hid hres
            have HAB := hid (blkM HAB.out hb)
            clear hres hb
            go_wp2_with fail
            refine hK.out _ _ (HKT.out _ HC9.out) (fun hHeld1 => ?_)
            clear hK K
            try simp only [Act.put, List.setIfInBounds_toArray, List.set_cons_zero, List.set_cons_succ]
            refine take_at 5 124 (.tuple #[.agg #[.int .i64 X0, .int .i64 X1, .slice X2 X3 X4], .int .i64 Z]) rfl rfl (by kernel_rfl) (by kernel_rfl) (by kernel_rfl) (fun _ _ _ h => h) (Or.inl ⟨by rfl, fun w hSw => by (try dsimp only at hSw); go_simp⟩) (by assumption) ?_
            simp only [Act.put, List.setIfInBounds_toArray, List.set_cons_zero, List.set_cons_succ]
            refine take_at 6 130 (.agg #[.int .i64 X0, .int .i64 X1, .slice X2 X3 X4]) rfl rfl (by kernel_rfl) (by kernel_rfl) (by kernel_rfl) (fun _ _ _ h => h) (Or.inl ⟨by rfl, fun w hSw => by (try dsimp only at hSw); go_simp⟩) (by assumption) ?_
            simp only [Act.put, List.setIfInBounds_toArray, List.set_cons_zero, List.set_cons_succ]
            refine take_at 7 131 (.int .i64 Z) rfl rfl (by kernel_rfl) (by kernel_rfl) (by kernel_rfl) (fun _ _ _ h => h) (Or.inl ⟨by rfl, fun w hSw => by (try dsimp only at hSw); go_simp⟩) (by assumption) ?_
            simp only [Act.put, List.setIfInBounds_toArray, List.set_cons_zero, List.set_cons_succ]
            refine wpAnyH_ready (rs := [9]) (by kernel_rfl) (by simp) ?_
            refine AllReadyH.cons (o := _) rfl (fun K hK => ?_) AllReadyH.nil
            obtain ⟨z0, z1, z2⟩ := mcells_of HAB.out
            have fz := frzM HAB.out
            have HCS := hid (StoM.below (r := X0) (c := X1) (sa := X2) (n := X3) (cap := X4) HC9.out HabL.out)
            have HRS := hid (HRS.out.sto (r1 := X0) (c1 := X1) (s1 := X2) (n1 := X3) (k1 := X4) HAB.out)
            have HAB : Hid ((StoM t9 ab X0 X1 X2 X3 X4).heap[ab]? = some (MBox X0 X1 X2 X3 X4)) := mset HAB.out
            obtain ⟨U9, hU9⟩ : ∃ X, Hid ((StoM t9 ab X0 X1 X2 X3 X4) = X) := ⟨_, rfl⟩
            rw [hU9.out] at HCS HRS HAB
            have hU9' := hU9.out
            unfold StoM at hU9'
            go_simp
            go_wp2_with fail
            refine hK.out _ _ (HKT.out _ HCS.out) (fun hHeld1 => ?_)
            clear hK K
            try simp only [Act.put, List.setIfInBounds_toArray, List.set_cons_zero, List.set_cons_succ]
            clear z0 z1 z2 fz
            refine take_at 10 24 (.int .i64 Z) rfl rfl (by kernel_rfl) (by kernel_rfl) (by kernel_rfl) (fun _ _ _ h => h) (Or.inl ⟨by rfl, fun w hSw => by (try dsimp only at hSw); go_simp⟩) (by assumption) ?_
            simp only [Act.put, List.setIfInBounds_toArray, List.set_cons_zero, List.set_cons_succ]
            refine wpAnyH_done (by kernel_rfl) ?_ _
            exact HR.out _ _ ⟨X0, X1, X2, X3, X4, ab, qa, qc, sb, rfl, HAB.out, HRS.out, HCS⟩
        · have HC10 := hid (HB0.out.alloc HB0.out.size (MBox 0 0 none 0 0))
          have hal : Below w8.drew.heap.size w8.drew (w8.drew.alloc (MBox 0 0 none 0 0)) := (Below.refl _ _).alloc (Nat.le_refl _) _
          have hnew : (w8.drew.alloc (MBox 0 0 none 0 0)).heap[w8.drew.heap.size]? = some (MBox 0 0 none 0 0) := nblkM _ _
          clear hal
          go_simp
          go_wp2_with fail
          refine hK.out _ _ (HKT.out _ HC10.out) (fun hHeld1 => ?_)
          clear hK K
          try simp only [Act.put, List.setIfInBounds_toArray, List.set_cons_zero, List.set_cons_succ]
          obtain ⟨t10, ht10⟩ : ∃ X, Hid (w8.drew.alloc (MBox 0 0 none 0 0) = X) := ⟨_, rfl⟩
          obtain ⟨ab, hab⟩ : ∃ X, Hid (w8.drew.heap.size = X) := ⟨_, rfl⟩
          have HabL : Hid (w8.heap.size ≤ ab) := by have h1 := HB0.out.size; have h2 := hab.out; show w8.heap.size ≤ ab; omega
          rw [ht10.out] at HC10 hnew
          rw [hab.out] at hnew
          have HAB := hid hnew
          clear hnew
          have hy1 : (w8.alloc (.cells #[.int .i64 0, .int .i64 0, .slice none 0 0] 34)).drew = t10 := ht10.out
          have hy2 : w8.heap.size = ab := hab.out
          rw [hy1]
          rw [hy2]
          clear hy1 hy2
          refine wpAnyH_ready (rs := [1]) (by kernel_rfl) (by simp) ?_
          refine AllReadyH.cons (o := _) rfl (fun K hK => ?_) AllReadyH.nil
          have HC11 := hid (HC10.out.alloc HC10.out.size (.cells #[] 3))
          have hal : Below t10.heap.size t10 (t10.alloc (.cells #[] 3)) := (Below.refl _ _).alloc (Nat.le_refl _) _
          have hnew : (t10.alloc (.cells #[] 3)).heap[t10.heap.size]? = some (.cells #[] 3) := nblkM _ _
          have HAB := hid (blkM HAB.out hal)
          clear hal
          go_simp
          go_wp2_with fail
          refine hK.out _ _ (HKT.out _ HC11.out) (fun hHeld1 => ?_)
          clear hK K
          try simp only [Act.put, List.setIfInBounds_toArray, List.set_cons_zero, List.set_cons_succ]
          obtain ⟨t11, ht11⟩ : ∃ X, Hid (t10.alloc (.cells #[] 3) = X) := ⟨_, rfl⟩
          obtain ⟨sb, hsb⟩ : ∃ X, Hid (t10.heap.size = X) := ⟨_, rfl⟩
          have HsbL : Hid (w8.heap.size ≤ sb) := by have h1 := HC10.out.size; have h2 := hsb.out; show w8.heap.size ≤ sb; omega
          rw [ht11.out] at HC11 HAB hnew
          rw [hsb.out] at hnew
          have HSB := hid hnew
          clear hnew
          have hy1 : t10.alloc (.cells #[] 3) = t11 := ht11.out
          have hy2 := hsb.out
          rw [hy1]
          rw [hy2]
          clear hy1 hy2
          refine wpAnyH_ready (rs := [3]) (by kernel_rfl) (by simp) ?_
          refine AllReadyH.cons (o := _) rfl (fun K hK => ?_) AllReadyH.nil
          obtain ⟨qa, qc, t12, hrun, hqi, hb, hkeep⟩ := HAP.out w8 HB8.out t11 sb HC11.out HsbL.out HSB.out
          refine step_app 27 rfl _ _ rfl (.slice (some ⟨sb, 0, none⟩) 0 0) (.slice pa m pc) (by first | rfl | (simp [Act.eval]; done) | (simp [Act.eval, Act.put]; done)) (by first | rfl | (simp [Act.eval]; done) | (simp [Act.eval, Act.put]; done)) hrun ?_
          have HC12 := hid (HC11.out.trans hb)
          have HQI := hid hqi
          have HAB := hid ((hkeep ab (Array.getElem?_eq_some_iff.1 HAB.out).1 (ne_box HAB.out HSB.out)).trans HAB.out)
          clear hrun hqi hb hkeep
          refine hK.out _ _ (HKT.out _ HC12.out) (fun hHeld1 => ?_)
          clear hK K
          simp only [Act.put, List.setIfInBounds_toArray]
          refine wpAnyH_ready (rs := [4]) (by kernel_rfl) (by simp) ?_
          refine AllReadyH.cons (o := _) rfl (fun K hK => ?_) AllReadyH.nil
          go_simp
          refine (HPK.out ta tc qa qc _ (HPF8.out.below HC12.out) HQI.out).mono ?_
          rintro e t13 ⟨⟨X0, X1, X2, X3, X4, rfl, hres⟩, hb⟩
          have HC13 := hid (HC12.out.trans (hb.mono HC12.out.size))
          have HRS := hid hres
          have HAB := hid (blkM HAB.out hb)
          clear hres hb
          go_wp2_with fail
          refine hK.out _ _ (HKT.out _ HC13.out) (fun hHeld1 => ?_)
          clear hK K
          try simp only [Act.put, List.setIfInBounds_toArray, List.set_cons_zero, List.set_cons_succ]
          refine take_at 5 124 (.tuple #[.agg #[.int .i64 X0, .int .i64 X1, .slice X2 X3 X4], .int .i64 Z]) rfl rfl (by kernel_rfl) (by kernel_rfl) (by kernel_rfl) (fun _ _ _ h => h) (Or.inl ⟨by rfl, fun w hSw => by (try dsimp only at hSw); go_simp⟩) (by assumption) ?_
          simp only [Act.put, List.setIfInBounds_toArray, List.set_cons_zero, List.set_cons_succ]
          refine take_at 6 130 (.agg #[.int .i64 X0, .int .i64 X1, .slice X2 X3 X4]) rfl rfl (by kernel_rfl) (by kernel_rfl) (by kernel_rfl) (fun _ _ _ h => h) (Or.inl ⟨by rfl, fun w hSw => by (try dsimp only at hSw); go_simp⟩) (by assumption) ?_
          simp only [Act.put, List.setIfInBounds_toArray, List.set_cons_zero, List.set_cons_succ]
          refine take_at 7 131 (.int .i64 Z) rfl rfl (by kernel_rfl) (by kernel_rfl) (by kernel_rfl) (fun _ _ _ h => h) (Or.inl ⟨by rfl, fun w hSw => by (try dsimp only at hSw); go_simp⟩) (by assumption) ?_
          simp only [Act.put, List.setIfInBounds_toArray, List.set_cons_zero, List.set_cons_succ]
          refine wpAnyH_ready (rs := [9]) (by kernel_rfl) (by simp) ?_
          refine AllReadyH.cons (o := _) rfl (fun K hK => ?_) AllReadyH.nil
          obtain ⟨z0, z1, z2⟩ := mcells_of HAB.out
          have fz := frzM HAB.out
          have HCS := hid (StoM.below (r := X0) (c := X1) (sa := X2) (n := X3) (cap := X4) HC13.out HabL.out)
          have HRS := hid (HRS.out.sto (r1 := X0) (c1 := X1) (s1 := X2) (n1 := X3) (k1 := X4) HAB.out)
          have HAB : Hid ((StoM t13 ab X0 X1 X2 X3 X4).heap[ab]? = some (MBox X0 X1 X2 X3 X4)) := mset HAB.out
          obtain ⟨U13, hU13⟩ : ∃ X, Hid ((StoM t13 ab X0 X1 X2 X3 X4) = X) := ⟨_, rfl⟩
          rw [hU13.out] at HCS HRS HAB
          have hU13' := hU13.out
          unfold StoM at hU13'
          go_simp
          go_wp2_with fail
          refine hK.out _ _ (HKT.out _ HCS.out) (fun hHeld1 => ?_)
          clear hK K
          try simp only [Act.put, List.setIfInBounds_toArray, List.set_cons_zero, List.set_cons_succ]
          clear z0 z1 z2 fz
          refine take_at 10 24 (.int .i64 Z) rfl rfl (by kernel_rfl) (by kernel_rfl) (by kernel_rfl) (fun _ _ _ h => h) (Or.inl ⟨by rfl, fun w hSw => by (try dsimp only at hSw); go_simp⟩) (by assumption) ?_
          simp only [Act.put, List.setIfInBounds_toArray, List.set_cons_zero, List.set_cons_succ]
          refine wpAnyH_done (by kernel_rfl) ?_ _
          exact HR.out _ _ ⟨X0, X1, X2, X3, X4, ab, qa, qc, sb, rfl, HAB.out, HRS.out, HCS⟩
      rintro a' w9 ⟨X0, X1, X2, X3, X4, ab, qa, qc, sb, rfl, hab, hres, HB9⟩
      simp only [Act.put, List.setIfInBounds_toArray, List.set_cons_zero, List.set_cons_succ]
      have HAB := hid hab
      have HRS := hid hres
      have HFV9 := hid (HFV.out.below HB9.out)
      have HBW9 := hid (HB8.out.trans (HB9.out.mono HB8.out.size))
      clear hab hres HFV HKT HB0
      by_cases hZ0 : Z = 0
      rotate_left
      · have hz2 : (Z != 0) = true := by simpa using hZ0
        clear hZ0
        go_wp2_with fail
        go_ret
        exact ⟨rfl, HBW9.out⟩
      subst hZ0
      by_cases hqk : q = k
      rotate_left
      · have hz2 : ((q : Int) != (k : Int)) = true := by simp; omega
        clear hqk
        go_wp2_with fail
        go_ret
        exact ⟨rfl, HBW9.out⟩
      subst hqk
      go_wp2_with fail
      refine (HAL.out _ _ _ HFV9.out).mono ?_
      rintro e ww ⟨rfl, hw⟩
      rw [hw]
      clear hw
      cases hfin : finM us with
      | false =>
        go_wp2_with fail
        go_ret
        exact ⟨rfl, HBW9.out⟩
      | true =>
        obtain ⟨m1, m6, hpk⟩ := pkE_facts hZ.out
        have hres := HRS.out
        rcases hres with ⟨_, rfl, rfl, rfl, rfl, g, o, rfl, hfn, hov, hof⟩ | ⟨h0, _⟩
        rotate_left
        · exact absurd rfl h0
        have HPV := hid (fun i hi => pk_vec hpk hov HUS.out.1 HUS.out.2.1 hfin i hi)
        have HST := hid (pk_sees hZ.out HMI.out hov hof HUS.out.1 HUS.out.2.1 hfin)
        have HFH := hid (fn_flR hfn)
        have HM1 := hid (And.intro m1 m6)
        have HSE := hid (fun s l W h1 h2 h3 => Sees_any 0 (m : Int) (q : Int) (some ⟨g, 0, none⟩) (m * q) (m * q) s m l 0 ((List.range (m * q)).map o) (onesL m) va q vc us W h1 h2 h3 (by have := Nat.mul_le_mul m6 HMI.out; omega) HMM.out HQQ.out (by decide))
        rw [HST.out, Int.toNat_natCast, Int.toNat_natCast] at HSE
        unfold SnV at HSE
        obtain ⟨B, hB⟩ : ∃ t, Hid (w9.heap.size = t) := ⟨_, rfl⟩
        obtain ⟨i0, hi, hz0, hz1, hz2⟩ := info_parts info_f
        clear hfn hov hof hpk HRS
        have hm6 := m6
        go_wp2_with fail
        go_loopw [25, 26] (fun u jv wr => ∃ j : Nat, j ≤ m ∧ jv = .int .i64 j ∧ Hid (Owns wr B u ((List.range j).map (fun _ => 4607182418800017408))) ∧ Hid (Below B w9 wr) ∧ Hid (∃ s l, u = .slice s j l)) (fun _ jv _ => m - (intOf jv).toNat)
        case atStart => exact ⟨0, Nat.zero_le _, rfl, World.ownsRow_nil _ _ _ _, Below.refl _ _, ⟨none, 0, rfl⟩⟩
        case round =>
          obtain ⟨j, hj, rfl, HO, HBR3, HSH⟩ := hrel
          by_cases hlt : j < m
          · have hjI : (j : Int) < (m : Int) := by omega
            have HRG : Hid ((List.range (j + 1)).map (fun _ => 4607182418800017408) = (List.range j).map (fun _ => 4607182418800017408) ++ [4607182418800017408]) := by show _ = _; rw [List.range_succ, List.map_append]; rfl
            have hown := HO.out
            have hbw : B ≤ wr.heap.size := by rw [← hB.out]; exact HBR3.out.size
            unfold Owns at hown
            rw [List.length_map, List.length_range] at hown
            have HLK := hid hlt
            clear hlt
            go_wp2_with (first
              | (at_builtin; (refine wpList_append_own _ rfl _ _ 32 rfl B 37 i0 (.float .f64 0) 1 8 Tryd.underlying32 hi hz0 hz1 hz2 rfl (by decide) _ _ _ rfl (hown.alloc _) ⟨wr.heap.size, 0, none⟩ 1 1 [.float .f64 4607182418800017408] rfl rfl ?c1 ?c2 ?c3 ?c4 ?c5 ?_)))
            case c2 => rfl
            case c3 => unfold maxLen; omega
            case c4 => omega
            case c5 => first | omega | (simp; omega)
            intro v' w2 hown' hgrow _
            have HSH2 : Hid (∃ s l, v' = .slice s (j + 1) l) := by
              rcases hown'.2 with ⟨_, h0⟩ | ⟨g, l, cur, e1, _⟩
              · omega
              · exact ⟨_, _, e1⟩
            have HO2 : Hid (Owns w2 B v' ((List.range (j + 1)).map (fun _ => 4607182418800017408))) := by
              show w2.ownsRow _ _ _ _ _ _
              rw [List.length_map, List.length_range, HRG.out, List.map_append, List.map_map]
              exact hown'
            have HB2 : Hid (Below B w9 w2) := (HBR3.out.alloc hbw _).grown hgrow (by simp; omega) (fun t ht => (World.ownsRow.lt hown t ht).1)
            clear hown' hgrow hown HO HBR3
            go_wp2
            have hl := HLK.out
            refine ⟨⟨j + 1, by omega, by go_num, HO2, HB2, HSH2⟩, ?_⟩
            simp [intOf]; omega
          · obtain rfl : j = m := by omega
            obtain ⟨s, c, rfl⟩ := HSH.out
            have hyl := fn_flR (owns_fn HO.out (fun _ _ => by decide))
            rw [ones_map] at hyl
            have HYL := hid hyl
            have hbr : Below w9.heap.size w9 wr := by have := HBR3.out; rw [← hB.out] at this; exact this
            have HBX := hid hbr
            have hjj : ¬ (j : Int) < (j : Int) := by omega
            have hjn : ((j : Int) != (j : Int)) = false := by simp
            obtain ⟨p0, p1, p2⟩ := mcells_of (blkM HAB.out hbr)
            clear hyl hbr
            go_wp2_with fail
            refine (HSE.out s c _ (HFH.out.below HBX.out) HYL.out (HFV9.out.below HBX.out)).mono ?_
            rintro e w10 ⟨⟨zs, zk, zl, rfl, hls⟩, hb⟩
            have HB10 := hid (HBX.out.trans (hb.mono HBX.out.size))
            have HBW10 := hid (HBW9.out.trans (HB10.out.mono HBW9.out.size))
            clear hb p0 p1 p2
            rcases hls with ⟨_, hzk, o2, hz, hzv⟩ | ⟨h0, _⟩
            rotate_left
            · exact absurd rfl h0
            subst zk
            rcases hz with ⟨_, h0, _⟩ | ⟨zb, zo, rfl, hzl, _, _, hzc⟩
            · exact absurd h0 (by have := HM1.out.1; omega)
            obtain ⟨pb, po, rfl, hpl, hpc⟩ := HU.out.2.2 (by have := HM1.out.1; omega)
            have HCL : Hid (∀ i, i < j → ∃ (p : Nat) (vb vo r y : Nat), p < q ∧ va = some ⟨vb, vo, none⟩ ∧ floatBits .add .f64 y 0 = some r ∧ ∀ W, Below w10.heap.size w10 W → (W.cell? ⟨zb, zo + i, none⟩ = some (.float .f64 r) ∧ W.cell? ⟨pb, po + i, none⟩ = some (.int .i64 (p : Int)) ∧ W.cell? ⟨vb, vo + p, none⟩ = some (.float .f64 y))) := fun i hi => by
              obtain ⟨p, hp1, hp2, hp3, hp4, hp5⟩ := HPV.out i hi
              obtain ⟨vb, vo, hva, hvl, hvc, _⟩ := (HFV9.out.below HB10.out).at (by omega)
              refine ⟨p, vb, vo, plusQ (us.getD p 0), us.getD p 0, hp2, hva, plusq_is hp4 hp5, fun W hW => ⟨?_, ?_, ?_⟩⟩
              · rw [hW.cell (p := ⟨zb, zo + i, none⟩) hzl, (hzc i hi).1]
                have := hzv i hi
                rw [hp3] at this
                rw [canon_back hp4 hp5 this]
              · have hb := HBW10.out.trans (hW.mono HBW10.out.size)
                rw [hb.cell (p := ⟨pb, po + i, none⟩) hpl, hpc i hi, hp1]
              · rw [hW.cell (p := ⟨vb, vo + p, none⟩) hvl]
                exact hvc p hp2
            clear hzc hzv hpc
            go_wp2_with fail
            go_loopw [28] (fun iv wr => ∃ i : Nat, i ≤ j ∧ iv = .int .i64 i ∧ Hid (Below w10.heap.size w10 wr)) (fun iv _ => j - (intOf iv).toNat)
            case atStart => exact ⟨0, Nat.zero_le _, rfl, Below.refl _ _⟩
            case round =>
              obtain ⟨i, hi, rfl, HBR4⟩ := hrel
              by_cases hlt : i < j
              · have hiI : (i : Int) < (j : Int) := by omega
                have hi0' : (0 : Int) ≤ (i : Int) := by omega
                obtain ⟨p, vb, vo, r, y, hp, rfl, hadd, hcl⟩ := HCL.out i hlt
                have hpI : (p : Int) < (q : Int) := by omega
                have hp0 : (0 : Int) ≤ (p : Int) := by omega
                have HS0 := hid (hcl wr.drew HBR4.out.drew)
                have HS1 := hid (fun W h => hcl W h)
                have radd := arq_run .add y 0 r hadd (by simp)
                have hfb := f64bits r
                have hrr : ((r : Int) != (r : Int)) = false := by simp
                clear hcl hadd
                go_wp2_with fail
                refine wp_region_held_drew (S := fun W => W.cell? ⟨zb, zo + i, none⟩ = some (.float .f64 r) ∧ W.cell? ⟨pb, po + i, none⟩ = some (.int .i64 (p : Int)) ∧ W.cell? ⟨vb, vo + p, none⟩ = some (.float .f64 y)) (by kernel_rfl) HS0.out (fun hHeld => ?_)
                refine take_at 0 177 (.slice (some ⟨zb, zo, none⟩) j zl) rfl rfl (by kernel_rfl) (by kernel_rfl) (by kernel_rfl) (fun _ _ _ h => h) (Or.inl ⟨by rfl, fun w hSw => by (try dsimp only at hSw); go_simp⟩) (by assumption) ?_
                simp only [Act.put, List.setIfInBounds_toArray, List.set_cons_zero, List.set_cons_succ]
                refine take_at 1 178 (.int .i64 i) rfl rfl (by kernel_rfl) (by kernel_rfl) (by kernel_rfl) (fun _ _ _ h => h) (Or.inl ⟨by rfl, fun w hSw => by (try dsimp only at hSw); go_simp⟩) (by assumption) ?_
                simp only [Act.put, List.setIfInBounds_toArray, List.set_cons_zero, List.set_cons_succ]
                refine take_at 2 179 (.pointer (some ⟨zb, zo + i, none⟩)) rfl rfl (by kernel_rfl) (by kernel_rfl) (by kernel_rfl) (fun _ _ _ h => h) (Or.inl ⟨by rfl, fun w hSw => by (try dsimp only at hSw); go_simp⟩) (by assumption) ?_
                simp only [Act.put, List.setIfInBounds_toArray, List.set_cons_zero, List.set_cons_succ]
                refine take_at 3 180 (.float .f64 r) rfl rfl (by kernel_rfl) (by kernel_rfl) (by kernel_rfl) (fun _ _ _ h => h) (Or.inl ⟨by rfl, fun w hSw => by (try dsimp only at hSw); go_simp⟩) (by assumption) ?_
                simp only [Act.put, List.setIfInBounds_toArray, List.set_cons_zero, List.set_cons_succ]
                refine take_at 5 182 (.slice (some ⟨vb, vo, none⟩) q vc) rfl rfl (by kernel_rfl) (by kernel_rfl) (by kernel_rfl) (fun _ _ _ h => h) (Or.inl ⟨by rfl, fun w hSw => by (try dsimp only at hSw); go_simp⟩) (by assumption) ?_
                simp only [Act.put, List.setIfInBounds_toArray, List.set_cons_zero, List.set_cons_succ]
                refine take_at 6 183 (.slice (some ⟨pb, po, none⟩) j pc) rfl rfl (by kernel_rfl) (by kernel_rfl) (by kernel_rfl) (fun _ _ _ h => h) (Or.inl ⟨by rfl, fun w hSw => by (try dsimp only at hSw); go_simp⟩) (by assumption) ?_
                simp only [Act.put, List.setIfInBounds_toArray, List.set_cons_zero, List.set_cons_succ]
                refine take_at 7 184 (.int .i64 i) rfl rfl (by kernel_rfl) (by kernel_rfl) (by kernel_rfl) (fun _ _ _ h => h) (Or.inl ⟨by rfl, fun w hSw => by (try dsimp only at hSw); go_simp⟩) (by assumption) ?_
                simp only [Act.put, List.setIfInBounds_toArray, List.set_cons_zero, List.set_cons_succ]
                refine take_at 8 185 (.pointer (some ⟨pb, po + i, none⟩)) rfl rfl (by kernel_rfl) (by kernel_rfl) (by kernel_rfl) (fun _ _ _ h => h) (Or.inl ⟨by rfl, fun w hSw => by (try dsimp only at hSw); go_simp⟩) (by assumption) ?_
                simp only [Act.put, List.setIfInBounds_toArray, List.set_cons_zero, List.set_cons_succ]
                refine take_at 9 186 (.int .i64 p) rfl rfl (by kernel_rfl) (by kernel_rfl) (by kernel_rfl) (fun _ _ _ h => h) (Or.inl ⟨by rfl, fun w hSw => by (try dsimp only at hSw); go_simp⟩) (by assumption) ?_
                simp only [Act.put, List.setIfInBounds_toArray, List.set_cons_zero, List.set_cons_succ]
                refine take_at 10 187 (.pointer (some ⟨vb, vo + p, none⟩)) rfl rfl (by kernel_rfl) (by kernel_rfl) (by kernel_rfl) (fun _ _ _ h => h) (Or.inl ⟨by rfl, fun w hSw => by (try dsimp only at hSw); go_simp⟩) (by assumption) ?_
                simp only [Act.put, List.setIfInBounds_toArray, List.set_cons_zero, List.set_cons_succ]
                refine take_at 11 188 (.float .f64 y) rfl rfl (by kernel_rfl) (by kernel_rfl) (by kernel_rfl) (fun _ _ _ h => h) (Or.inl ⟨by rfl, fun w hSw => by (try dsimp only at hSw); go_simp⟩) (by assumption) ?_
                simp only [Act.put, List.setIfInBounds_toArray, List.set_cons_zero, List.set_cons_succ]
                refine take_at 12 189 (.float .f64 r) rfl rfl (by kernel_rfl) (by kernel_rfl) (by kernel_rfl) (fun _ _ _ h => h) (Or.inl ⟨by rfl, fun w hSw => by (try dsimp only at hSw); go_simp⟩) (by assumption) ?_
                simp only [Act.put, List.setIfInBounds_toArray, List.set_cons_zero, List.set_cons_succ]
                refine wpAnyH_ready (rs := [4]) (by kernel_rfl) (by simp) ?_
                refine AllReadyH.cons (o := _) rfl (fun K hK => ?_) AllReadyH.nil
                go_simp
                go_wp2_with fail
                refine hK.out _ _ HS0.out (fun hHeld1 => ?_)
                clear hK K
                try simp only [Act.put, List.setIfInBounds_toArray, List.set_cons_zero, List.set_cons_succ]
                refine wpAnyH_ready (rs := [13]) (by kernel_rfl) (by simp) ?_
                refine AllReadyH.cons (o := _) rfl (fun K hK => ?_) AllReadyH.nil
                go_simp
                go_wp2_with fail
                refine hK.out _ _ HS0.out (fun hHeld1 => ?_)
                clear hK K
                try simp only [Act.put, List.setIfInBounds_toArray, List.set_cons_zero, List.set_cons_succ]
                refine take_at 14 191 (.bool false) rfl rfl (by kernel_rfl) (by kernel_rfl) (by kernel_rfl) (fun _ _ _ h => h) (Or.inl ⟨by rfl, fun w hSw => by (try dsimp only at hSw); go_simp⟩) (by assumption) ?_
                simp only [Act.put, List.setIfInBounds_toArray, List.set_cons_zero, List.set_cons_succ]
                refine wpAnyH_done (by kernel_rfl) ?_ _
                go_wp2_with fail
                go_roundw
                case rel => exact ⟨i + 1, by omega, by go_num, HBR4.out.drew⟩
                case measure => simp [intOf]; omega
              · obtain rfl : i = j := by omega
                have hii : ¬ (i : Int) < (i : Int) := by omega
                go_wp2_with fail
                go_ret
                exact ⟨rfl, HBW10.out.trans (HBR4.out.mono HBW10.out.size)⟩
end Go.Proofs.YtfngjoaghbofgabDoor
