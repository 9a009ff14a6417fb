
/- Beside of two that go together: by matrix and by the document. (Written by mknde.py.) -/
import Derived.Test.YtjaljdodlfmebaaP43
namespace Go.Proofs.Ytjaljdodlfmebaa
open Go.RowKit Go.IntWalk

set_option maxRecDepth 4000 in
set_option maxHeartbeats 2000000 in
theorem rBeside_ok (r c c2 n n2 : Nat) (sa sb : Option Addr) (ka kb : Nat) (f f2 : Nat → Nat) (w : World) (ha : Gd w r c sa n ka f) (hb : Gd w r c2 sb n2 kb f2) (hs : c + c2 ≤ 12) :
    Calls Try.prog 16 #[.agg #[.int .i64 r, .int .i64 c, .slice sa n ka], .agg #[.int .i64 r, .int .i64 c2, .slice sb n2 kb]] w fun e w' => (∃ (g : Nat) (o : Nat → Nat), e = .returned (.tuple #[.agg #[.int .i64 r, .int .i64 ((c + c2 : Nat) : Int), .slice (some ⟨g, 0, none⟩) (r * (c + c2)) (r * (c + c2))], .int .i64 0]) ∧ FnM w' (some ⟨g, 0, none⟩) (r * (c + c2)) (r * (c + c2)) o ∧ ∀ u v, u < r → v < c + c2 → o (u * (c + c2) + v) = if v < c then f (u * c + v) else f2 (u * c2 + (v - c))) ∧ Below w.heap.size w w' := by
  obtain ⟨t1, t2, t3, t4, t5⟩ := three_b w (MBox r c sa n ka) (MBox r c2 sb n2 kb) (MBox 0 0 none 0 0)
  have l1 := ha.1
  have hnr : ((r : Int) != (r : Int)) = false := by simp
  have HATA : Hid (∀ W i j, Below w.heap.size w W → i < r → j < c → Calls Try.prog 26 #[.agg #[.int .i64 r, .int .i64 c, .slice sa n ka], .int .i64 (i : Nat), .int .i64 (j : Nat)] W fun e w' => e = .returned (.float .f64 (f (i * c + j))) ∧ Below W.heap.size W w') := fun W i j hW hi hj => rAt_fn r sa c n ka i j f W (ha.below hW).2.2.2.1 (by omega) (by omega) (by omega) (by rw [ha.2.2.1]; exact place_lt hi hj)
  have HATB : Hid (∀ W i j, Below w.heap.size w W → i < r → j < c2 → Calls Try.prog 26 #[.agg #[.int .i64 r, .int .i64 c2, .slice sb n2 kb], .int .i64 (i : Nat), .int .i64 (j : Nat)] W fun e w' => e = .returned (.float .f64 (f2 (i * c2 + j))) ∧ Below W.heap.size W w') := fun W i j hW hi hj => rAt_fn r sb c2 n2 kb i j f2 W (hb.below hW).2.2.2.1 (by omega) (by omega) (by omega) (by rw [hb.2.2.1]; exact place_lt hi hj)
  have HXA : Hid (∀ i j, i < r → j < c → f (i * c + j) < 18446744073709551616) := fun i j hi hj => (gd_fin ha _ (place_lt hi hj)).1
  have HXB : Hid (∀ i j, i < r → j < c2 → f2 (i * c2 + j) < 18446744073709551616) := fun i j hi hj => (gd_fin hb _ (place_lt hi hj)).1
  obtain ⟨Kc, hKc⟩ : ∃ t, Hid (c + c2 = t) := ⟨_, rfl⟩
  have HKK : Hid (c ≤ Kc ∧ c + c2 = Kc) := ⟨by have := hKc.out; omega, hKc.out⟩
  have HK12 : Hid (Kc ≤ 12 ∧ r ≤ 12) := ⟨by have := hKc.out; omega, l1⟩
  rw [hKc.out]
  obtain ⟨bsd, hbsd⟩ : ∃ t : Nat → Nat → Nat, Hid ((fun u v => if v < c then f (u * c + v) else f2 (u * c2 + (v - c))) = t) := ⟨_, rfl⟩
  have hKI : (c : Int) + (c2 : Int) = (Kc : Int) := by have := hKc.out; omega
  have hKw : IntKind.i64.wrap ((c : Int) + (c2 : Int)) = (Kc : Int) := by rw [hKI]; exact IntWalk.i64_in _ (by have := HK12.out; omega)
  have hKv : IntKind.i64.wrap (Kc : Int) = (Kc : Int) := IntWalk.i64_in _ (by have := HK12.out; omega)
  have hK12 : ¬ ((12 : Int) < (Kc : Int)) := by have := HK12.out; omega
  have HPUT0 : Hid (∀ W (g x p q : Nat) (o : Nat → Nat), W.rowIs g 52 (r * Kc) (fun k => .float .f64 (o k)) → p < r → q < Kc → Calls Try.prog 25 #[.agg #[.int .i64 r, .int .i64 Kc, .slice (some ⟨g, 0, none⟩) (r * Kc) (r * Kc)], .int .i64 (p : Nat), .int .i64 (q : Nat), .float .f64 x] W fun e w' => e = .returned (.tuple #[]) ∧ w' = (W.alloc (MBox r Kc (some ⟨g, 0, none⟩) (r * Kc) (r * Kc))).setCell ⟨g, p * Kc + q, none⟩ (.float .f64 x)) := fun W g x p q o hW hp hq => by
    have hk := place_lt hp hq
    have := HK12.out
    exact Put_any r g Kc _ _ p q x _ W (hW.cell hk) (hW.frozen _) hW.lt (by omega) (by omega) (by omega) hk
  have HZ0 := hid (fun W => rRaw_any r Kc (by omega) (by have := HK12.out; omega) W)
  have HN144 : Hid (r * Kc ≤ 144) := Nat.mul_le_mul HK12.out.2 HK12.out.1
  obtain ⟨N, hN⟩ : ∃ p, Hid (r * Kc = p) := ⟨_, rfl⟩
  rw [hN.out] at HPUT0 HZ0 HN144
  rw [hN.out]
  obtain ⟨V, hV⟩ : ∃ V, Hid (((w.alloc (MBox r c sa n ka)).alloc (MBox r c2 sb n2 kb)).alloc (MBox 0 0 none 0 0) = V) := ⟨_, rfl⟩
  rw [hV.out] at t1 t2 t3 t4 t5
  have hV' := hV.out
  unfold MBox at hV'
  obtain ⟨g, hg⟩ : ∃ t, Hid (V.heap.size + 1 = t) := ⟨_, rfl⟩
  have HZ := hid (HZ0.out V)
  rw [hg.out] at HZ
  have HPUT := hid (fun W x i j o => HPUT0.out W g x i j o)
  clear HZ0 HPUT0
  obtain ⟨p0, hp0⟩ : ∃ t, Hid (w.heap.size = t) := ⟨_, rfl⟩
  obtain ⟨p1, hp1⟩ : ∃ t, Hid (p0 + 1 = t) := ⟨_, rfl⟩
  obtain ⟨rb, hrb⟩ : ∃ t, Hid (p1 + 1 = t) := ⟨_, rfl⟩
  rw [hp0.out] at t1 t2 t3
  rw [hp1.out] at t2 t3
  rw [hrb.out] at t3
  have HT1 := hid t1
  have HT2 := hid t2
  have HT3 := hid t3
  have HT4 := hid t4
  have HT5 := hid t5
  have hp0' := hp0.out
  have hp1' := hp1.out
  have hrb' := hrb.out
  obtain ⟨x0, x1, x2⟩ := mcells_of t1
  obtain ⟨v0, v1, v2⟩ := mcells_of t2
  clear t1 t2 t3 t4 t5 ha hb hs l1
  have hst := fstoreM
  go_enter Try.func16, Try.ntmps16
  go_wp2_with fail
  refine HZ.out.mono ?_
  rintro e w1 ⟨rfl, h1, h2⟩
  have hal : Below w1.heap.size w1 (w1.alloc (MBox r Kc (some ⟨g, 0, none⟩) N N)) := (Below.refl _ _).alloc (Nat.le_refl _) _
  have hlt : g < w1.heap.size := h1.lt
  obtain ⟨mb, hmb⟩ : ∃ t, Hid (w1.heap.size = t) := ⟨_, rfl⟩
  have HFR : Hid (Fr5 w (w1.alloc (MBox r Kc (some ⟨g, 0, none⟩) N N)) p0 p1 rb mb (MBox r c sa n ka) (MBox r c2 sb n2 kb) (MBox 0 0 none 0 0) (MBox r Kc (some ⟨g, 0, none⟩) N N)) := by
    refine ⟨(HT4.out.trans (h2.mono HT4.out.size)).trans (hal.mono (Nat.le_trans HT4.out.size h2.size)), blkM (blkM HT1.out h2) hal, blkM (blkM HT2.out h2) hal, blkM (blkM HT3.out h2) hal, ?_⟩
    rw [← hmb.out]
    exact nblkM _ _
  have HR0 : Hid ((w1.alloc (MBox r Kc (some ⟨g, 0, none⟩) N N)).rowIs g 52 N (fun _ => .float .f64 0)) := h1.of_block (hal.block _ hlt)
  have HNE : Hid (p0 ≠ g ∧ p1 ≠ g ∧ rb ≠ g ∧ mb ≠ g ∧ w.heap.size ≤ g) := by
    have e1 := hp0.out; have e2 := hp1.out; have e3 := hrb.out; have e4 := hmb.out; have e5 := hg.out; have e6 := HT5.out
    show _ ∧ _ ∧ _ ∧ _ ∧ _
    omega
  have HRB : Hid (w.heap.size ≤ rb) := by
    have e1 := hp0.out; have e2 := hp1.out; have e3 := hrb.out
    show _ ≤ _
    omega
  obtain ⟨V1, hV1⟩ : ∃ V, Hid (w1.alloc (MBox r Kc (some ⟨g, 0, none⟩) N N) = V) := ⟨_, rfl⟩
  rw [hV1.out] at HFR HR0
  have hW1 := hV1.out
  have hmb' := hmb.out
  unfold MBox at hW1
  unfold MV
  have HKS : Hid (∀ W, Hid (Fr5 w W p0 p1 rb mb (MBox r c sa n ka) (MBox r c2 sb n2 kb) (MBox 0 0 none 0 0) (MBox r Kc (some ⟨g, 0, none⟩) N N)) → (W.cell? ⟨mb, 0, none⟩ = some (.int .i64 r) ∧ W.cell? ⟨mb, 1, none⟩ = some (.int .i64 Kc) ∧ W.cell? ⟨mb, 2, none⟩ = some (.slice (some ⟨g, 0, none⟩) N N) ∧ W.cell? ⟨p0, 0, none⟩ = some (.int .i64 r) ∧ W.cell? ⟨p0, 1, none⟩ = some (.int .i64 c) ∧ W.cell? ⟨p0, 2, none⟩ = some (.slice sa n ka) ∧ W.cell? ⟨p1, 0, none⟩ = some (.int .i64 r) ∧ W.cell? ⟨p1, 1, none⟩ = some (.int .i64 c2) ∧ W.cell? ⟨p1, 2, none⟩ = some (.slice sb n2 kb)) ∧ Hid (Fr5 w W p0 p1 rb mb (MBox r c sa n ka) (MBox r c2 sb n2 kb) (MBox 0 0 none 0 0) (MBox r Kc (some ⟨g, 0, none⟩) N N))) := fun W hW => by
    obtain ⟨a0, a1, a2⟩ := mcells_of hW.out.2.1
    obtain ⟨b0, b1, b2⟩ := mcells_of hW.out.2.2.1
    obtain ⟨n0, n1, n2⟩ := mcells_of hW.out.2.2.2.2
    exact ⟨⟨n0, n1, n2, a0, a1, a2, b0, b1, b2⟩, hW⟩
  clear h1 h2 hal HZ hlt x0 x1 x2 v0 v1 v2
  go_wp2_with fail
  go_loopw [7] (fun iv wr => ∃ (i : Nat) (o : Nat → Nat), i ≤ r ∧ iv = .int .i64 i ∧ Hid (wr.rowIs g 52 N (fun k => .float .f64 (o k))) ∧ Hid (∀ u v, u < i → v < Kc → o (u * Kc + v) = bsd u v) ∧ Hid (∀ k, o k < 18446744073709551616) ∧ Hid (Fr5 w wr p0 p1 rb mb (MBox r c sa n ka) (MBox r c2 sb n2 kb) (MBox 0 0 none 0 0) (MBox r Kc (some ⟨g, 0, none⟩) N N))) (fun iv _ => r - (intOf iv).toNat)
  case atStart => exact ⟨0, fun _ => 0, Nat.zero_le _, rfl, HR0, fun u v h => absurd h (Nat.not_lt_zero u), fun _ => by show 0 < 18446744073709551616; decide, HFR⟩
  case round =>
    obtain ⟨i, o, hi, rfl, HR, HP, HLO, HFW⟩ := hrel
    obtain ⟨x0, x1, x2⟩ := mcells_of HFW.out.2.1
    obtain ⟨k12, r12⟩ := HK12.out
    by_cases hlt : i < r
    · have hiI : (i : Int) < (r : Int) := by omega
      have HI := hid hlt
      clear hlt
      go_wp2_with fail
      go_loopw [8] (fun jv wr2 => ∃ (j : Nat) (o2 : Nat → Nat), j ≤ c ∧ jv = .int .i64 j ∧ Hid (wr2.rowIs g 52 N (fun k => .float .f64 (o2 k))) ∧ Hid (∀ u v, (u < i ∨ (u = i ∧ v < j)) → v < Kc → o2 (u * Kc + v) = bsd u v) ∧ Hid (∀ k, o2 k < 18446744073709551616) ∧ Hid (Fr5 w wr2 p0 p1 rb mb (MBox r c sa n ka) (MBox r c2 sb n2 kb) (MBox 0 0 none 0 0) (MBox r Kc (some ⟨g, 0, none⟩) N N))) (fun jv _ => c - (intOf jv).toNat)
      case atStart => exact ⟨0, o, Nat.zero_le _, rfl, HR, fun u v hab hb => HP.out u v (by rcases hab with h | ⟨_, h⟩ <;> omega) hb, HLO, HFW⟩
      case round =>
        obtain ⟨j, o2, hj, rfl, HR2, HP2, HLO2, HFW2⟩ := hrel
        obtain ⟨x0, x1, x2⟩ := mcells_of HFW2.out.2.1
        obtain ⟨y0, y1, y2⟩ := mcells_of HFW2.out.2.2.1
        by_cases hl2 : j < c
        · have hjI : (j : Int) < (c : Int) := by omega
          have HJ := hid hl2
          have HQ0 : Hid (Fr5 w wr.drew p0 p1 rb mb (MBox r c sa n ka) (MBox r c2 sb n2 kb) (MBox 0 0 none 0 0) (MBox r Kc (some ⟨g, 0, none⟩) N N)) := HFW2.out.drew
          have HRD : Hid (wr.drew.rowIs g 52 N (fun k => .float .f64 (o2 k))) := HR2.out.of_block rfl
          have HJK : Hid (j < Kc) := by have := HKK.out; show _ < _; omega
          have HATQ := hid (fun W hW => HATA.out W i j hW HI.out hl2)
          have HXX := hid (HXA.out i j HI.out hl2)
          have HXV : Hid (f (i * c + j) = bsd i j) := by rw [← hbsd.out]; show _ = _; dsimp only; rw [if_pos hl2]
          obtain ⟨x, hx⟩ : ∃ t, Hid (f (i * c + j) = t) := ⟨_, rfl⟩
          rw [hx.out] at HXX HATQ HXV
          clear hl2
          go_wp2_with fail
          refine wp_region_held_drew (S := fun W => (W.cell? ⟨mb, 0, none⟩ = some (.int .i64 r) ∧ W.cell? ⟨mb, 1, none⟩ = some (.int .i64 Kc) ∧ W.cell? ⟨mb, 2, none⟩ = some (.slice (some ⟨g, 0, none⟩) N N) ∧ W.cell? ⟨p0, 0, none⟩ = some (.int .i64 r) ∧ W.cell? ⟨p0, 1, none⟩ = some (.int .i64 c) ∧ W.cell? ⟨p0, 2, none⟩ = some (.slice sa n ka) ∧ W.cell? ⟨p1, 0, none⟩ = some (.int .i64 r) ∧ W.cell? ⟨p1, 1, none⟩ = some (.int .i64 c2) ∧ W.cell? ⟨p1, 2, none⟩ = some (.slice sb n2 kb)) ∧ Hid (Fr5 w W p0 p1 rb mb (MBox r c sa n ka) (MBox r c2 sb n2 kb) (MBox 0 0 none 0 0) (MBox r Kc (some ⟨g, 0, none⟩) N N))) (by kernel_rfl) (HKS.out _ HQ0) (fun hHeld => ?_)
          refine take_at 0 43 (.agg #[.int .i64 r, .int .i64 Kc, .slice (some ⟨g, 0, none⟩) N N]) rfl rfl (by kernel_rfl) (by kernel_rfl) (by kernel_rfl) (fun _ _ _ h => h) (Or.inl ⟨by rfl, fun w hSw => by (try dsimp only at hSw); go_simp⟩) (by assumption) ?_
          simp only [Act.put, List.setIfInBounds_toArray, List.set_cons_zero, List.set_cons_succ]
          refine take_at 1 44 (.int .i64 i) rfl rfl (by kernel_rfl) (by kernel_rfl) (by kernel_rfl) (fun _ _ _ h => h) (Or.inl ⟨by rfl, fun w hSw => by (try dsimp only at hSw); go_simp⟩) (by assumption) ?_
          simp only [Act.put, List.setIfInBounds_toArray, List.set_cons_zero, List.set_cons_succ]
          refine take_at 2 45 (.int .i64 j) rfl rfl (by kernel_rfl) (by kernel_rfl) (by kernel_rfl) (fun _ _ _ h => h) (Or.inl ⟨by rfl, fun w hSw => by (try dsimp only at hSw); go_simp⟩) (by assumption) ?_
          simp only [Act.put, List.setIfInBounds_toArray, List.set_cons_zero, List.set_cons_succ]
          refine take_at 3 46 (.agg #[.int .i64 r, .int .i64 c, .slice sa n ka]) rfl rfl (by kernel_rfl) (by kernel_rfl) (by kernel_rfl) (fun _ _ _ h => h) (Or.inl ⟨by rfl, fun w hSw => by (try dsimp only at hSw); go_simp⟩) (by assumption) ?_
          simp only [Act.put, List.setIfInBounds_toArray, List.set_cons_zero, List.set_cons_succ]
          refine take_at 4 47 (.int .i64 i) rfl rfl (by kernel_rfl) (by kernel_rfl) (by kernel_rfl) (fun _ _ _ h => h) (Or.inl ⟨by rfl, fun w hSw => by (try dsimp only at hSw); go_simp⟩) (by assumption) ?_
          simp only [Act.put, List.setIfInBounds_toArray, List.set_cons_zero, List.set_cons_succ]
          refine take_at 5 48 (.int .i64 j) rfl rfl (by kernel_rfl) (by kernel_rfl) (by kernel_rfl) (fun _ _ _ h => h) (Or.inl ⟨by rfl, fun w hSw => by (try dsimp only at hSw); go_simp⟩) (by assumption) ?_
          simp only [Act.put, List.setIfInBounds_toArray, List.set_cons_zero, List.set_cons_succ]
          refine wpAnyH_ready (rs := [6]) (by kernel_rfl) (by simp) ?_
          refine AllReadyH.cons (o := _) rfl (fun K hK => ?_) AllReadyH.nil
          go_simp
          refine (HATQ.out _ HQ0.out.1).mono ?_
          rintro e u1 ⟨rfl, hb1⟩
          have HG1 := hid (HQ0.out.call hb1)
          have HR1 : Hid (u1.rowIs g 52 N (fun k => .float .f64 (o2 k))) := HRD.out.of_block (hb1.block _ HRD.out.lt)
          clear hb1
          go_wp2_with fail
          refine hK.out _ _ (HKS.out _ HG1) (fun hHeld1 => ?_)
          clear hK K
          try simp only [Act.put, List.setIfInBounds_toArray, List.set_cons_zero, List.set_cons_succ]
          refine wpAnyH_ready (rs := [7]) (by kernel_rfl) (by simp) ?_
          refine AllReadyH.cons (o := _) rfl (fun K hK => ?_) AllReadyH.nil
          go_simp
          refine (HPUT.out _ x i j o2 HR1.out HI.out HJK.out).mono ?_
          rintro e u4 ⟨rfl, hu4⟩
          have hal : Below u1.heap.size u1 (u1.alloc (MBox r Kc (some ⟨g, 0, none⟩) N N)) := (Below.refl _ _).alloc (Nat.le_refl _) _
          have HG4 : Hid (Fr5 w u4 p0 p1 rb mb (MBox r c sa n ka) (MBox r c2 sb n2 kb) (MBox 0 0 none 0 0) (MBox r Kc (some ⟨g, 0, none⟩) N N)) := by rw [hu4]; exact (HG1.out.call hal).set HNE.out.1 HNE.out.2.1 HNE.out.2.2.1 HNE.out.2.2.2.1 HNE.out.2.2.2.2 _
          have HR4 : Hid (u4.rowIs g 52 N (fun t => .float .f64 (if t = i * Kc + j then x else o2 t))) := by
            rw [hu4]
            refine ((HR1.out.of_block (hal.block _ HR1.out.lt)).set (i * Kc + j) _).congr (fun t _ => ?_)
            by_cases ht : t = i * Kc + j <;> simp [ht]
          clear hal hu4
          go_wp2_with fail
          refine hK.out _ _ (HKS.out _ HG4) (fun hHeld2 => ?_)
          clear hK K
          try simp only [Act.put, List.setIfInBounds_toArray, List.set_cons_zero, List.set_cons_succ]
          refine wpAnyH_done (by kernel_rfl) ?_ _
          go_wp2_with fail
          have hj1 := HJ.out
          have hi1 := HI.out
          have hk1 := HJK.out
          refine ⟨⟨j + 1, fun t => if t = i * Kc + j then x else o2 t, by omega, by go_num, HR4, fun u v hab hb => ?_, fun k => ?_, HG4⟩, ?_⟩
          · dsimp only
            by_cases h : u * Kc + v = i * Kc + j
            · obtain ⟨eb, ea⟩ := place_ne hb hk1 h
              subst ea eb
              rw [if_pos rfl]
              exact HXV.out
            · rw [if_neg h]
              refine HP2.out u v ?_ hb
              rcases hab with h1 | ⟨h1, h2⟩
              · exact Or.inl h1
              · have : v ≠ j := fun hc => h (by rw [h1, hc])
                exact Or.inr ⟨h1, by omega⟩
          · dsimp only
            by_cases h : k = i * Kc + j
            · rw [if_pos h]; exact HXX.out
            · rw [if_neg h]; exact HLO2.out k
          · simp [intOf]; omega
        · obtain rfl : c = j := by omega
          go_wp2_with fail
          go_loopw [9] (fun jv wr2 => ∃ (j : Nat) (o2 : Nat → Nat), j ≤ c2 ∧ jv = .int .i64 j ∧ Hid (wr2.rowIs g 52 N (fun k => .float .f64 (o2 k))) ∧ Hid (∀ u v, (u < i ∨ (u = i ∧ v < c + j)) → v < Kc → o2 (u * Kc + v) = bsd u v) ∧ Hid (∀ k, o2 k < 18446744073709551616) ∧ Hid (Fr5 w wr2 p0 p1 rb mb (MBox r c sa n ka) (MBox r c2 sb n2 kb) (MBox 0 0 none 0 0) (MBox r Kc (some ⟨g, 0, none⟩) N N))) (fun jv _ => c2 - (intOf jv).toNat)
          case atStart => exact ⟨0, o2, Nat.zero_le _, rfl, HR2, fun u v hab hb => HP2.out u v (by rcases hab with h | ⟨h1, h⟩ <;> omega) hb, HLO2, HFW2⟩
          case round =>
            obtain ⟨j, o2, hj, rfl, HR2, HP2, HLO2, HFW2⟩ := hrel
            obtain ⟨x0, x1, x2⟩ := mcells_of HFW2.out.2.1
            obtain ⟨y0, y1, y2⟩ := mcells_of HFW2.out.2.2.1
            by_cases hl2 : j < c2
            · have hjI : (j : Int) < (c2 : Int) := by omega
              have HJ := hid hl2
              have HQ0 : Hid (Fr5 w wr.drew p0 p1 rb mb (MBox r c sa n ka) (MBox r c2 sb n2 kb) (MBox 0 0 none 0 0) (MBox r Kc (some ⟨g, 0, none⟩) N N)) := HFW2.out.drew
              have HRD : Hid (wr.drew.rowIs g 52 N (fun k => .float .f64 (o2 k))) := HR2.out.of_block rfl
              obtain ⟨d, hd⟩ : ∃ t, Hid (c + j = t) := ⟨_, rfl⟩
              have HJK : Hid (d < Kc) := by have := HKK.out; have := hd.out; show _ < _; omega
              have HATQ := hid (fun W hW => HATB.out W i j hW HI.out hl2)
              have HXX := hid (HXB.out i j HI.out hl2)
              have HXV : Hid (f2 (i * c2 + j) = bsd i d) := by rw [← hbsd.out, ← hd.out]; show _ = _; dsimp only; rw [if_neg (by omega), Nat.add_sub_cancel_left]
              have hdI : (c : Int) + (j : Int) = (d : Int) := by have := hd.out; omega
              have hdw : IntKind.i64.wrap ((c : Int) + (j : Int)) = (d : Int) := by rw [hdI]; exact IntWalk.i64_in _ (by have := HKK.out; have := HK12.out; have := HJK.out; omega)
              have hdv : IntKind.i64.wrap (d : Int) = (d : Int) := IntWalk.i64_in _ (by have := HK12.out; have := HJK.out; omega)
              have hdd := hd.out
              obtain ⟨x, hx⟩ : ∃ t, Hid (f2 (i * c2 + j) = t) := ⟨_, rfl⟩
              rw [hx.out] at HXX HATQ HXV
              clear hl2
              go_wp2_with fail
              refine wp_region_held_drew (S := fun W => (W.cell? ⟨mb, 0, none⟩ = some (.int .i64 r) ∧ W.cell? ⟨mb, 1, none⟩ = some (.int .i64 Kc) ∧ W.cell? ⟨mb, 2, none⟩ = some (.slice (some ⟨g, 0, none⟩) N N) ∧ W.cell? ⟨p0, 0, none⟩ = some (.int .i64 r) ∧ W.cell? ⟨p0, 1, none⟩ = some (.int .i64 c) ∧ W.cell? ⟨p0, 2, none⟩ = some (.slice sa n ka) ∧ W.cell? ⟨p1, 0, none⟩ = some (.int .i64 r) ∧ W.cell? ⟨p1, 1, none⟩ = some (.int .i64 c2) ∧ W.cell? ⟨p1, 2, none⟩ = some (.slice sb n2 kb)) ∧ Hid (Fr5 w W p0 p1 rb mb (MBox r c sa n ka) (MBox r c2 sb n2 kb) (MBox 0 0 none 0 0) (MBox r Kc (some ⟨g, 0, none⟩) N N))) (by kernel_rfl) (HKS.out _ HQ0) (fun hHeld => ?_)
              refine take_at 0 57 (.agg #[.int .i64 r, .int .i64 Kc, .slice (some ⟨g, 0, none⟩) N N]) rfl rfl (by kernel_rfl) (by kernel_rfl) (by kernel_rfl) (fun _ _ _ h => h) (Or.inl ⟨by rfl, fun w hSw => by (try dsimp only at hSw); go_simp⟩) (by assumption) ?_
              simp only [Act.put, List.setIfInBounds_toArray, List.set_cons_zero, List.set_cons_succ]
              refine take_at 1 58 (.int .i64 i) rfl rfl (by kernel_rfl) (by kernel_rfl) (by kernel_rfl) (fun _ _ _ h => h) (Or.inl ⟨by rfl, fun w hSw => by (try dsimp only at hSw); go_simp⟩) (by assumption) ?_
              simp only [Act.put, List.setIfInBounds_toArray, List.set_cons_zero, List.set_cons_succ]
              refine take_at 2 59 (.pointer (some ⟨p0, 1, none⟩)) rfl rfl (by kernel_rfl) (by kernel_rfl) (by kernel_rfl) (fun _ _ _ h => h) (Or.inl ⟨by rfl, fun w hSw => by (try dsimp only at hSw); go_simp⟩) (by assumption) ?_
              simp only [Act.put, List.setIfInBounds_toArray, List.set_cons_zero, List.set_cons_succ]
              refine take_at 3 60 (.int .i64 c) rfl rfl (by kernel_rfl) (by kernel_rfl) (by kernel_rfl) (fun _ _ _ h => h) (Or.inl ⟨by rfl, fun w hSw => by (try dsimp only at hSw); go_simp⟩) (by assumption) ?_
              simp only [Act.put, List.setIfInBounds_toArray, List.set_cons_zero, List.set_cons_succ]
              refine take_at 4 61 (.int .i64 j) rfl rfl (by kernel_rfl) (by kernel_rfl) (by kernel_rfl) (fun _ _ _ h => h) (Or.inl ⟨by rfl, fun w hSw => by (try dsimp only at hSw); go_simp⟩) (by assumption) ?_
              simp only [Act.put, List.setIfInBounds_toArray, List.set_cons_zero, List.set_cons_succ]
              refine take_at 5 62 (.int .i64 d) rfl rfl (by kernel_rfl) (by kernel_rfl) (by kernel_rfl) (fun _ _ _ h => h) (Or.inl ⟨by rfl, fun w hSw => by (try dsimp only at hSw); go_simp⟩) (by assumption) ?_
              simp only [Act.put, List.setIfInBounds_toArray, List.set_cons_zero, List.set_cons_succ]
              refine take_at 6 63 (.agg #[.int .i64 r, .int .i64 c2, .slice sb n2 kb]) rfl rfl (by kernel_rfl) (by kernel_rfl) (by kernel_rfl) (fun _ _ _ h => h) (Or.inl ⟨by rfl, fun w hSw => by (try dsimp only at hSw); go_simp⟩) (by assumption) ?_
              simp only [Act.put, List.setIfInBounds_toArray, List.set_cons_zero, List.set_cons_succ]
              refine take_at 7 64 (.int .i64 i) rfl rfl (by kernel_rfl) (by kernel_rfl) (by kernel_rfl) (fun _ _ _ h => h) (Or.inl ⟨by rfl, fun w hSw => by (try dsimp only at hSw); go_simp⟩) (by assumption) ?_
              simp only [Act.put, List.setIfInBounds_toArray, List.set_cons_zero, List.set_cons_succ]
              refine take_at 8 65 (.int .i64 j) rfl rfl (by kernel_rfl) (by kernel_rfl) (by kernel_rfl) (fun _ _ _ h => h) (Or.inl ⟨by rfl, fun w hSw => by (try dsimp only at hSw); go_simp⟩) (by assumption) ?_
              simp only [Act.put, List.setIfInBounds_toArray, List.set_cons_zero, List.set_cons_succ]
              refine wpAnyH_ready (rs := [9]) (by kernel_rfl) (by simp) ?_
              refine AllReadyH.cons (o := _) rfl (fun K hK => ?_) AllReadyH.nil
              go_simp
              refine (HATQ.out _ HQ0.out.1).mono ?_
              rintro e u1 ⟨rfl, hb1⟩
              have HG1 := hid (HQ0.out.call hb1)
              have HR1 : Hid (u1.rowIs g 52 N (fun k => .float .f64 (o2 k))) := HRD.out.of_block (hb1.block _ HRD.out.lt)
              clear hb1
              go_wp2_with fail
              refine hK.out _ _ (HKS.out _ HG1) (fun hHeld1 => ?_)
              clear hK K
              try simp only [Act.put, List.setIfInBounds_toArray, List.set_cons_zero, List.set_cons_succ]
              refine wpAnyH_ready (rs := [10]) (by kernel_rfl) (by simp) ?_
              refine AllReadyH.cons (o := _) rfl (fun K hK => ?_) AllReadyH.nil
              go_simp
              refine (HPUT.out _ x i d o2 HR1.out HI.out HJK.out).mono ?_
              rintro e u4 ⟨rfl, hu4⟩
              have hal : Below u1.heap.size u1 (u1.alloc (MBox r Kc (some ⟨g, 0, none⟩) N N)) := (Below.refl _ _).alloc (Nat.le_refl _) _
              have HG4 : Hid (Fr5 w u4 p0 p1 rb mb (MBox r c sa n ka) (MBox r c2 sb n2 kb) (MBox 0 0 none 0 0) (MBox r Kc (some ⟨g, 0, none⟩) N N)) := by rw [hu4]; exact (HG1.out.call hal).set HNE.out.1 HNE.out.2.1 HNE.out.2.2.1 HNE.out.2.2.2.1 HNE.out.2.2.2.2 _
              have HR4 : Hid (u4.rowIs g 52 N (fun t => .float .f64 (if t = i * Kc + d then x else o2 t))) := by
                rw [hu4]
                refine ((HR1.out.of_block (hal.block _ HR1.out.lt)).set (i * Kc + d) _).congr (fun t _ => ?_)
                by_cases ht : t = i * Kc + d <;> simp [ht]
              clear hal hu4
              go_wp2_with fail
              refine hK.out _ _ (HKS.out _ HG4) (fun hHeld2 => ?_)
              clear hK K
              try simp only [Act.put, List.setIfInBounds_toArray, List.set_cons_zero, List.set_cons_succ]
              refine wpAnyH_done (by kernel_rfl) ?_ _
              go_wp2_with fail
              have hj1 := HJ.out
              have hi1 := HI.out
              have hk1 := HJK.out
              refine ⟨⟨j + 1, fun t => if t = i * Kc + d then x else o2 t, by omega, by go_num, HR4, fun u v hab hb => ?_, fun k => ?_, HG4⟩, ?_⟩
              · dsimp only
                by_cases h : u * Kc + v = i * Kc + d
                · obtain ⟨eb, ea⟩ := place_ne hb hk1 h
                  subst ea eb
                  rw [if_pos rfl]
                  exact HXV.out
                · rw [if_neg h]
                  refine HP2.out u v ?_ hb
                  rcases hab with h1 | ⟨h1, h2⟩
                  · exact Or.inl h1
                  · have : v ≠ d := fun hc => h (by rw [h1, hc])
                    exact Or.inr ⟨h1, by omega⟩
              · dsimp only
                by_cases h : k = i * Kc + d
                · rw [if_pos h]; exact HXX.out
                · rw [if_neg h]; exact HLO2.out k
              · simp [intOf]; omega
            · obtain rfl : c2 = j := by omega
              go_wp2_with fail
              have hi1 := HI.out
              have hkk := HKK.out
              refine ⟨⟨i + 1, o2, by omega, by go_num, HR2, fun u v ha hb => HP2.out u v (by omega) hb, HLO2, HFW2⟩, ?_⟩
              simp [intOf]; omega
    · obtain rfl : r = i := by omega
      obtain ⟨m0, m1, m2⟩ := mcells_of HFW.out.2.2.2.2
      obtain ⟨b0, b1, b2⟩ := mcells_of HFW.out.2.2.2.1
      have fz := frzM HFW.out.2.2.2.1
      have HFN := hid (rowF (HR.out) (fun k _ => HLO.out k) HN144.out)
      have HPV : Hid (∀ u v, u < r → v < Kc → o (u * Kc + v) = if v < c then f (u * c + v) else f2 (u * c2 + (v - c))) := fun u v hu hv => by have := HP.out u v hu hv; rw [← hbsd.out] at this; exact this
      go_wp2_with fail
      exact bodyPost_ret (v := .tuple #[.agg #[.int .i64 r, .int .i64 Kc, .slice (some ⟨g, 0, none⟩) N N], .int .i64 0]) (by simp [results, Try.results16, go_sem, b0, b1, b2]) rfl ⟨⟨g, o, rfl, StoM.fn HFN.out HFW.out.2.2.2.1, HPV.out⟩, StoM.below HFW.out.1 HRB.out⟩
end Go.Proofs.Ytjaljdodlfmebaa
