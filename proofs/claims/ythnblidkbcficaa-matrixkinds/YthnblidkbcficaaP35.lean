
/- The document's Product. (Written by mknac.py.) -/
import Derived.Test.YthnblidkbcficaaP34
namespace Go.Proofs.Ythnblidkbcficaa
open Go.RowKit Go.IntWalk

/-- Four variables as they were laid. -/
def Fr5 (w W : World) (p0 p1 rb mb : Nat) (A B R M : Obj) : Prop := Below w.heap.size w W ∧ W.heap[p0]? = some A ∧ W.heap[p1]? = some B ∧ W.heap[rb]? = some R ∧ W.heap[mb]? = some M
theorem Fr5.drew {w W : World} {p0 p1 rb mb : Nat} {A B R M : Obj} (h : Fr5 w W p0 p1 rb mb A B R M) : Fr5 w W.drew p0 p1 rb mb A B R M := ⟨h.1.drew, h.2⟩
theorem Fr5.call {w W W' : World} {p0 p1 rb mb : Nat} {A B R M : Obj} (h : Fr5 w W p0 p1 rb mb A B R M) (hb : Below W.heap.size W W') : Fr5 w W' p0 p1 rb mb A B R M := ⟨h.1.trans (hb.mono h.1.size), blkM h.2.1 hb, blkM h.2.2.1 hb, blkM h.2.2.2.1 hb, blkM h.2.2.2.2 hb⟩
theorem Fr5.set {w W : World} {p0 p1 rb mb g k : Nat} {A B R M : Obj} (h : Fr5 w W p0 p1 rb mb A B R M) (h0 : p0 ≠ g) (h1 : p1 ≠ g) (h2 : rb ≠ g) (h3 : mb ≠ g) (hg : w.heap.size ≤ g) (x : Value) : Fr5 w (W.setCell ⟨g, k, none⟩ x) p0 p1 rb mb A B R M := ⟨h.1.setCell (p := ⟨g, k, none⟩) hg _, (set_keepM h0 x).trans h.2.1, (set_keepM h1 x).trans h.2.2.1, (set_keepM h2 x).trans h.2.2.2.1, (set_keepM h3 x).trans h.2.2.2.2⟩
set_option maxRecDepth 4000 in
set_option maxHeartbeats 2000000 in
theorem Product_any (r c c2 n n2 : Nat) (sa sb : Option Addr) (ka kb : Nat) (f f2 : Nat → Nat) (w : World) (ha : FnM w sa n ka f) (hb : FnM w sb n2 kb f2) (hr : r ≤ 12) (hc : c ≤ 12) (hc2 : c2 ≤ 12) (hn : n = r * c) (hn2 : n2 = c * c2) :
    Calls Try.prog 115 #[MV r c sa n ka, MV c c2 sb n2 kb] w fun e w' => FillR (fun i j x => canonOf x = dotM (fun k => f (i * c + k)) (fun k => f2 (k * c2 + j)) c) r c2 (r * c2) w.heap.size e w' ∧ Below w.heap.size w w' := by
  obtain ⟨t1, t2, t3, t4, t5⟩ := three_b w (MBox r c sa n ka) (MBox c c2 sb n2 kb) (MBox 0 0 none 0 0)
  have HROW : Hid (∀ W i, Below w.heap.size w W → i < r → Calls Try.prog 33 #[.agg #[.int .i64 r, .int .i64 c, .slice sa n ka], .int .i64 (i : Nat)] W fun e w' => (∃ s l, e = .returned (.slice s c l) ∧ FnM w' s c l (fun t => f (i * c + t))) ∧ Below W.heap.size W w') := fun W i hW hi => rRow_any r c i n ka sa f W (ha.below hW) hr hc hn hi
  have HCOL : Hid (∀ W j, Below w.heap.size w W → j < c2 → Calls Try.prog 36 #[.agg #[.int .i64 c, .int .i64 c2, .slice sb n2 kb], .int .i64 (j : Nat)] W fun e w' => (∃ s l, e = .returned (.slice s c l) ∧ FnM w' s c l (fun t => f2 (t * c2 + j))) ∧ Below W.heap.size W w') := fun W j hW hj => rCol_any c c2 j n2 kb sb f2 W (hb.below hW) hc hc2 hn2 hj
  have HDOT : Hid (∀ W s1 s2 l1 l2 F G, FnM W s1 c l1 F → FnM W s2 c l2 G → Calls Try.prog 56 #[.slice s1 c l1, .slice s2 c l2] W fun e w' => ∃ z : Nat, e = .returned (.float .f64 z) ∧ (z < 18446744073709551616 ∧ canonOf z = dotM F G c) ∧ Below W.heap.size W w') := fun W s1 s2 l1 l2 F G h1 h2 => rDot_any s1 s2 c l1 l2 F G W (by omega) h1 h2
  have HPUT0 : Hid (∀ W (g x i j : Nat) (o : Nat → Nat), W.rowIs g 51 (r * c2) (fun k => .float .f64 (o k)) → i < r → j < c2 → Calls Try.prog 30 #[.agg #[.int .i64 r, .int .i64 c2, .slice (some ⟨g, 0, none⟩) (r * c2) (r * c2)], .int .i64 (i : Nat), .int .i64 (j : Nat), .float .f64 x] W fun e w' => e = .returned (.tuple #[]) ∧ w' = (W.alloc (MBox r c2 (some ⟨g, 0, none⟩) (r * c2) (r * c2))).setCell ⟨g, i * c2 + j, none⟩ (.float .f64 x)) := fun W g x i j o hW hi hj => by
    have hk := place_lt hi hj
    exact Put_any r g c2 _ _ i j x _ W (hW.cell hk) (hW.frozen _) hW.lt (by omega) (by omega) (by omega) hk
  have HM12 : Hid (r ≤ 12 ∧ c2 ≤ 12) := ⟨hr, hc2⟩
  have HZ0 := hid (fun W => rRaw_any r c2 (by omega) (by omega) W)
  obtain ⟨N, hN⟩ : ∃ p, Hid (r * c2 = p) := ⟨_, rfl⟩
  rw [hN.out] at HPUT0 HZ0
  rw [hN.out]
  obtain ⟨V, hV⟩ : ∃ V, Hid (((w.alloc (MBox r c sa n ka)).alloc (MBox c c2 sb n2 kb)).alloc (MBox 0 0 none 0 0) = V) := ⟨_, rfl⟩
  rw [hV.out] at t1 t2 t3 t4 t5
  have hV' := hV.out
  unfold MBox at hV'
  obtain ⟨g, hg⟩ : ∃ t, Hid (V.heap.size + 1 = t) := ⟨_, rfl⟩
  have HZ := hid (HZ0.out V)
  rw [hg.out] at HZ
  have HPUT := hid (fun W x i j o => HPUT0.out W g x i j o)
  clear HPUT0 HZ0
  obtain ⟨p0, hp0⟩ : ∃ t, Hid (w.heap.size = t) := ⟨_, rfl⟩
  obtain ⟨p1, hp1⟩ : ∃ t, Hid (p0 + 1 = t) := ⟨_, rfl⟩
  obtain ⟨rb, hrb⟩ : ∃ t, Hid (p1 + 1 = t) := ⟨_, rfl⟩
  rw [hp0.out] at t1 t2 t3
  rw [hp1.out] at t2 t3
  rw [hrb.out] at t3
  have HT1 := hid t1
  have HT2 := hid t2
  have HT3 := hid t3
  have HT4 := hid t4
  have HT5 := hid t5
  have hp0' := hp0.out
  have hp1' := hp1.out
  have hrb' := hrb.out
  obtain ⟨x0, x1, x2⟩ := mcells_of t1
  obtain ⟨v0, v1, v2⟩ := mcells_of t2
  unfold MV
  clear t1 t2 t3 t4 t5 ha hb hr hc hc2 hn hn2
  go_enter Try.func115, Try.ntmps115
  go_wp2_with fail
  refine HZ.out.mono ?_
  rintro e w1 ⟨rfl, h1, h2⟩
  have hal : Below w1.heap.size w1 (w1.alloc (MBox r c2 (some ⟨g, 0, none⟩) N N)) := (Below.refl _ _).alloc (Nat.le_refl _) _
  have hlt : g < w1.heap.size := h1.lt
  obtain ⟨mb, hmb⟩ : ∃ t, Hid (w1.heap.size = t) := ⟨_, rfl⟩
  have HFR : Hid (Fr5 w (w1.alloc (MBox r c2 (some ⟨g, 0, none⟩) N N)) p0 p1 rb mb (MBox r c sa n ka) (MBox c c2 sb n2 kb) (MBox 0 0 none 0 0) (MBox r c2 (some ⟨g, 0, none⟩) N N)) := by
    refine ⟨(HT4.out.trans (h2.mono HT4.out.size)).trans (hal.mono (Nat.le_trans HT4.out.size h2.size)), blkM (blkM HT1.out h2) hal, blkM (blkM HT2.out h2) hal, blkM (blkM HT3.out h2) hal, ?_⟩
    rw [← hmb.out]
    exact nblkM _ _
  have HR0 : Hid ((w1.alloc (MBox r c2 (some ⟨g, 0, none⟩) N N)).rowIs g 51 N (fun _ => .float .f64 0)) := h1.of_block (hal.block _ hlt)
  have HNE : Hid (p0 ≠ g ∧ p1 ≠ g ∧ rb ≠ g ∧ mb ≠ g ∧ w.heap.size ≤ g) := by
    have e1 := hp0.out; have e2 := hp1.out; have e3 := hrb.out; have e4 := hmb.out; have e5 := hg.out; have e6 := HT5.out
    show _ ∧ _ ∧ _ ∧ _ ∧ _
    omega
  obtain ⟨V1, hV1⟩ : ∃ V, Hid (w1.alloc (MBox r c2 (some ⟨g, 0, none⟩) N N) = V) := ⟨_, rfl⟩
  rw [hV1.out] at HFR HR0
  have hW1 := hV1.out
  have hmb' := hmb.out
  unfold MBox at hW1
  unfold MV
  have HKS : Hid (∀ W, Hid (Fr5 w W p0 p1 rb mb (MBox r c sa n ka) (MBox c c2 sb n2 kb) (MBox 0 0 none 0 0) (MBox r c2 (some ⟨g, 0, none⟩) N N)) → (W.cell? ⟨mb, 0, none⟩ = some (.int .i64 r) ∧ W.cell? ⟨mb, 1, none⟩ = some (.int .i64 c2) ∧ W.cell? ⟨mb, 2, none⟩ = some (.slice (some ⟨g, 0, none⟩) N N) ∧ W.cell? ⟨p0, 0, none⟩ = some (.int .i64 r) ∧ W.cell? ⟨p0, 1, none⟩ = some (.int .i64 c) ∧ W.cell? ⟨p0, 2, none⟩ = some (.slice sa n ka) ∧ W.cell? ⟨p1, 0, none⟩ = some (.int .i64 c) ∧ W.cell? ⟨p1, 1, none⟩ = some (.int .i64 c2) ∧ W.cell? ⟨p1, 2, none⟩ = some (.slice sb n2 kb)) ∧ Hid (Fr5 w W p0 p1 rb mb (MBox r c sa n ka) (MBox c c2 sb n2 kb) (MBox 0 0 none 0 0) (MBox r c2 (some ⟨g, 0, none⟩) N N))) := fun W hW => by
    obtain ⟨a0, a1, a2⟩ := mcells_of hW.out.2.1
    obtain ⟨b0, b1, b2⟩ := mcells_of hW.out.2.2.1
    obtain ⟨m0, m1, m2⟩ := mcells_of hW.out.2.2.2.2
    exact ⟨⟨m0, m1, m2, a0, a1, a2, b0, b1, b2⟩, hW⟩
  clear h1 h2 hal HZ hlt x0 x1 x2 v0 v1 v2
  go_wp2_with fail
  go_loopw [6] (fun iv wr => ∃ (i : Nat) (o : Nat → Nat), i ≤ r ∧ iv = .int .i64 i ∧ Hid (wr.rowIs g 51 N (fun k => .float .f64 (o k))) ∧ Hid (∀ a b, a < i → b < c2 → canonOf (o (a * c2 + b)) = dotM (fun k => f (a * c + k)) (fun k => f2 (k * c2 + b)) c ∧ o (a * c2 + b) < 18446744073709551616) ∧ Hid (Fr5 w wr p0 p1 rb mb (MBox r c sa n ka) (MBox c c2 sb n2 kb) (MBox 0 0 none 0 0) (MBox r c2 (some ⟨g, 0, none⟩) N N))) (fun iv _ => r - (intOf iv).toNat)
  case atStart => exact ⟨0, fun _ => 0, Nat.zero_le _, rfl, HR0, fun a b ha => absurd ha (Nat.not_lt_zero a), HFR⟩
  case round =>
    obtain ⟨i, o, hi, rfl, HR, HP, HFW⟩ := hrel
    obtain ⟨y0, y1, y2⟩ := mcells_of HFW.out.2.1
    by_cases hlt : i < r
    · have hiI : (i : Int) < (r : Int) := by omega
      have HI := hid hlt
      obtain ⟨h12a, h12b⟩ := HM12.out
      clear hlt
      go_wp2_with fail
      go_loopw [7] (fun jv wr2 => ∃ (j : Nat) (o2 : Nat → Nat), j ≤ c2 ∧ jv = .int .i64 j ∧ Hid (wr2.rowIs g 51 N (fun k => .float .f64 (o2 k))) ∧ Hid (∀ a b, (a < i ∨ (a = i ∧ b < j)) → b < c2 → canonOf (o2 (a * c2 + b)) = dotM (fun k => f (a * c + k)) (fun k => f2 (k * c2 + b)) c ∧ o2 (a * c2 + b) < 18446744073709551616) ∧ Hid (Fr5 w wr2 p0 p1 rb mb (MBox r c sa n ka) (MBox c c2 sb n2 kb) (MBox 0 0 none 0 0) (MBox r c2 (some ⟨g, 0, none⟩) N N))) (fun jv _ => c2 - (intOf jv).toNat)
      case atStart => exact ⟨0, o, Nat.zero_le _, rfl, HR, fun a b hab hb => HP.out a b (by rcases hab with h | ⟨_, h⟩ <;> omega) hb, HFW⟩
      case round =>
        obtain ⟨j, o2, hj, rfl, HR2, HP2, HFW2⟩ := hrel
        obtain ⟨q0, q1, q2⟩ := mcells_of HFW2.out.2.2.1
        by_cases hl2 : j < c2
        · have hjI : (j : Int) < (c2 : Int) := by omega
          have HJ := hid hl2
          have HQ0 : Hid (Fr5 w wr.drew p0 p1 rb mb (MBox r c sa n ka) (MBox c c2 sb n2 kb) (MBox 0 0 none 0 0) (MBox r c2 (some ⟨g, 0, none⟩) N N)) := HFW2.out.drew
          have HRD : Hid (wr.drew.rowIs g 51 N (fun k => .float .f64 (o2 k))) := HR2.out.of_block rfl
          clear hl2
          go_wp2_with fail
          refine wp_region_held_drew (S := fun W => (W.cell? ⟨mb, 0, none⟩ = some (.int .i64 r) ∧ W.cell? ⟨mb, 1, none⟩ = some (.int .i64 c2) ∧ W.cell? ⟨mb, 2, none⟩ = some (.slice (some ⟨g, 0, none⟩) N N) ∧ W.cell? ⟨p0, 0, none⟩ = some (.int .i64 r) ∧ W.cell? ⟨p0, 1, none⟩ = some (.int .i64 c) ∧ W.cell? ⟨p0, 2, none⟩ = some (.slice sa n ka) ∧ W.cell? ⟨p1, 0, none⟩ = some (.int .i64 c) ∧ W.cell? ⟨p1, 1, none⟩ = some (.int .i64 c2) ∧ W.cell? ⟨p1, 2, none⟩ = some (.slice sb n2 kb)) ∧ Hid (Fr5 w W p0 p1 rb mb (MBox r c sa n ka) (MBox c c2 sb n2 kb) (MBox 0 0 none 0 0) (MBox r c2 (some ⟨g, 0, none⟩) N N))) (by kernel_rfl) (HKS.out _ HQ0) (fun hHeld => ?_)
          refine take_at 0 25 (.agg #[.int .i64 r, .int .i64 c2, .slice (some ⟨g, 0, none⟩) N N]) rfl rfl (by kernel_rfl) (by kernel_rfl) (by kernel_rfl) (fun _ _ _ h => h) (Or.inl ⟨by rfl, fun w hSw => by (try dsimp only at hSw); go_simp⟩) (by assumption) ?_
          simp only [Act.put, List.setIfInBounds_toArray, List.set_cons_zero, List.set_cons_succ]
          refine take_at 1 26 (.int .i64 i) rfl rfl (by kernel_rfl) (by kernel_rfl) (by kernel_rfl) (fun _ _ _ h => h) (Or.inl ⟨by rfl, fun w hSw => by (try dsimp only at hSw); go_simp⟩) (by assumption) ?_
          simp only [Act.put, List.setIfInBounds_toArray, List.set_cons_zero, List.set_cons_succ]
          refine take_at 2 27 (.int .i64 j) rfl rfl (by kernel_rfl) (by kernel_rfl) (by kernel_rfl) (fun _ _ _ h => h) (Or.inl ⟨by rfl, fun w hSw => by (try dsimp only at hSw); go_simp⟩) (by assumption) ?_
          simp only [Act.put, List.setIfInBounds_toArray, List.set_cons_zero, List.set_cons_succ]
          refine take_at 3 28 (.agg #[.int .i64 r, .int .i64 c, .slice sa n ka]) rfl rfl (by kernel_rfl) (by kernel_rfl) (by kernel_rfl) (fun _ _ _ h => h) (Or.inl ⟨by rfl, fun w hSw => by (try dsimp only at hSw); go_simp⟩) (by assumption) ?_
          simp only [Act.put, List.setIfInBounds_toArray, List.set_cons_zero, List.set_cons_succ]
          refine take_at 4 29 (.int .i64 i) rfl rfl (by kernel_rfl) (by kernel_rfl) (by kernel_rfl) (fun _ _ _ h => h) (Or.inl ⟨by rfl, fun w hSw => by (try dsimp only at hSw); go_simp⟩) (by assumption) ?_
          simp only [Act.put, List.setIfInBounds_toArray, List.set_cons_zero, List.set_cons_succ]
          refine take_at 6 31 (.agg #[.int .i64 c, .int .i64 c2, .slice sb n2 kb]) rfl rfl (by kernel_rfl) (by kernel_rfl) (by kernel_rfl) (fun _ _ _ h => h) (Or.inl ⟨by rfl, fun w hSw => by (try dsimp only at hSw); go_simp⟩) (by assumption) ?_
          simp only [Act.put, List.setIfInBounds_toArray, List.set_cons_zero, List.set_cons_succ]
          refine take_at 7 32 (.int .i64 j) rfl rfl (by kernel_rfl) (by kernel_rfl) (by kernel_rfl) (fun _ _ _ h => h) (Or.inl ⟨by rfl, fun w hSw => by (try dsimp only at hSw); go_simp⟩) (by assumption) ?_
          simp only [Act.put, List.setIfInBounds_toArray, List.set_cons_zero, List.set_cons_succ]
          refine wpAnyH_ready (rs := [5]) (by kernel_rfl) (by simp) ?_
          refine AllReadyH.cons (o := _) rfl (fun K hK => ?_) AllReadyH.nil
          · go_simp
            refine (HROW.out _ i HQ0.out.1 HI.out).mono ?_
            rintro e u1 ⟨⟨sa1, la1, rfl, hf1⟩, hb1⟩
            have HG1 := hid (HQ0.out.call hb1)
            have HFa := hid hf1
            have HR1' : Hid (u1.rowIs g 51 N (fun k => .float .f64 (o2 k))) := HRD.out.of_block (hb1.block _ HRD.out.lt)
            clear hb1 hf1
            go_wp2_with fail
            refine hK.out _ _ (HKS.out _ HG1) (fun hHeld1 => ?_)
            clear hK K
            try simp only [Act.put, List.setIfInBounds_toArray, List.set_cons_zero, List.set_cons_succ]
            refine wpAnyH_ready (rs := [8]) (by kernel_rfl) (by simp) ?_
            refine AllReadyH.cons (o := _) rfl (fun K hK => ?_) AllReadyH.nil
            go_simp
            refine (HCOL.out _ j HG1.out.1 HJ.out).mono ?_
            rintro e u2 ⟨⟨sb1, lb1, rfl, hf1⟩, hb1⟩
            have HG2 := hid (HG1.out.call hb1)
            have HFb := hid hf1
            have HOa := hid (HFa.out.below hb1)
            have HR2' : Hid (u2.rowIs g 51 N (fun k => .float .f64 (o2 k))) := HR1'.out.of_block (hb1.block _ HR1'.out.lt)
            clear hb1 hf1
            go_wp2_with fail
            refine hK.out _ _ (HKS.out _ HG2) (fun hHeld2 => ?_)
            clear hK K
            try simp only [Act.put, List.setIfInBounds_toArray, List.set_cons_zero, List.set_cons_succ]
            refine wpAnyH_ready (rs := [9]) (by kernel_rfl) (by simp) ?_
            refine AllReadyH.cons (o := _) rfl (fun K hK => ?_) AllReadyH.nil
            go_simp
            refine (HDOT.out _ sa1 sb1 la1 lb1 _ _ HOa.out HFb.out).mono ?_
            rintro e u3 ⟨x, rfl, hx, hb3⟩
            have HG3 := hid (HG2.out.call hb3)
            have HX := hid hx
            have HR3 : Hid (u3.rowIs g 51 N (fun k => .float .f64 (o2 k))) := HR2'.out.of_block (hb3.block _ HR2'.out.lt)
            clear hb3 hx
            go_wp2_with fail
            refine hK.out _ _ (HKS.out _ HG3) (fun hHeld3 => ?_)
            clear hK K
            try simp only [Act.put, List.setIfInBounds_toArray, List.set_cons_zero, List.set_cons_succ]
            refine wpAnyH_ready (rs := [10]) (by kernel_rfl) (by simp) ?_
            refine AllReadyH.cons (o := _) rfl (fun K hK => ?_) AllReadyH.nil
            go_simp
            refine (HPUT.out _ x i j o2 HR3.out HI.out HJ.out).mono ?_
            rintro e u4 ⟨rfl, hu4⟩
            have hal : Below u3.heap.size u3 (u3.alloc (MBox r c2 (some ⟨g, 0, none⟩) N N)) := (Below.refl _ _).alloc (Nat.le_refl _) _
            have HG4 : Hid (Fr5 w u4 p0 p1 rb mb (MBox r c sa n ka) (MBox c c2 sb n2 kb) (MBox 0 0 none 0 0) (MBox r c2 (some ⟨g, 0, none⟩) N N)) := by rw [hu4]; exact (HG3.out.call hal).set HNE.out.1 HNE.out.2.1 HNE.out.2.2.1 HNE.out.2.2.2.1 HNE.out.2.2.2.2 _
            have HR4 : Hid (u4.rowIs g 51 N (fun t => .float .f64 (if t = i * c2 + j then x else o2 t))) := by
              rw [hu4]
              refine ((HR3.out.of_block (hal.block _ HR3.out.lt)).set (i * c2 + j) _).congr (fun t _ => ?_)
              by_cases ht : t = i * c2 + j <;> simp [ht]
            clear hal hu4
            go_wp2_with fail
            refine hK.out _ _ (HKS.out _ HG4) (fun hHeld4 => ?_)
            clear hK K
            try simp only [Act.put, List.setIfInBounds_toArray, List.set_cons_zero, List.set_cons_succ]
            refine wpAnyH_done (by kernel_rfl) ?_ _
            go_wp2_with fail
            have hj1 := HJ.out
            refine ⟨⟨j + 1, fun t => if t = i * c2 + j then x else o2 t, by omega, by go_num, HR4, fun a b hab hb => ?_, HG4⟩, ?_⟩
            · by_cases h : a * c2 + b = i * c2 + j
              · obtain ⟨ea, eb⟩ := place_ne hb hj1 h
                subst ea eb
                dsimp only
                rw [if_pos rfl]
                exact ⟨HX.out.2, HX.out.1⟩
              · dsimp only
                rw [if_neg h]
                refine HP2.out a b ?_ hb
                rcases hab with h1 | ⟨h1, h2⟩
                · exact Or.inl h1
                · have : b ≠ j := fun hc => h (by rw [h1, hc])
                  exact Or.inr ⟨h1, by omega⟩
            · simp [intOf]; omega
        · obtain rfl : j = c2 := by omega
          go_wp2_with fail
          have hi1 := HI.out
          refine ⟨⟨i + 1, o2, by omega, by go_num, HR2, fun a b ha hb => HP2.out a b (by omega) hb, HFW2⟩, ?_⟩
          simp [intOf]; omega
    · obtain rfl : i = r := by omega
      obtain ⟨m0, m1, m2⟩ := mcells_of HFW.out.2.2.2.2
      obtain ⟨b0, b1, b2⟩ := mcells_of HFW.out.2.2.2.1
      have fz := frzM HFW.out.2.2.2.1
      go_wp2_with fail
      refine bodyPost_ret (v := MV i c2 (some ⟨g, 0, none⟩) N N) (by simp [results, Try.results115, go_sem, b0, b1, b2, MV]) rfl ⟨⟨g, o, rfl, HNE.out.2.2.2.2, ?_, HP.out⟩, StoM.below HFW.out.1 (by have := hrb.out; have := hp1.out; have := hp0.out; omega)⟩
      exact HR.out.of_block (StoM.keep (Ne.symm HNE.out.2.2.1))
end Go.Proofs.Ythnblidkbcficaa

namespace Go.Proofs.Ythnblidkbcficaa
open Go.RowKit Go.IntWalk

set_option maxRecDepth 4000 in
set_option maxHeartbeats 2000000 in
theorem Mirrored_any (n m : Nat) (sa : Option Addr) (ka : Nat) (f : Nat → Nat) (w : World) (ha : FnM w sa m ka f) (hn : n ≤ 12) (hm : m = n * n) :
    Calls Try.prog 71 #[MV n n sa m ka] w fun e w' => MirR (fun i j x => x = f (i * n + j)) n (n * n) w.heap.size e w' ∧ Below w.heap.size w w' := by
  obtain ⟨t1, t3, t4, t5⟩ := two_b w (MBox n n sa m ka) (MBox 0 0 none 0 0)
  have HAT : Hid (∀ W (i j : Nat), Below w.heap.size w W → i < n → j < n → Calls Try.prog 27 #[.agg #[.int .i64 n, .int .i64 n, .slice sa m ka], .int .i64 (i : Nat), .int .i64 (j : Nat)] W fun e w' => e = .returned (.float .f64 (f (i * n + j))) ∧ Below W.heap.size W w') := fun W i j hW hi hj => rAt_fn n sa n m ka i j f W (ha.below hW) (by omega) (by omega) (by omega) (by rw [hm]; exact place_lt hi hj)
  have HFL : Hid (∀ i j : Nat, i < n → j < n → f (i * n + j) < 18446744073709551616) := fun i j hi hj => fn_lt ha _ (by rw [hm]; exact place_lt hi hj)
  have HPUT0 : Hid (∀ W (g x i j : Nat) (o : Nat → Nat), W.rowIs g 51 (n * n) (fun k => .float .f64 (o k)) → i < n → j < n → Calls Try.prog 30 #[.agg #[.int .i64 n, .int .i64 n, .slice (some ⟨g, 0, none⟩) (n * n) (n * n)], .int .i64 (i : Nat), .int .i64 (j : Nat), .float .f64 x] W fun e w' => e = .returned (.tuple #[]) ∧ w' = (W.alloc (MBox n n (some ⟨g, 0, none⟩) (n * n) (n * n))).setCell ⟨g, i * n + j, none⟩ (.float .f64 x)) := fun W g x i j o hW hi hj => by
    have hk := place_lt hi hj
    exact Put_any n g n _ _ i j x _ W (hW.cell hk) (hW.frozen _) hW.lt (by omega) (by omega) (by omega) hk
  have HM12 : Hid (n ≤ 12) := hn
  have HZ0 := hid (fun W => rRaw_any n n (by omega) (by omega) W)
  obtain ⟨N, hN⟩ : ∃ p, Hid (n * n = p) := ⟨_, rfl⟩
  rw [hN.out] at HPUT0 HZ0
  rw [hN.out]
  obtain ⟨V, hV⟩ : ∃ V, Hid ((w.alloc (MBox n n sa m ka)).alloc (MBox 0 0 none 0 0) = V) := ⟨_, rfl⟩
  rw [hV.out] at t1 t3 t4 t5
  have hV' := hV.out
  unfold MBox at hV'
  obtain ⟨g, hg⟩ : ∃ t, Hid (V.heap.size + 1 = t) := ⟨_, rfl⟩
  have HZ := hid (HZ0.out V)
  rw [hg.out] at HZ
  have HPUT := hid (fun W x i j o => HPUT0.out W g x i j o)
  clear HPUT0 HZ0
  obtain ⟨p0, hp0⟩ : ∃ t, Hid (w.heap.size = t) := ⟨_, rfl⟩
  obtain ⟨rb, hrb⟩ : ∃ t, Hid (p0 + 1 = t) := ⟨_, rfl⟩
  rw [hp0.out] at t1 t3
  rw [hrb.out] at t3
  have HT1 := hid t1
  have HT3 := hid t3
  have HT4 := hid t4
  have HT5 := hid t5
  have hp0' := hp0.out
  have hrb' := hrb.out
  obtain ⟨x0, x1, x2⟩ := mcells_of t1
  unfold MV
  clear t1 t3 t4 t5 ha hn hm
  go_enter Try.func71, Try.ntmps71
  go_wp2_with fail
  refine HZ.out.mono ?_
  rintro e w1 ⟨rfl, h1, h2⟩
  have hal : Below w1.heap.size w1 (w1.alloc (MBox n n (some ⟨g, 0, none⟩) N N)) := (Below.refl _ _).alloc (Nat.le_refl _) _
  have hlt : g < w1.heap.size := h1.lt
  obtain ⟨mb, hmb⟩ : ∃ t, Hid (w1.heap.size = t) := ⟨_, rfl⟩
  have HFR : Hid (Fr5 w (w1.alloc (MBox n n (some ⟨g, 0, none⟩) N N)) p0 p0 rb mb (MBox n n sa m ka) (MBox n n sa m ka) (MBox 0 0 none 0 0) (MBox n n (some ⟨g, 0, none⟩) N N)) := by
    refine ⟨(HT4.out.trans (h2.mono HT4.out.size)).trans (hal.mono (Nat.le_trans HT4.out.size h2.size)), blkM (blkM HT1.out h2) hal, blkM (blkM HT1.out h2) hal, blkM (blkM HT3.out h2) hal, ?_⟩
    rw [← hmb.out]
    exact nblkM _ _
  have HR0 : Hid ((w1.alloc (MBox n n (some ⟨g, 0, none⟩) N N)).rowIs g 51 N (fun _ => .float .f64 0)) := h1.of_block (hal.block _ hlt)
  have HNE : Hid (p0 ≠ g ∧ rb ≠ g ∧ mb ≠ g ∧ w.heap.size ≤ g) := by
    have e1 := hp0.out; have e3 := hrb.out; have e4 := hmb.out; have e5 := hg.out; have e6 := HT5.out
    show _ ∧ _ ∧ _ ∧ _
    omega
  obtain ⟨V1, hV1⟩ : ∃ V, Hid (w1.alloc (MBox n n (some ⟨g, 0, none⟩) N N) = V) := ⟨_, rfl⟩
  rw [hV1.out] at HFR HR0
  have hW1 := hV1.out
  have hmb' := hmb.out
  unfold MBox at hW1
  unfold MV
  have HKS : Hid (∀ W, Hid (Fr5 w W p0 p0 rb mb (MBox n n sa m ka) (MBox n n sa m ka) (MBox 0 0 none 0 0) (MBox n n (some ⟨g, 0, none⟩) N N)) → (W.cell? ⟨mb, 0, none⟩ = some (.int .i64 n) ∧ W.cell? ⟨mb, 1, none⟩ = some (.int .i64 n) ∧ W.cell? ⟨mb, 2, none⟩ = some (.slice (some ⟨g, 0, none⟩) N N) ∧ W.cell? ⟨p0, 0, none⟩ = some (.int .i64 n) ∧ W.cell? ⟨p0, 1, none⟩ = some (.int .i64 n) ∧ W.cell? ⟨p0, 2, none⟩ = some (.slice sa m ka)) ∧ Hid (Fr5 w W p0 p0 rb mb (MBox n n sa m ka) (MBox n n sa m ka) (MBox 0 0 none 0 0) (MBox n n (some ⟨g, 0, none⟩) N N))) := fun W hW => by
    obtain ⟨a0, a1, a2⟩ := mcells_of hW.out.2.1
    obtain ⟨m0, m1, m2⟩ := mcells_of hW.out.2.2.2.2
    exact ⟨⟨m0, m1, m2, a0, a1, a2⟩, hW⟩
  clear h1 h2 hal HZ hlt x0 x1 x2
  go_wp2_with fail
  go_loopw [4] (fun iv wr => ∃ (i : Nat) (o : Nat → Nat), i ≤ n ∧ iv = .int .i64 i ∧ Hid (wr.rowIs g 51 N (fun k => .float .f64 (o k))) ∧ Hid (∀ a b, a < i → b ≤ a → MirP (fun i j x => x = f (i * n + j)) n o a b) ∧ Hid (Fr5 w wr p0 p0 rb mb (MBox n n sa m ka) (MBox n n sa m ka) (MBox 0 0 none 0 0) (MBox n n (some ⟨g, 0, none⟩) N N))) (fun iv _ => n - (intOf iv).toNat)
  case atStart => exact ⟨0, fun _ => 0, Nat.zero_le _, rfl, HR0, fun a b ha => absurd ha (Nat.not_lt_zero a), HFR⟩
  case round =>
    obtain ⟨i, o, hi, rfl, HR, HP, HFW⟩ := hrel
    obtain ⟨y0, y1, y2⟩ := mcells_of HFW.out.2.1
    by_cases hlt : i < n
    · have hiI : (i : Int) < (n : Int) := by omega
      have HI := hid hlt
      have h12a := HM12.out
      clear hlt
      go_wp2_with fail
      go_loopw [5] (fun jv wr2 => ∃ (j : Nat) (o2 : Nat → Nat), j ≤ i + 1 ∧ jv = .int .i64 j ∧ Hid (wr2.rowIs g 51 N (fun k => .float .f64 (o2 k))) ∧ Hid (∀ a b, (a < i ∨ (a = i ∧ b < j)) → b ≤ a → MirP (fun i j x => x = f (i * n + j)) n o2 a b) ∧ Hid (Fr5 w wr2 p0 p0 rb mb (MBox n n sa m ka) (MBox n n sa m ka) (MBox 0 0 none 0 0) (MBox n n (some ⟨g, 0, none⟩) N N))) (fun jv _ => i + 1 - (intOf jv).toNat)
      case atStart => exact ⟨0, o, Nat.zero_le _, rfl, HR, fun a b hab hb => HP.out a b (by rcases hab with h | ⟨_, h⟩ <;> omega) hb, HFW⟩
      case round =>
        obtain ⟨j, o2, hj, rfl, HR2, HP2, HFW2⟩ := hrel
        by_cases hl2 : j < i + 1
        · have hjI : (j : Int) ≤ (i : Int) := by omega
          have HJ := hid hl2
          have HJN : Hid (j < n) := by have := HI.out; show _ < _; omega
          have HQ0 : Hid (Fr5 w wr.drew p0 p0 rb mb (MBox n n sa m ka) (MBox n n sa m ka) (MBox 0 0 none 0 0) (MBox n n (some ⟨g, 0, none⟩) N N)) := HFW2.out.drew
          have HRD : Hid (wr.drew.rowIs g 51 N (fun k => .float .f64 (o2 k))) := HR2.out.of_block rfl
          clear hl2
          go_wp2_with fail
          refine wp_region_held_drew (S := fun W => (W.cell? ⟨mb, 0, none⟩ = some (.int .i64 n) ∧ W.cell? ⟨mb, 1, none⟩ = some (.int .i64 n) ∧ W.cell? ⟨mb, 2, none⟩ = some (.slice (some ⟨g, 0, none⟩) N N) ∧ W.cell? ⟨p0, 0, none⟩ = some (.int .i64 n) ∧ W.cell? ⟨p0, 1, none⟩ = some (.int .i64 n) ∧ W.cell? ⟨p0, 2, none⟩ = some (.slice sa m ka)) ∧ Hid (Fr5 w W p0 p0 rb mb (MBox n n sa m ka) (MBox n n sa m ka) (MBox 0 0 none 0 0) (MBox n n (some ⟨g, 0, none⟩) N N))) (by kernel_rfl) (HKS.out _ HQ0) (fun hHeld => ?_)
          refine take_at 0 22 (.agg #[.int .i64 n, .int .i64 n, .slice (some ⟨g, 0, none⟩) N N]) rfl rfl (by kernel_rfl) (by kernel_rfl) (by kernel_rfl) (fun _ _ _ h => h) (Or.inl ⟨by rfl, fun w hSw => by (try dsimp only at hSw); go_simp⟩) (by assumption) ?_
          simp only [Act.put, List.setIfInBounds_toArray, List.set_cons_zero, List.set_cons_succ]
          refine take_at 1 23 (.int .i64 i) rfl rfl (by kernel_rfl) (by kernel_rfl) (by kernel_rfl) (fun _ _ _ h => h) (Or.inl ⟨by rfl, fun w hSw => by (try dsimp only at hSw); go_simp⟩) (by assumption) ?_
          simp only [Act.put, List.setIfInBounds_toArray, List.set_cons_zero, List.set_cons_succ]
          refine take_at 2 24 (.int .i64 j) rfl rfl (by kernel_rfl) (by kernel_rfl) (by kernel_rfl) (fun _ _ _ h => h) (Or.inl ⟨by rfl, fun w hSw => by (try dsimp only at hSw); go_simp⟩) (by assumption) ?_
          simp only [Act.put, List.setIfInBounds_toArray, List.set_cons_zero, List.set_cons_succ]
          refine take_at 3 25 (.agg #[.int .i64 n, .int .i64 n, .slice sa m ka]) rfl rfl (by kernel_rfl) (by kernel_rfl) (by kernel_rfl) (fun _ _ _ h => h) (Or.inl ⟨by rfl, fun w hSw => by (try dsimp only at hSw); go_simp⟩) (by assumption) ?_
          simp only [Act.put, List.setIfInBounds_toArray, List.set_cons_zero, List.set_cons_succ]
          refine take_at 4 26 (.int .i64 i) rfl rfl (by kernel_rfl) (by kernel_rfl) (by kernel_rfl) (fun _ _ _ h => h) (Or.inl ⟨by rfl, fun w hSw => by (try dsimp only at hSw); go_simp⟩) (by assumption) ?_
          simp only [Act.put, List.setIfInBounds_toArray, List.set_cons_zero, List.set_cons_succ]
          refine take_at 5 27 (.int .i64 j) rfl rfl (by kernel_rfl) (by kernel_rfl) (by kernel_rfl) (fun _ _ _ h => h) (Or.inl ⟨by rfl, fun w hSw => by (try dsimp only at hSw); go_simp⟩) (by assumption) ?_
          simp only [Act.put, List.setIfInBounds_toArray, List.set_cons_zero, List.set_cons_succ]
          refine wpAnyH_ready (rs := [6]) (by kernel_rfl) (by simp) ?_
          refine AllReadyH.cons (o := _) rfl (fun K hK => ?_) AllReadyH.nil
          go_simp
          refine (HAT.out _ i j HQ0.out.1 HI.out HJN.out).mono ?_
          rintro e u1 ⟨rfl, hb1⟩
          have HGu1 := hid (HQ0.out.call hb1)
          have HRu1 : Hid (u1.rowIs g 51 N (fun k => .float .f64 (o2 k))) := HRD.out.of_block (hb1.block _ HRD.out.lt)
          clear hb1
          go_wp2_with fail
          refine hK.out _ _ (HKS.out _ HGu1) (fun hHeld1 => ?_)
          clear hK K
          try simp only [Act.put, List.setIfInBounds_toArray, List.set_cons_zero, List.set_cons_succ]
          refine wpAnyH_ready (rs := [7]) (by kernel_rfl) (by simp) ?_
          refine AllReadyH.cons (o := _) rfl (fun K hK => ?_) AllReadyH.nil
          go_simp
          refine (HPUT.out _ (f (i * n + j)) i j o2 HRu1.out HI.out HJN.out).mono ?_
          rintro e u2 ⟨rfl, hu4⟩
          have hal : Below u1.heap.size u1 (u1.alloc (MBox n n (some ⟨g, 0, none⟩) N N)) := (Below.refl _ _).alloc (Nat.le_refl _) _
          have HGu2 : Hid (Fr5 w u2 p0 p0 rb mb (MBox n n sa m ka) (MBox n n sa m ka) (MBox 0 0 none 0 0) (MBox n n (some ⟨g, 0, none⟩) N N)) := by rw [hu4]; exact (HGu1.out.call hal).set HNE.out.1 HNE.out.1 HNE.out.2.1 HNE.out.2.2.1 HNE.out.2.2.2 _
          have HRu2 : Hid (u2.rowIs g 51 N (fun t => .float .f64 ((fun t => if t = i * n + j then f (i * n + j) else o2 t) t))) := by
            rw [hu4]
            refine ((HRu1.out.of_block (hal.block _ HRu1.out.lt)).set (i * n + j) _).congr (fun t _ => ?_)
            by_cases ht : t = i * n + j <;> simp [ht]
          clear hal hu4
          go_wp2_with fail
          refine hK.out _ _ (HKS.out _ HGu2) (fun hHeld2 => ?_)
          clear hK K
          try simp only [Act.put, List.setIfInBounds_toArray, List.set_cons_zero, List.set_cons_succ]
          refine wpAnyH_done (by kernel_rfl) ?_ _
          go_wp2_with fail
          have HQ1 : Hid (Fr5 w u2.drew p0 p0 rb mb (MBox n n sa m ka) (MBox n n sa m ka) (MBox 0 0 none 0 0) (MBox n n (some ⟨g, 0, none⟩) N N)) := HGu2.out.drew
          have HRE : Hid (u2.drew.rowIs g 51 N (fun t => .float .f64 ((fun t => if t = i * n + j then f (i * n + j) else o2 t) t))) := HRu2.out.of_block rfl
          refine wp_region_held_drew (S := fun W => (W.cell? ⟨mb, 0, none⟩ = some (.int .i64 n) ∧ W.cell? ⟨mb, 1, none⟩ = some (.int .i64 n) ∧ W.cell? ⟨mb, 2, none⟩ = some (.slice (some ⟨g, 0, none⟩) N N) ∧ W.cell? ⟨p0, 0, none⟩ = some (.int .i64 n) ∧ W.cell? ⟨p0, 1, none⟩ = some (.int .i64 n) ∧ W.cell? ⟨p0, 2, none⟩ = some (.slice sa m ka)) ∧ Hid (Fr5 w W p0 p0 rb mb (MBox n n sa m ka) (MBox n n sa m ka) (MBox 0 0 none 0 0) (MBox n n (some ⟨g, 0, none⟩) N N))) (by kernel_rfl) (HKS.out _ HQ1) (fun hHeld => ?_)
          refine take_at 0 30 (.agg #[.int .i64 n, .int .i64 n, .slice (some ⟨g, 0, none⟩) N N]) rfl rfl (by kernel_rfl) (by kernel_rfl) (by kernel_rfl) (fun _ _ _ h => h) (Or.inl ⟨by rfl, fun w hSw => by (try dsimp only at hSw); go_simp⟩) (by assumption) ?_
          simp only [Act.put, List.setIfInBounds_toArray, List.set_cons_zero, List.set_cons_succ]
          refine take_at 1 31 (.int .i64 j) rfl rfl (by kernel_rfl) (by kernel_rfl) (by kernel_rfl) (fun _ _ _ h => h) (Or.inl ⟨by rfl, fun w hSw => by (try dsimp only at hSw); go_simp⟩) (by assumption) ?_
          simp only [Act.put, List.setIfInBounds_toArray, List.set_cons_zero, List.set_cons_succ]
          refine take_at 2 32 (.int .i64 i) rfl rfl (by kernel_rfl) (by kernel_rfl) (by kernel_rfl) (fun _ _ _ h => h) (Or.inl ⟨by rfl, fun w hSw => by (try dsimp only at hSw); go_simp⟩) (by assumption) ?_
          simp only [Act.put, List.setIfInBounds_toArray, List.set_cons_zero, List.set_cons_succ]
          refine take_at 3 33 (.agg #[.int .i64 n, .int .i64 n, .slice sa m ka]) rfl rfl (by kernel_rfl) (by kernel_rfl) (by kernel_rfl) (fun _ _ _ h => h) (Or.inl ⟨by rfl, fun w hSw => by (try dsimp only at hSw); go_simp⟩) (by assumption) ?_
          simp only [Act.put, List.setIfInBounds_toArray, List.set_cons_zero, List.set_cons_succ]
          refine take_at 4 34 (.int .i64 i) rfl rfl (by kernel_rfl) (by kernel_rfl) (by kernel_rfl) (fun _ _ _ h => h) (Or.inl ⟨by rfl, fun w hSw => by (try dsimp only at hSw); go_simp⟩) (by assumption) ?_
          simp only [Act.put, List.setIfInBounds_toArray, List.set_cons_zero, List.set_cons_succ]
          refine take_at 5 35 (.int .i64 j) rfl rfl (by kernel_rfl) (by kernel_rfl) (by kernel_rfl) (fun _ _ _ h => h) (Or.inl ⟨by rfl, fun w hSw => by (try dsimp only at hSw); go_simp⟩) (by assumption) ?_
          simp only [Act.put, List.setIfInBounds_toArray, List.set_cons_zero, List.set_cons_succ]
          refine wpAnyH_ready (rs := [6]) (by kernel_rfl) (by simp) ?_
          refine AllReadyH.cons (o := _) rfl (fun K hK => ?_) AllReadyH.nil
          go_simp
          refine (HAT.out _ i j HQ1.out.1 HI.out HJN.out).mono ?_
          rintro e v1 ⟨rfl, hb1⟩
          have HGv1 := hid (HQ1.out.call hb1)
          have HRv1 : Hid (v1.rowIs g 51 N (fun k => .float .f64 ((fun t => if t = i * n + j then f (i * n + j) else o2 t) k))) := HRE.out.of_block (hb1.block _ HRE.out.lt)
          clear hb1
          go_wp2_with fail
          refine hK.out _ _ (HKS.out _ HGv1) (fun hHeld3 => ?_)
          clear hK K
          try simp only [Act.put, List.setIfInBounds_toArray, List.set_cons_zero, List.set_cons_succ]
          refine wpAnyH_ready (rs := [7]) (by kernel_rfl) (by simp) ?_
          refine AllReadyH.cons (o := _) rfl (fun K hK => ?_) AllReadyH.nil
          go_simp
          refine (HPUT.out _ (f (i * n + j)) j i (fun t => if t = i * n + j then f (i * n + j) else o2 t) HRv1.out HJN.out HI.out).mono ?_
          rintro e v2 ⟨rfl, hu4⟩
          have hal : Below v1.heap.size v1 (v1.alloc (MBox n n (some ⟨g, 0, none⟩) N N)) := (Below.refl _ _).alloc (Nat.le_refl _) _
          have HGv2 : Hid (Fr5 w v2 p0 p0 rb mb (MBox n n sa m ka) (MBox n n sa m ka) (MBox 0 0 none 0 0) (MBox n n (some ⟨g, 0, none⟩) N N)) := by rw [hu4]; exact (HGv1.out.call hal).set HNE.out.1 HNE.out.1 HNE.out.2.1 HNE.out.2.2.1 HNE.out.2.2.2 _
          have HRv2 : Hid (v2.rowIs g 51 N (fun t => .float .f64 ((fun t => if t = j * n + i then f (i * n + j) else (fun t => if t = i * n + j then f (i * n + j) else o2 t) t) t))) := by
            rw [hu4]
            refine ((HRv1.out.of_block (hal.block _ HRv1.out.lt)).set (j * n + i) _).congr (fun t _ => ?_)
            by_cases ht : t = j * n + i <;> simp [ht]
          clear hal hu4
          go_wp2_with fail
          refine hK.out _ _ (HKS.out _ HGv2) (fun hHeld4 => ?_)
          clear hK K
          try simp only [Act.put, List.setIfInBounds_toArray, List.set_cons_zero, List.set_cons_succ]
          refine wpAnyH_done (by kernel_rfl) ?_ _
          go_wp2_with fail
          have hj1 := HJ.out
          refine ⟨⟨j + 1, fun t => if t = j * n + i then f (i * n + j) else if t = i * n + j then f (i * n + j) else o2 t, by omega, by go_num, HRv2, fun a b hab hb => ?_, HGv2⟩, ?_⟩
          · exact mir_step hj1 HI.out rfl rfl (fun h => by subst h; exact ⟨rfl, HFL.out i j HI.out HJN.out⟩) hab hb (fun a b h1 h2 => HP2.out a b h1 h2)
          · simp [intOf]; omega
        · obtain rfl : j = i + 1 := by omega
          go_wp2_with fail
          have hi1 := HI.out
          refine ⟨⟨i + 1, o2, by omega, by go_num, HR2, fun a b ha hb => HP2.out a b (by omega) hb, HFW2⟩, ?_⟩
          simp [intOf]; omega
    · obtain rfl : i = n := by omega
      obtain ⟨m0, m1, m2⟩ := mcells_of HFW.out.2.2.2.2
      obtain ⟨b0, b1, b2⟩ := mcells_of HFW.out.2.2.2.1
      have fz := frzM HFW.out.2.2.2.1
      go_wp2_with fail
      refine bodyPost_ret (v := MV i i (some ⟨g, 0, none⟩) N N) (by simp [results, Try.results71, go_sem, b0, b1, b2, MV]) rfl ⟨⟨g, o, rfl, HNE.out.2.2.2, ?_, HP.out⟩, StoM.below HFW.out.1 (by have := hrb.out; have := hp0.out; omega)⟩
      exact HR.out.of_block (StoM.keep (Ne.symm HNE.out.2.1))
end Go.Proofs.Ythnblidkbcficaa
