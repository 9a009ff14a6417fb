
/- The document's Order. (Written by mkndm.py.) -/
import Derived.Test.YtehgiegmdpaomaaP35
import Derived.Test.YtehgiegmdpaomaaP39
import Derived.Test.YtehgiegmdpaomaaP38
namespace Go.Proofs.Ytehgiegmdpaomaa
open Go.RowKit Go.IntWalk

theorem seen_yes {ps : List Int} {x : Int} : ∀ {m k : Nat}, k < m → ps.getD k 0 = x → seenB ps m x = true
  | 0, _, h, _ => absurd h (Nat.not_lt_zero _)
  | m + 1, k, h, e => by
    show (seenB ps m x || decide (ps.getD m 0 = x)) = true
    by_cases c : k = m
    · subst c; rw [decide_eq_true e, Bool.or_true]
    · rw [seen_yes (m := m) (by omega) e, Bool.true_or]
/-- What the document's Order hands back, of a square matrix and as many places. -/
def OrdR (r : Nat) (f : Nat → Nat) (ps : List Int) (N : Nat) (e : Ending) (w' : World) : Prop := (ordB r ps r = false ∧ e = .returned (.tuple #[.agg #[.int .i64 0, .int .i64 0, .slice none 0 0], .int .i64 1])) ∨ (ordB r ps r = true ∧ ∃ (g : Nat) (o : Nat → Nat), e = .returned (.tuple #[.agg #[.int .i64 r, .int .i64 r, .slice (some ⟨g, 0, none⟩) N N], .int .i64 0]) ∧ FnM w' (some ⟨g, 0, none⟩) N N o ∧ ∀ u v, u < r → v < r → o (u * r + v) = f ((ps.getD u 0).toNat * r + (ps.getD v 0).toNat))
set_option maxRecDepth 4000 in
set_option maxHeartbeats 4000000 in
theorem rOrder_sq (r n ka pc : Nat) (sa pa : Option Addr) (f : Nat → Nat) (ps : List Int) (w : World) (ha : Gd w r r sa n ka f) (hp : I64At w pa r ps) :
    Calls Try.prog 13 #[.agg #[.int .i64 r, .int .i64 r, .slice sa n ka], .slice pa r pc] w fun e w' => OrdR r f ps (r * r) e w' ∧ Below w.heap.size w w' := by
  obtain ⟨t1, t2, t3, t4⟩ := two_b w (MBox r r sa n ka) (MBox 0 0 none 0 0)
  have l1 := ha.1
  have hnr : ((r : Int) != (r : Int)) = false := by simp
  have HATA : Hid (∀ W i j, Below w.heap.size w W → i < r → j < r → Calls Try.prog 36 #[.agg #[.int .i64 r, .int .i64 r, .slice sa n ka], .int .i64 (i : Nat), .int .i64 (j : Nat)] W fun e w' => e = .returned (.float .f64 (f (i * r + j))) ∧ Below W.heap.size W w') := fun W i j hW hi hj => rAt_fn r sa r n ka i j f W (ha.below hW).2.2.2.1 (by omega) (by omega) (by omega) (by rw [ha.2.2.1]; exact place_lt hi hj)
  have HXA : Hid (∀ i j, i < r → j < r → f (i * r + j) < 18446744073709551616) := fun i j hi hj => (gd_fin ha _ (place_lt hi hj)).1
  have HK12 : Hid (r ≤ 12) := l1
  have HU := hid hp
  have HPUT0 : Hid (∀ W (g x p q : Nat) (o : Nat → Nat), W.rowIs g 42 (r * r) (fun k => .float .f64 (o k)) → p < r → q < r → Calls Try.prog 35 #[.agg #[.int .i64 r, .int .i64 r, .slice (some ⟨g, 0, none⟩) (r * r) (r * r)], .int .i64 (p : Nat), .int .i64 (q : Nat), .float .f64 x] W fun e w' => e = .returned (.tuple #[]) ∧ w' = (W.alloc (MBox r r (some ⟨g, 0, none⟩) (r * r) (r * r))).setCell ⟨g, p * r + q, none⟩ (.float .f64 x)) := fun W g x p q o hW hp hq => by
    have hk := place_lt hp hq
    have := HK12.out
    exact Put_any r g r _ _ p q x _ W (hW.cell hk) (hW.frozen _) hW.lt (by omega) (by omega) (by omega) hk
  have HZ0 := hid (fun W => rRaw_any r r (by omega) (by omega) W)
  have HN144 : Hid (r * r ≤ 144) := Nat.mul_le_mul l1 l1
  obtain ⟨ov, hov⟩ : ∃ t : Nat → Nat → Nat, Hid ((fun u v => f ((ps.getD u 0).toNat * r + (ps.getD v 0).toNat)) = t) := ⟨_, rfl⟩
  obtain ⟨N, hN⟩ : ∃ p, Hid (r * r = p) := ⟨_, rfl⟩
  rw [hN.out] at HPUT0 HZ0 HN144
  rw [hN.out]
  obtain ⟨V, hV⟩ : ∃ V, Hid ((w.alloc (MBox r r sa n ka)).alloc (MBox 0 0 none 0 0) = V) := ⟨_, rfl⟩
  rw [hV.out] at t1 t2 t3 t4
  have hV' := hV.out
  unfold MBox at hV'
  obtain ⟨p0, hp0⟩ : ∃ t, Hid (w.heap.size = t) := ⟨_, rfl⟩
  obtain ⟨rb, hrb⟩ : ∃ t, Hid (p0 + 1 = t) := ⟨_, rfl⟩
  rw [hp0.out] at t1 t2
  rw [hrb.out] at t2
  have HF3 : Hid (Fr3 w V p0 rb (MBox r r sa n ka) (MBox 0 0 none 0 0)) := ⟨t3, t1, t2⟩
  have HRB : Hid (w.heap.size ≤ rb) := by
    have e1 := hp0.out; have e3 := hrb.out
    show _ ≤ _
    omega
  have hp0' := hp0.out
  have hrb' := hrb.out
  obtain ⟨x0, x1, x2⟩ := mcells_of t1
  obtain ⟨b0, b1, b2⟩ := mcells_of t2
  clear t1 t2 t3 t4 ha hp l1
  have hst := fstoreM
  go_enter Try.func13, Try.ntmps13
  go_wp2_with fail
  go_loopw [6] (fun iv wr => ∃ i : Nat, i ≤ r ∧ iv = .int .i64 i ∧ Hid (ordB r ps i = true) ∧ Hid (Fr3 w wr p0 rb (MBox r r sa n ka) (MBox 0 0 none 0 0))) (fun iv _ => r - (intOf iv).toNat)
  case atStart => exact ⟨0, Nat.zero_le _, rfl, rfl, HF3⟩
  case round =>
    obtain ⟨i, hi, rfl, HO, HF3⟩ := hrel
    obtain ⟨b0, b1, b2⟩ := mcells_of HF3.out.2.2
    have fz := frzM HF3.out.2.2
    have r12 := HK12.out
    by_cases hlt : i < r
    · have hiI : (i : Int) < (r : Int) := by omega
      obtain ⟨pb, po, rfl, hbl, hcl⟩ := HU.out.2.2 (by omega)
      have HBL := hid hbl
      have HCI := hid hcl
      have hci : wr.cell? ⟨pb, po + i, none⟩ = some (.int .i64 (ps.getD i 0)) := (HF3.out.1.cell (p := ⟨pb, po + i, none⟩) hbl).trans (hcl i hlt)
      have HST := hid (fun h => ord_stop (n := r) (ps := ps) (k := i) (m := r) hlt h)
      have HNX := hid (fun h1 h2 h3 => ord_next (n := r) HO.out h1 h2 h3)
      have HI := hid hlt
      obtain ⟨x, hx⟩ : ∃ t, Hid (ps.getD i 0 = t) := ⟨_, rfl⟩
      rw [hx.out] at hci HST HNX
      clear hcl hlt hbl
      by_cases h1 : x < 0
      · have HQ := hid (HST.out (fun h => by omega))
        go_wp2_with fail
        exact bodyPost_ret (v := .tuple #[MV 0 0 none 0 0, .int .i64 1]) (by simp [results, Try.results13, go_sem, b0, b1, b2, MV]) rfl ⟨Or.inl ⟨HQ.out, rfl⟩, by first | exact StoM.below (r := 0) (c := 0) (sa := none) (n := 0) (cap := 0) HF3.out.1 HRB.out | (have hbe := StoM.below (r := 0) (c := 0) (sa := none) (n := 0) (cap := 0) HF3.out.1 HRB.out; rw [hp0.out] at hbe; exact hbe)⟩
      by_cases h2 : (r : Int) ≤ x
      · have HQ := hid (HST.out (fun h => by omega))
        go_wp2_with fail
        exact bodyPost_ret (v := .tuple #[MV 0 0 none 0 0, .int .i64 1]) (by simp [results, Try.results13, go_sem, b0, b1, b2, MV]) rfl ⟨Or.inl ⟨HQ.out, rfl⟩, by first | exact StoM.below (r := 0) (c := 0) (sa := none) (n := 0) (cap := 0) HF3.out.1 HRB.out | (have hbe := StoM.below (r := 0) (c := 0) (sa := none) (n := 0) (cap := 0) HF3.out.1 HRB.out; rw [hp0.out] at hbe; exact hbe)⟩
      have H12 := hid (And.intro h1 h2)
      go_wp2_with fail
      go_loopw [7] (fun kv wr => ∃ k : Nat, k ≤ i ∧ kv = .int .i64 k ∧ Hid (seenB ps k x = false) ∧ Hid (Fr3 w wr p0 rb (MBox r r sa n ka) (MBox 0 0 none 0 0))) (fun kv _ => i - (intOf kv).toNat)
      case atStart => exact ⟨0, Nat.zero_le _, rfl, rfl, HF3⟩
      case round =>
        obtain ⟨k, hk, rfl, HS, HF4⟩ := hrel
        obtain ⟨b0, b1, b2⟩ := mcells_of HF4.out.2.2
        have fz := frzM HF4.out.2.2
        have hi1 := HI.out
        by_cases hl2 : k < i
        · have hkI : (k : Int) < (i : Int) := by omega
          have hkr : (k : Int) < (r : Int) := by omega
          have hk0 := HCI.out k (by omega)
          have hi0 := HCI.out i hi1
          rw [hx.out] at hi0
          obtain ⟨y, hy⟩ : ∃ t, Hid (ps.getD k 0 = t) := ⟨_, rfl⟩
          rw [hy.out] at hk0
          have HSN : Hid (seenB ps (k + 1) x = (seenB ps k x || decide (y = x))) := by show _ = _; rw [← hy.out]; rfl
          have HK := hid hl2
          have HSI : Hid (y = x → seenB ps i x = true) := fun h => seen_yes hl2 (by rw [hy.out]; exact h)
          have HKS : Hid (∀ W, Hid (Fr3 w W p0 rb (MBox r r sa n ka) (MBox 0 0 none 0 0)) → (W.cell? ⟨pb, po + k, none⟩ = some (.int .i64 y) ∧ W.cell? ⟨pb, po + i, none⟩ = some (.int .i64 x)) ∧ Hid (Fr3 w W p0 rb (MBox r r sa n ka) (MBox 0 0 none 0 0))) := fun W hW => ⟨⟨(hW.out.1.cell (p := ⟨pb, po + k, none⟩) HBL.out).trans hk0, (hW.out.1.cell (p := ⟨pb, po + i, none⟩) HBL.out).trans hi0⟩, hW⟩
          have HQ0 : Hid (Fr3 w wr.drew p0 rb (MBox r r sa n ka) (MBox 0 0 none 0 0)) := HF4.out.drew
          clear hk0 hi0 hl2
          by_cases hyx : y = x
          · have hyb : (y == x) = true := by simpa using hyx
            have HQ := hid (HST.out (fun h => by have := HSI.out hyx; rw [this] at h; cases h.2.2))
            have HYX := hid hyx
            clear hyx
            go_wp2_with fail
            refine wp_region_held_drew (S := fun W => (W.cell? ⟨pb, po + k, none⟩ = some (.int .i64 y) ∧ W.cell? ⟨pb, po + i, none⟩ = some (.int .i64 x)) ∧ Hid (Fr3 w W p0 rb (MBox r r sa n ka) (MBox 0 0 none 0 0))) (by kernel_rfl) (HKS.out _ HQ0) (fun hHeld => ?_)
            refine take_at 0 50 (.slice (some ⟨pb, po, none⟩) r pc) rfl rfl (by kernel_rfl) (by kernel_rfl) (by kernel_rfl) (fun _ _ _ h => h) (Or.inl ⟨by rfl, fun w hSw => by (try dsimp only at hSw); go_simp⟩) (by assumption) ?_
            simp only [Act.put, List.setIfInBounds_toArray, List.set_cons_zero, List.set_cons_succ]
            refine take_at 1 51 (.int .i64 k) rfl rfl (by kernel_rfl) (by kernel_rfl) (by kernel_rfl) (fun _ _ _ h => h) (Or.inl ⟨by rfl, fun w hSw => by (try dsimp only at hSw); go_simp⟩) (by assumption) ?_
            simp only [Act.put, List.setIfInBounds_toArray, List.set_cons_zero, List.set_cons_succ]
            refine take_at 2 52 (.pointer (some ⟨pb, po + k, none⟩)) rfl rfl (by kernel_rfl) (by kernel_rfl) (by kernel_rfl) (fun _ _ _ h => h) (Or.inl ⟨by rfl, fun w hSw => by (try dsimp only at hSw); go_simp⟩) (by assumption) ?_
            simp only [Act.put, List.setIfInBounds_toArray, List.set_cons_zero, List.set_cons_succ]
            refine take_at 3 53 (.int .i64 y) rfl rfl (by kernel_rfl) (by kernel_rfl) (by kernel_rfl) (fun _ _ _ h => h) (Or.inl ⟨by rfl, fun w hSw => by (try dsimp only at hSw); go_simp⟩) (by assumption) ?_
            simp only [Act.put, List.setIfInBounds_toArray, List.set_cons_zero, List.set_cons_succ]
            refine take_at 4 54 (.slice (some ⟨pb, po, none⟩) r pc) rfl rfl (by kernel_rfl) (by kernel_rfl) (by kernel_rfl) (fun _ _ _ h => h) (Or.inl ⟨by rfl, fun w hSw => by (try dsimp only at hSw); go_simp⟩) (by assumption) ?_
            simp only [Act.put, List.setIfInBounds_toArray, List.set_cons_zero, List.set_cons_succ]
            refine take_at 5 55 (.int .i64 i) rfl rfl (by kernel_rfl) (by kernel_rfl) (by kernel_rfl) (fun _ _ _ h => h) (Or.inl ⟨by rfl, fun w hSw => by (try dsimp only at hSw); go_simp⟩) (by assumption) ?_
            simp only [Act.put, List.setIfInBounds_toArray, List.set_cons_zero, List.set_cons_succ]
            refine take_at 6 56 (.pointer (some ⟨pb, po + i, none⟩)) rfl rfl (by kernel_rfl) (by kernel_rfl) (by kernel_rfl) (fun _ _ _ h => h) (Or.inl ⟨by rfl, fun w hSw => by (try dsimp only at hSw); go_simp⟩) (by assumption) ?_
            simp only [Act.put, List.setIfInBounds_toArray, List.set_cons_zero, List.set_cons_succ]
            refine take_at 7 57 (.int .i64 x) rfl rfl (by kernel_rfl) (by kernel_rfl) (by kernel_rfl) (fun _ _ _ h => h) (Or.inl ⟨by rfl, fun w hSw => by (try dsimp only at hSw); go_simp⟩) (by assumption) ?_
            simp only [Act.put, List.setIfInBounds_toArray, List.set_cons_zero, List.set_cons_succ]
            refine take_at 8 58 (.bool true) rfl rfl (by kernel_rfl) (by kernel_rfl) (by kernel_rfl) (fun _ _ _ h => h) (Or.inl ⟨by rfl, fun w hSw => by (try dsimp only at hSw); go_simp⟩) (by assumption) ?_
            simp only [Act.put, List.setIfInBounds_toArray, List.set_cons_zero, List.set_cons_succ]
            refine wpAnyH_done (by kernel_rfl) ?_ _
            go_wp2_with fail
            exact bodyPost_ret (v := .tuple #[MV 0 0 none 0 0, .int .i64 1]) (by simp [results, Try.results13, go_sem, b0, b1, b2, MV]) rfl ⟨Or.inl ⟨HQ.out, rfl⟩, by first | exact StoM.below (r := 0) (c := 0) (sa := none) (n := 0) (cap := 0) HQ0.out.1 HRB.out | (have hbe := StoM.below (r := 0) (c := 0) (sa := none) (n := 0) (cap := 0) HQ0.out.1 HRB.out; rw [hp0.out] at hbe; exact hbe)⟩
          · have hyb : (y == x) = false := by simpa using hyx
            have HS2 : Hid (seenB ps (k + 1) x = false) := by show _ = _; rw [HSN.out, HS.out, decide_eq_false hyx]; rfl
            clear hyx HSN HSI
            go_wp2_with fail
            refine wp_region_held_drew (S := fun W => (W.cell? ⟨pb, po + k, none⟩ = some (.int .i64 y) ∧ W.cell? ⟨pb, po + i, none⟩ = some (.int .i64 x)) ∧ Hid (Fr3 w W p0 rb (MBox r r sa n ka) (MBox 0 0 none 0 0))) (by kernel_rfl) (HKS.out _ HQ0) (fun hHeld => ?_)
            refine take_at 0 50 (.slice (some ⟨pb, po, none⟩) r pc) rfl rfl (by kernel_rfl) (by kernel_rfl) (by kernel_rfl) (fun _ _ _ h => h) (Or.inl ⟨by rfl, fun w hSw => by (try dsimp only at hSw); go_simp⟩) (by assumption) ?_
            simp only [Act.put, List.setIfInBounds_toArray, List.set_cons_zero, List.set_cons_succ]
            refine take_at 1 51 (.int .i64 k) rfl rfl (by kernel_rfl) (by kernel_rfl) (by kernel_rfl) (fun _ _ _ h => h) (Or.inl ⟨by rfl, fun w hSw => by (try dsimp only at hSw); go_simp⟩) (by assumption) ?_
            simp only [Act.put, List.setIfInBounds_toArray, List.set_cons_zero, List.set_cons_succ]
            refine take_at 2 52 (.pointer (some ⟨pb, po + k, none⟩)) rfl rfl (by kernel_rfl) (by kernel_rfl) (by kernel_rfl) (fun _ _ _ h => h) (Or.inl ⟨by rfl, fun w hSw => by (try dsimp only at hSw); go_simp⟩) (by assumption) ?_
            simp only [Act.put, List.setIfInBounds_toArray, List.set_cons_zero, List.set_cons_succ]
            refine take_at 3 53 (.int .i64 y) rfl rfl (by kernel_rfl) (by kernel_rfl) (by kernel_rfl) (fun _ _ _ h => h) (Or.inl ⟨by rfl, fun w hSw => by (try dsimp only at hSw); go_simp⟩) (by assumption) ?_
            simp only [Act.put, List.setIfInBounds_toArray, List.set_cons_zero, List.set_cons_succ]
            refine take_at 4 54 (.slice (some ⟨pb, po, none⟩) r pc) rfl rfl (by kernel_rfl) (by kernel_rfl) (by kernel_rfl) (fun _ _ _ h => h) (Or.inl ⟨by rfl, fun w hSw => by (try dsimp only at hSw); go_simp⟩) (by assumption) ?_
            simp only [Act.put, List.setIfInBounds_toArray, List.set_cons_zero, List.set_cons_succ]
            refine take_at 5 55 (.int .i64 i) rfl rfl (by kernel_rfl) (by kernel_rfl) (by kernel_rfl) (fun _ _ _ h => h) (Or.inl ⟨by rfl, fun w hSw => by (try dsimp only at hSw); go_simp⟩) (by assumption) ?_
            simp only [Act.put, List.setIfInBounds_toArray, List.set_cons_zero, List.set_cons_succ]
            refine take_at 6 56 (.pointer (some ⟨pb, po + i, none⟩)) rfl rfl (by kernel_rfl) (by kernel_rfl) (by kernel_rfl) (fun _ _ _ h => h) (Or.inl ⟨by rfl, fun w hSw => by (try dsimp only at hSw); go_simp⟩) (by assumption) ?_
            simp only [Act.put, List.setIfInBounds_toArray, List.set_cons_zero, List.set_cons_succ]
            refine take_at 7 57 (.int .i64 x) rfl rfl (by kernel_rfl) (by kernel_rfl) (by kernel_rfl) (fun _ _ _ h => h) (Or.inl ⟨by rfl, fun w hSw => by (try dsimp only at hSw); go_simp⟩) (by assumption) ?_
            simp only [Act.put, List.setIfInBounds_toArray, List.set_cons_zero, List.set_cons_succ]
            refine take_at 8 58 (.bool false) rfl rfl (by kernel_rfl) (by kernel_rfl) (by kernel_rfl) (fun _ _ _ h => h) (Or.inl ⟨by rfl, fun w hSw => by (try dsimp only at hSw); go_simp⟩) (by assumption) ?_
            simp only [Act.put, List.setIfInBounds_toArray, List.set_cons_zero, List.set_cons_succ]
            refine wpAnyH_done (by kernel_rfl) ?_ _
            go_wp2_with fail
            have hk1 := HK.out
            refine ⟨⟨k + 1, by omega, by go_num, HS2, HQ0⟩, ?_⟩
            simp [intOf]; omega
        · obtain rfl : i = k := by omega
          have HO2 := hid (HNX.out (by have := H12.out; omega) (by have := H12.out; omega) HS.out)
          go_wp2_with fail
          have hi1 := HI.out
          refine ⟨⟨i + 1, by omega, by go_num, HO2, HF4⟩, ?_⟩
          simp [intOf]; omega
    · obtain rfl : r = i := by omega
      have HORD := hid HO.out
      obtain ⟨x0, x1, x2⟩ := mcells_of HF3.out.2.1
      clear HO
      go_wp2_with fail
      refine (HZ0.out _).mono ?_
      rintro e w1 ⟨rfl, h1, h2⟩
      obtain ⟨g, hg⟩ : ∃ t, Hid (wr.heap.size + 1 = t) := ⟨_, rfl⟩
      rw [hg.out] at h1
      rw [hg.out]
      have HPUT := hid (fun W x i j o => HPUT0.out W g x i j o)
      have hal : Below w1.heap.size w1 (w1.alloc (MBox r r (some ⟨g, 0, none⟩) N N)) := (Below.refl _ _).alloc (Nat.le_refl _) _
      have hlt : g < w1.heap.size := h1.lt
      obtain ⟨mb, hmb⟩ : ∃ t, Hid (w1.heap.size = t) := ⟨_, rfl⟩
      have HFR : Hid (Fr5 w (w1.alloc (MBox r r (some ⟨g, 0, none⟩) N N)) p0 p0 rb mb (MBox r r sa n ka) (MBox r r sa n ka) (MBox 0 0 none 0 0) (MBox r r (some ⟨g, 0, none⟩) N N)) := by
        refine ⟨(HF3.out.1.trans (h2.mono HF3.out.1.size)).trans (hal.mono (Nat.le_trans HF3.out.1.size h2.size)), blkM (blkM HF3.out.2.1 h2) hal, blkM (blkM HF3.out.2.1 h2) hal, blkM (blkM HF3.out.2.2 h2) hal, ?_⟩
        rw [← hmb.out]
        exact nblkM _ _
      have HR0 : Hid ((w1.alloc (MBox r r (some ⟨g, 0, none⟩) N N)).rowIs g 42 N (fun _ => .float .f64 0)) := h1.of_block (hal.block _ hlt)
      have HNE : Hid (p0 ≠ g ∧ p0 ≠ g ∧ rb ≠ g ∧ mb ≠ g ∧ w.heap.size ≤ g) := by
        have e1 := hp0.out; have e3 := hrb.out; have e4 := hmb.out; have e5 := hg.out
        have e6 := (Array.getElem?_eq_some_iff.1 HF3.out.2.2).1
        show _ ∧ _ ∧ _ ∧ _ ∧ _
        omega
      obtain ⟨V1, hV1⟩ : ∃ V, Hid (w1.alloc (MBox r r (some ⟨g, 0, none⟩) N N) = V) := ⟨_, rfl⟩
      rw [hV1.out] at HFR HR0
      have hW1 := hV1.out
      have hmb' := hmb.out
      unfold MBox at hW1
      unfold MV
      clear h1 h2 hal hlt
      go_wp2_with fail
      go_loopw [9] (fun iv wr => ∃ (i : Nat) (o : Nat → Nat), i ≤ r ∧ iv = .int .i64 i ∧ Hid (wr.rowIs g 42 N (fun k => .float .f64 (o k))) ∧ Hid (∀ u v, u < i → v < r → o (u * r + v) = ov u v) ∧ Hid (∀ k, o k < 18446744073709551616) ∧ Hid (Fr5 w wr p0 p0 rb mb (MBox r r sa n ka) (MBox r r sa n ka) (MBox 0 0 none 0 0) (MBox r r (some ⟨g, 0, none⟩) N N))) (fun iv _ => r - (intOf iv).toNat)
      case atStart => exact ⟨0, fun _ => 0, Nat.zero_le _, rfl, HR0, fun u v h => absurd h (Nat.not_lt_zero u), fun _ => by show 0 < 18446744073709551616; decide, HFR⟩
      case round =>
        obtain ⟨i, o, hi, rfl, HR, HP, HLO, HFW⟩ := hrel
        obtain ⟨x0, x1, x2⟩ := mcells_of HFW.out.2.1
        have r12 := HK12.out
        by_cases hlt : i < r
        · have hiI : (i : Int) < (r : Int) := by omega
          have HI := hid hlt
          obtain ⟨pb, po, rfl, hbl, hcl⟩ := HU.out.2.2 (by omega)
          have HBL := hid hbl
          have HCI : Hid (∀ k c : Nat, k < r → ps.getD k 0 = (c : Int) → w.cell? ⟨pb, po + k, none⟩ = some (.int .i64 (c : Int))) := fun k c hk hc => by rw [← hc]; exact hcl k hk
          clear hlt hbl hcl
          go_wp2_with fail
          go_loopw [10] (fun jv wr2 => ∃ (j : Nat) (o2 : Nat → Nat), j ≤ r ∧ jv = .int .i64 j ∧ Hid (wr2.rowIs g 42 N (fun k => .float .f64 (o2 k))) ∧ Hid (∀ u v, (u < i ∨ (u = i ∧ v < j)) → v < r → o2 (u * r + v) = ov u v) ∧ Hid (∀ k, o2 k < 18446744073709551616) ∧ Hid (Fr5 w wr2 p0 p0 rb mb (MBox r r sa n ka) (MBox r r sa n ka) (MBox 0 0 none 0 0) (MBox r r (some ⟨g, 0, none⟩) N N))) (fun jv _ => r - (intOf jv).toNat)
          case atStart => exact ⟨0, o, Nat.zero_le _, rfl, HR, fun u v hab hb => HP.out u v (by rcases hab with h | ⟨_, h⟩ <;> omega) hb, HLO, HFW⟩
          case round =>
            obtain ⟨j, o2, hj, rfl, HR2, HP2, HLO2, HFW2⟩ := hrel
            obtain ⟨x0, x1, x2⟩ := mcells_of HFW2.out.2.1
            by_cases hl2 : j < r
            · have hjI : (j : Int) < (r : Int) := by omega
              have HJ := hid hl2
              have HQ0 : Hid (Fr5 w wr.drew p0 p0 rb mb (MBox r r sa n ka) (MBox r r sa n ka) (MBox 0 0 none 0 0) (MBox r r (some ⟨g, 0, none⟩) N N)) := HFW2.out.drew
              have HRD : Hid (wr.drew.rowIs g 42 N (fun k => .float .f64 (o2 k))) := HR2.out.of_block rfl
              have HJK : Hid (j < r) := hl2
              obtain ⟨a, ea⟩ : ∃ a : Nat, ps.getD i 0 = (a : Int) := Int.eq_ofNat_of_zero_le (ord_at HORD.out HI.out).1
              obtain ⟨b, eb⟩ : ∃ b : Nat, ps.getD j 0 = (b : Int) := Int.eq_ofNat_of_zero_le (ord_at HORD.out hl2).1
              have hla : a < r := by have := (ord_at HORD.out HI.out).2; omega
              have hlb : b < r := by have := (ord_at HORD.out hl2).2; omega
              have HATQ := hid (fun W hW => HATA.out W a b hW hla hlb)
              have HXX := hid (HXA.out a b hla hlb)
              have HXV : Hid (f (a * r + b) = ov i j) := by rw [← hov.out]; show _ = _; dsimp only; rw [ea, eb, Int.toNat_natCast a, Int.toNat_natCast b]
              obtain ⟨x, hx⟩ : ∃ t, Hid (f (a * r + b) = t) := ⟨_, rfl⟩
              rw [hx.out] at HXX HATQ HXV
              have hcA := HCI.out i a HI.out ea
              have hcB := HCI.out j b hl2 eb
              have HKS : Hid (∀ W, Hid (Fr5 w W p0 p0 rb mb (MBox r r sa n ka) (MBox r r sa n ka) (MBox 0 0 none 0 0) (MBox r r (some ⟨g, 0, none⟩) N N)) → (W.cell? ⟨mb, 0, none⟩ = some (.int .i64 r) ∧ W.cell? ⟨mb, 1, none⟩ = some (.int .i64 r) ∧ W.cell? ⟨mb, 2, none⟩ = some (.slice (some ⟨g, 0, none⟩) N N) ∧ W.cell? ⟨p0, 0, none⟩ = some (.int .i64 r) ∧ W.cell? ⟨p0, 1, none⟩ = some (.int .i64 r) ∧ W.cell? ⟨p0, 2, none⟩ = some (.slice sa n ka) ∧ W.cell? ⟨pb, po + i, none⟩ = some (.int .i64 a) ∧ W.cell? ⟨pb, po + j, none⟩ = some (.int .i64 b)) ∧ Hid (Fr5 w W p0 p0 rb mb (MBox r r sa n ka) (MBox r r sa n ka) (MBox 0 0 none 0 0) (MBox r r (some ⟨g, 0, none⟩) N N))) := fun W hW => by
                obtain ⟨a0, a1, a2⟩ := mcells_of hW.out.2.1
                obtain ⟨n0, n1, n2⟩ := mcells_of hW.out.2.2.2.2
                exact ⟨⟨n0, n1, n2, a0, a1, a2, (hW.out.1.cell (p := ⟨pb, po + i, none⟩) HBL.out).trans hcA, (hW.out.1.cell (p := ⟨pb, po + j, none⟩) HBL.out).trans hcB⟩, hW⟩
              clear hla hlb ea eb hcA hcB
              clear hl2
              go_wp2_with fail
              refine wp_region_held_drew (S := fun W => (W.cell? ⟨mb, 0, none⟩ = some (.int .i64 r) ∧ W.cell? ⟨mb, 1, none⟩ = some (.int .i64 r) ∧ W.cell? ⟨mb, 2, none⟩ = some (.slice (some ⟨g, 0, none⟩) N N) ∧ W.cell? ⟨p0, 0, none⟩ = some (.int .i64 r) ∧ W.cell? ⟨p0, 1, none⟩ = some (.int .i64 r) ∧ W.cell? ⟨p0, 2, none⟩ = some (.slice sa n ka) ∧ W.cell? ⟨pb, po + i, none⟩ = some (.int .i64 a) ∧ W.cell? ⟨pb, po + j, none⟩ = some (.int .i64 b)) ∧ Hid (Fr5 w W p0 p0 rb mb (MBox r r sa n ka) (MBox r r sa n ka) (MBox 0 0 none 0 0) (MBox r r (some ⟨g, 0, none⟩) N N))) (by kernel_rfl) (HKS.out _ HQ0) (fun hHeld => ?_)
              refine take_at 0 77 (.agg #[.int .i64 r, .int .i64 r, .slice (some ⟨g, 0, none⟩) N N]) rfl rfl (by kernel_rfl) (by kernel_rfl) (by kernel_rfl) (fun _ _ _ h => h) (Or.inl ⟨by rfl, fun w hSw => by (try dsimp only at hSw); go_simp⟩) (by assumption) ?_
              simp only [Act.put, List.setIfInBounds_toArray, List.set_cons_zero, List.set_cons_succ]
              refine take_at 1 78 (.int .i64 i) rfl rfl (by kernel_rfl) (by kernel_rfl) (by kernel_rfl) (fun _ _ _ h => h) (Or.inl ⟨by rfl, fun w hSw => by (try dsimp only at hSw); go_simp⟩) (by assumption) ?_
              simp only [Act.put, List.setIfInBounds_toArray, List.set_cons_zero, List.set_cons_succ]
              refine take_at 2 79 (.int .i64 j) rfl rfl (by kernel_rfl) (by kernel_rfl) (by kernel_rfl) (fun _ _ _ h => h) (Or.inl ⟨by rfl, fun w hSw => by (try dsimp only at hSw); go_simp⟩) (by assumption) ?_
              simp only [Act.put, List.setIfInBounds_toArray, List.set_cons_zero, List.set_cons_succ]
              refine take_at 3 80 (.agg #[.int .i64 r, .int .i64 r, .slice sa n ka]) rfl rfl (by kernel_rfl) (by kernel_rfl) (by kernel_rfl) (fun _ _ _ h => h) (Or.inl ⟨by rfl, fun w hSw => by (try dsimp only at hSw); go_simp⟩) (by assumption) ?_
              simp only [Act.put, List.setIfInBounds_toArray, List.set_cons_zero, List.set_cons_succ]
              refine take_at 4 81 (.slice (some ⟨pb, po, none⟩) r pc) rfl rfl (by kernel_rfl) (by kernel_rfl) (by kernel_rfl) (fun _ _ _ h => h) (Or.inl ⟨by rfl, fun w hSw => by (try dsimp only at hSw); go_simp⟩) (by assumption) ?_
              simp only [Act.put, List.setIfInBounds_toArray, List.set_cons_zero, List.set_cons_succ]
              refine take_at 5 82 (.int .i64 i) rfl rfl (by kernel_rfl) (by kernel_rfl) (by kernel_rfl) (fun _ _ _ h => h) (Or.inl ⟨by rfl, fun w hSw => by (try dsimp only at hSw); go_simp⟩) (by assumption) ?_
              simp only [Act.put, List.setIfInBounds_toArray, List.set_cons_zero, List.set_cons_succ]
              refine take_at 6 83 (.pointer (some ⟨pb, po + i, none⟩)) rfl rfl (by kernel_rfl) (by kernel_rfl) (by kernel_rfl) (fun _ _ _ h => h) (Or.inl ⟨by rfl, fun w hSw => by (try dsimp only at hSw); go_simp⟩) (by assumption) ?_
              simp only [Act.put, List.setIfInBounds_toArray, List.set_cons_zero, List.set_cons_succ]
              refine take_at 7 84 (.int .i64 a) rfl rfl (by kernel_rfl) (by kernel_rfl) (by kernel_rfl) (fun _ _ _ h => h) (Or.inl ⟨by rfl, fun w hSw => by (try dsimp only at hSw); go_simp⟩) (by assumption) ?_
              simp only [Act.put, List.setIfInBounds_toArray, List.set_cons_zero, List.set_cons_succ]
              refine take_at 8 85 (.slice (some ⟨pb, po, none⟩) r pc) rfl rfl (by kernel_rfl) (by kernel_rfl) (by kernel_rfl) (fun _ _ _ h => h) (Or.inl ⟨by rfl, fun w hSw => by (try dsimp only at hSw); go_simp⟩) (by assumption) ?_
              simp only [Act.put, List.setIfInBounds_toArray, List.set_cons_zero, List.set_cons_succ]
              refine take_at 9 86 (.int .i64 j) rfl rfl (by kernel_rfl) (by kernel_rfl) (by kernel_rfl) (fun _ _ _ h => h) (Or.inl ⟨by rfl, fun w hSw => by (try dsimp only at hSw); go_simp⟩) (by assumption) ?_
              simp only [Act.put, List.setIfInBounds_toArray, List.set_cons_zero, List.set_cons_succ]
              refine take_at 10 87 (.pointer (some ⟨pb, po + j, none⟩)) rfl rfl (by kernel_rfl) (by kernel_rfl) (by kernel_rfl) (fun _ _ _ h => h) (Or.inl ⟨by rfl, fun w hSw => by (try dsimp only at hSw); go_simp⟩) (by assumption) ?_
              simp only [Act.put, List.setIfInBounds_toArray, List.set_cons_zero, List.set_cons_succ]
              refine take_at 11 88 (.int .i64 b) rfl rfl (by kernel_rfl) (by kernel_rfl) (by kernel_rfl) (fun _ _ _ h => h) (Or.inl ⟨by rfl, fun w hSw => by (try dsimp only at hSw); go_simp⟩) (by assumption) ?_
              simp only [Act.put, List.setIfInBounds_toArray, List.set_cons_zero, List.set_cons_succ]
              refine wpAnyH_ready (rs := [12]) (by kernel_rfl) (by simp) ?_
              refine AllReadyH.cons (o := _) rfl (fun K hK => ?_) AllReadyH.nil
              go_simp
              refine (HATQ.out _ HQ0.out.1).mono ?_
              rintro e u1 ⟨rfl, hb1⟩
              have HG1 := hid (HQ0.out.call hb1)
              have HR1 : Hid (u1.rowIs g 42 N (fun k => .float .f64 (o2 k))) := HRD.out.of_block (hb1.block _ HRD.out.lt)
              clear hb1
              go_wp2_with fail
              refine hK.out _ _ (HKS.out _ HG1) (fun hHeld1 => ?_)
              clear hK K
              try simp only [Act.put, List.setIfInBounds_toArray, List.set_cons_zero, List.set_cons_succ]
              refine wpAnyH_ready (rs := [13]) (by kernel_rfl) (by simp) ?_
              refine AllReadyH.cons (o := _) rfl (fun K hK => ?_) AllReadyH.nil
              go_simp
              refine (HPUT.out _ x i j o2 HR1.out HI.out HJK.out).mono ?_
              rintro e u4 ⟨rfl, hu4⟩
              have hal : Below u1.heap.size u1 (u1.alloc (MBox r r (some ⟨g, 0, none⟩) N N)) := (Below.refl _ _).alloc (Nat.le_refl _) _
              have HG4 : Hid (Fr5 w u4 p0 p0 rb mb (MBox r r sa n ka) (MBox r r sa n ka) (MBox 0 0 none 0 0) (MBox r r (some ⟨g, 0, none⟩) N N)) := by rw [hu4]; exact (HG1.out.call hal).set HNE.out.1 HNE.out.2.1 HNE.out.2.2.1 HNE.out.2.2.2.1 HNE.out.2.2.2.2 _
              have HR4 : Hid (u4.rowIs g 42 N (fun t => .float .f64 (if t = i * r + j then x else o2 t))) := by
                rw [hu4]
                refine ((HR1.out.of_block (hal.block _ HR1.out.lt)).set (i * r + j) _).congr (fun t _ => ?_)
                by_cases ht : t = i * r + j <;> simp [ht]
              clear hal hu4
              go_wp2_with fail
              refine hK.out _ _ (HKS.out _ HG4) (fun hHeld2 => ?_)
              clear hK K
              try simp only [Act.put, List.setIfInBounds_toArray, List.set_cons_zero, List.set_cons_succ]
              refine wpAnyH_done (by kernel_rfl) ?_ _
              go_wp2_with fail
              have hj1 := HJ.out
              have hi1 := HI.out
              have hk1 := HJK.out
              refine ⟨⟨j + 1, fun t => if t = i * r + j then x else o2 t, by omega, by go_num, HR4, fun u v hab hb => ?_, fun k => ?_, HG4⟩, ?_⟩
              · dsimp only
                by_cases h : u * r + v = i * r + j
                · obtain ⟨eb, ea⟩ := place_ne hb hk1 h
                  subst ea eb
                  rw [if_pos rfl]
                  exact HXV.out
                · rw [if_neg h]
                  refine HP2.out u v ?_ hb
                  rcases hab with h1 | ⟨h1, h2⟩
                  · exact Or.inl h1
                  · have : v ≠ j := fun hc => h (by rw [h1, hc])
                    exact Or.inr ⟨h1, by omega⟩
              · dsimp only
                by_cases h : k = i * r + j
                · rw [if_pos h]; exact HXX.out
                · rw [if_neg h]; exact HLO2.out k
              · simp [intOf]; omega
            · obtain rfl : r = j := by omega
              go_wp2_with fail
              have hi1 := HI.out
              refine ⟨⟨i + 1, o2, by omega, by go_num, HR2, fun u v ha hb => HP2.out u v (by omega) hb, HLO2, HFW2⟩, ?_⟩
              simp [intOf]; omega
        · obtain rfl : r = i := by omega
          obtain ⟨m0, m1, m2⟩ := mcells_of HFW.out.2.2.2.2
          obtain ⟨b0, b1, b2⟩ := mcells_of HFW.out.2.2.2.1
          have fz := frzM HFW.out.2.2.2.1
          have HFN := hid (rowF (HR.out) (fun k _ => HLO.out k) HN144.out)
          have HPV : Hid (∀ u v, u < r → v < r → o (u * r + v) = f ((ps.getD u 0).toNat * r + (ps.getD v 0).toNat)) := fun u v hu hv => by have := HP.out u v hu hv; rw [← hov.out] at this; exact this
          go_wp2_with fail
          exact bodyPost_ret (v := .tuple #[.agg #[.int .i64 r, .int .i64 r, .slice (some ⟨g, 0, none⟩) N N], .int .i64 0]) (by simp [results, Try.results13, go_sem, b0, b1, b2]) rfl ⟨Or.inr ⟨HORD.out, g, o, rfl, StoM.fn HFN.out HFW.out.2.2.2.1, HPV.out⟩, StoM.below HFW.out.1 HRB.out⟩
set_option maxRecDepth 4000 in
set_option maxHeartbeats 1000000 in
theorem rOrder_len (rx cx : Int) (n ka m pc : Nat) (sa pa : Option Addr) (w : World) (hl : ¬ (rx = cx ∧ (m : Int) = rx)) :
    Calls Try.prog 13 #[.agg #[.int .i64 rx, .int .i64 cx, .slice sa n ka], .slice pa m pc] w fun e w' => e = .returned (NonM 3) ∧ Below w.heap.size w w' := by
  obtain ⟨t1, t2, t3, t4⟩ := two_b w (MBox rx cx sa n ka) (MBox 0 0 none 0 0)
  obtain ⟨V, hV⟩ : ∃ V, Hid ((w.alloc (MBox rx cx sa n ka)).alloc (MBox 0 0 none 0 0) = V) := ⟨_, rfl⟩
  rw [hV.out] at t1 t2 t3 t4
  have hV' := hV.out
  have HB := hid t3
  obtain ⟨x0, x1, x2⟩ := mcells_of t1
  obtain ⟨b0, b1, b2⟩ := mcells_of t2
  have fz := frzM t2
  unfold MBox at hV'
  unfold NonM
  unfold MV
  clear t1 t2 t3 t4
  by_cases h1 : rx = cx
  · have hne : (rx != cx) = false := by simpa using h1
    have hnm : ((m : Int) != rx) = true := by simp; exact fun h => hl ⟨h1, h⟩
    clear hl h1
    go_enter Try.func13, Try.ntmps13
    go_wp2_with fail
    exact bodyPost_ret (v := .tuple #[MV 0 0 none 0 0, .int .i64 3]) (by simp [results, Try.results13, go_sem, b0, b1, b2, MV]) rfl ⟨rfl, StoM.below HB.out (by omega)⟩
  · have hne : (rx != cx) = true := by simpa using h1
    clear hl h1
    go_enter Try.func13, Try.ntmps13
    go_wp2_with fail
    exact bodyPost_ret (v := .tuple #[MV 0 0 none 0 0, .int .i64 3]) (by simp [results, Try.results13, go_sem, b0, b1, b2, MV]) rfl ⟨rfl, StoM.below HB.out (by omega)⟩
end Go.Proofs.Ytehgiegmdpaomaa
