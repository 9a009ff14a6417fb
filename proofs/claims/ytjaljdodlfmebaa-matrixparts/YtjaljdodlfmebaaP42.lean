
/- The document's Block; Block of any matrix. (Written by mkndc.py.) -/
import Derived.Test.YtjaljdodlfmebaaP41
namespace Go.Proofs.Ytjaljdodlfmebaa
open Go.RowKit Go.IntWalk

set_option maxRecDepth 4000 in
set_option maxHeartbeats 2000000 in
theorem rBlock_no (r c : Int) (sa : Option Addr) (n ka : Nat) (i j a b : Int) (w : World) (hr : 0 ≤ r ∧ r ≤ 12) (hc : 0 ≤ c ∧ c ≤ 12) (hE : ¬ (0 ≤ i ∧ 0 ≤ j ∧ 0 ≤ a ∧ 0 ≤ b ∧ i + a ≤ r ∧ j + b ≤ c)) :
    Calls Try.prog 12 #[.agg #[.int .i64 r, .int .i64 c, .slice sa n ka], .int .i64 i, .int .i64 j, .int .i64 a, .int .i64 b] w fun e w' => e = .returned (NonM 1) ∧ Below w.heap.size w w' := by
  obtain ⟨t1, t2, t3, t4⟩ := two_b w (MBox r c sa n ka) (MBox 0 0 none 0 0)
  obtain ⟨V, hV⟩ : ∃ V, Hid ((w.alloc (MBox r c sa n ka)).alloc (MBox 0 0 none 0 0) = V) := ⟨_, rfl⟩
  rw [hV.out] at t1 t2 t3 t4
  have hV' := hV.out
  have HB := hid t3
  obtain ⟨x0, x1, x2⟩ := mcells_of t1
  obtain ⟨r0, r1, r2⟩ := mcells_of t2
  have fz := frzM t2
  unfold MBox at hV'
  unfold NonM
  unfold MV
  obtain ⟨s1, s2⟩ := hr
  obtain ⟨s3, s4⟩ := hc
  have HOK := hid hE
  clear t1 t2 t3 t4 hE
  by_cases d1 : i < 0
  · clear s1 s2 s3 s4
    go_enter Try.func12, Try.ntmps12
    go_wp2_with fail
    exact bodyPost_ret (v := .tuple #[MV 0 0 none 0 0, .int .i64 1]) (by simp [results, Try.results12, go_sem, r0, r1, r2, MV]) rfl ⟨rfl, StoM.below HB.out (by omega)⟩
  by_cases d2 : j < 0
  · clear s1 s2 s3 s4
    go_enter Try.func12, Try.ntmps12
    go_wp2_with fail
    exact bodyPost_ret (v := .tuple #[MV 0 0 none 0 0, .int .i64 1]) (by simp [results, Try.results12, go_sem, r0, r1, r2, MV]) rfl ⟨rfl, StoM.below HB.out (by omega)⟩
  by_cases d3 : a < 0
  · clear s1 s2 s3 s4
    go_enter Try.func12, Try.ntmps12
    go_wp2_with fail
    exact bodyPost_ret (v := .tuple #[MV 0 0 none 0 0, .int .i64 1]) (by simp [results, Try.results12, go_sem, r0, r1, r2, MV]) rfl ⟨rfl, StoM.below HB.out (by omega)⟩
  by_cases d4 : b < 0
  · clear s1 s2 s3 s4
    go_enter Try.func12, Try.ntmps12
    go_wp2_with fail
    exact bodyPost_ret (v := .tuple #[MV 0 0 none 0 0, .int .i64 1]) (by simp [results, Try.results12, go_sem, r0, r1, r2, MV]) rfl ⟨rfl, StoM.below HB.out (by omega)⟩
  by_cases d5 : r < i
  · clear s1 s2 s3 s4
    go_enter Try.func12, Try.ntmps12
    go_wp2_with fail
    exact bodyPost_ret (v := .tuple #[MV 0 0 none 0 0, .int .i64 1]) (by simp [results, Try.results12, go_sem, r0, r1, r2, MV]) rfl ⟨rfl, StoM.below HB.out (by omega)⟩
  by_cases d6 : c < j
  · clear s1 s2 s3 s4
    go_enter Try.func12, Try.ntmps12
    go_wp2_with fail
    exact bodyPost_ret (v := .tuple #[MV 0 0 none 0 0, .int .i64 1]) (by simp [results, Try.results12, go_sem, r0, r1, r2, MV]) rfl ⟨rfl, StoM.below HB.out (by omega)⟩
  obtain ⟨ri, hri⟩ : ∃ t, Hid (r - i = t) := ⟨_, rfl⟩
  obtain ⟨cj, hcj⟩ : ∃ t, Hid (c - j = t) := ⟨_, rfl⟩
  have ri' := hri.out
  have cj' := hcj.out
  have m1 : -9223372036854775808 ≤ ri := by omega
  have m2 : ri ≤ 9223372036854775807 := by omega
  have m3 : -9223372036854775808 ≤ cj := by omega
  have m4 : cj ≤ 9223372036854775807 := by omega
  by_cases d7 : ri < a
  · clear s1 s2 s3 s4
    go_enter Try.func12, Try.ntmps12
    go_wp2_with fail
    exact bodyPost_ret (v := .tuple #[MV 0 0 none 0 0, .int .i64 1]) (by simp [results, Try.results12, go_sem, r0, r1, r2, MV]) rfl ⟨rfl, StoM.below HB.out (by omega)⟩
  have d8 : cj < b := by
    apply Classical.byContradiction
    intro hq
    exact HOK.out (by omega)
  clear s1 s2 s3 s4
  go_enter Try.func12, Try.ntmps12
  go_wp2_with fail
  exact bodyPost_ret (v := .tuple #[MV 0 0 none 0 0, .int .i64 1]) (by simp [results, Try.results12, go_sem, r0, r1, r2, MV]) rfl ⟨rfl, StoM.below HB.out (by omega)⟩
set_option maxRecDepth 4000 in
set_option maxHeartbeats 2000000 in
theorem rBlock_ok (r c n i j a b : Nat) (sa : Option Addr) (ka : Nat) (xs : List Nat) (w : World) (h : FlM w sa n ka xs) (hz : chkM r c n xs = 0) (hr : i + a ≤ r) (hc : j + b ≤ c) :
    Calls Try.prog 12 #[.agg #[.int .i64 r, .int .i64 c, .slice sa n ka], .int .i64 i, .int .i64 j, .int .i64 a, .int .i64 b] w fun e w' => (∃ (g : Nat) (o : Nat → Nat), e = .returned (.tuple #[.agg #[.int .i64 a, .int .i64 b, .slice (some ⟨g, 0, none⟩) (a * b) (a * b)], .int .i64 0]) ∧ FnM w' (some ⟨g, 0, none⟩) (a * b) (a * b) o ∧ ∀ p q, p < a → q < b → o (p * b + q) = xs.getD ((i + p) * c + (j + q)) 0) ∧ Below w.heap.size w w' := by
  obtain ⟨t1, t2, t3, t4⟩ := two_b w (MBox r c sa n ka) (MBox 0 0 none 0 0)
  obtain ⟨R, C, eR, eC, hga⟩ := gd_of h hz
  obtain rfl : r = R := by omega
  obtain rfl : c = C := by omega
  have l1 := hga.1
  have l2 := hga.2.1
  have HBD : Hid (r ≤ 12 ∧ c ≤ 12 ∧ i + a ≤ r ∧ j + b ≤ c) := ⟨l1, l2, hr, hc⟩
  have HAT : Hid (∀ W p q, Below w.heap.size w W → p < a → q < b → Calls Try.prog 26 #[.agg #[.int .i64 r, .int .i64 c, .slice sa n ka], .int .i64 ((i + p : Nat) : Int), .int .i64 ((j + q : Nat) : Int)] W fun e w' => e = .returned (.float .f64 (xs.getD ((i + p) * c + (j + q)) 0)) ∧ Below W.heap.size W w') := fun W p q hW hp hq => rAt_any r sa c n ka (i + p) (j + q) xs W (h.below hW) (by omega) (by omega) (by omega) (by rw [hga.2.2.1]; exact place_lt (by omega) (by omega))
  have HXL : Hid (∀ p q, p < a → q < b → xs.getD ((i + p) * c + (j + q)) 0 < 18446744073709551616) := fun p q hp hq => (gd_fin hga _ (place_lt (by omega) (by omega))).1
  have HPUT0 : Hid (∀ W (g x p q : Nat) (o : Nat → Nat), W.rowIs g 52 (a * b) (fun k => .float .f64 (o k)) → p < a → q < b → Calls Try.prog 25 #[.agg #[.int .i64 a, .int .i64 b, .slice (some ⟨g, 0, none⟩) (a * b) (a * b)], .int .i64 (p : Nat), .int .i64 (q : Nat), .float .f64 x] W fun e w' => e = .returned (.tuple #[]) ∧ w' = (W.alloc (MBox a b (some ⟨g, 0, none⟩) (a * b) (a * b))).setCell ⟨g, p * b + q, none⟩ (.float .f64 x)) := fun W g x p q o hW hp hq => by
    have hk := place_lt hp hq
    exact Put_any a g b _ _ p q x _ W (hW.cell hk) (hW.frozen _) hW.lt (by omega) (by omega) (by omega) hk
  have HZ0 := hid (fun W => rRaw_any a b (by omega) (by omega) W)
  have HN144 : Hid (a * b ≤ 144) := Nat.mul_le_mul (show a ≤ 12 by omega) (show b ≤ 12 by omega)
  have v5 : ¬ ((r : Int) < (i : Int)) := by omega
  have v6 : ¬ ((c : Int) < (j : Int)) := by omega
  obtain ⟨ri, hri⟩ : ∃ t, Hid ((r : Int) - (i : Int) = t) := ⟨_, rfl⟩
  obtain ⟨cj, hcj⟩ : ∃ t, Hid ((c : Int) - (j : Int) = t) := ⟨_, rfl⟩
  have ri' := hri.out
  have cj' := hcj.out
  have m1 : -9223372036854775808 ≤ ri := by omega
  have m2 : ri ≤ 9223372036854775807 := by omega
  have m3 : -9223372036854775808 ≤ cj := by omega
  have m4 : cj ≤ 9223372036854775807 := by omega
  have v7 : ¬ (ri < (a : Int)) := by omega
  have v8 : ¬ (cj < (b : Int)) := by omega
  obtain ⟨N, hN⟩ : ∃ p, Hid (a * b = p) := ⟨_, rfl⟩
  rw [hN.out] at HPUT0 HZ0 HN144
  rw [hN.out]
  obtain ⟨V, hV⟩ : ∃ V, Hid ((w.alloc (MBox r c sa n ka)).alloc (MBox 0 0 none 0 0) = V) := ⟨_, rfl⟩
  rw [hV.out] at t1 t2 t3 t4
  have hV' := hV.out
  unfold MBox at hV'
  obtain ⟨g, hg⟩ : ∃ t, Hid (V.heap.size + 1 = t) := ⟨_, rfl⟩
  have HZ := hid (HZ0.out V)
  rw [hg.out] at HZ
  have HPUT := hid (fun W x i j o => HPUT0.out W g x i j o)
  clear HZ0 HPUT0
  obtain ⟨p0, hp0⟩ : ∃ t, Hid (w.heap.size = t) := ⟨_, rfl⟩
  obtain ⟨rb, hrb⟩ : ∃ t, Hid (p0 + 1 = t) := ⟨_, rfl⟩
  rw [hp0.out] at t1 t2
  rw [hrb.out] at t2
  have HT1 := hid t1
  have HT3 := hid t2
  have HT4 := hid t3
  have HT5 := hid t4
  have hp0' := hp0.out
  have hrb' := hrb.out
  obtain ⟨x0, x1, x2⟩ := mcells_of t1
  clear t1 t2 t3 t4 h hz hga l1 l2 hr hc eR eC
  have hst := fstoreM
  have v1 : ¬ ((i : Int) < 0) := by omega
  have v2 : ¬ ((j : Int) < 0) := by omega
  have v3 : ¬ ((a : Int) < 0) := by omega
  have v4 : ¬ ((b : Int) < 0) := by omega
  go_enter Try.func12, Try.ntmps12
  go_wp2_with fail
  refine HZ.out.mono ?_
  rintro e w1 ⟨rfl, h1, h2⟩
  have hal : Below w1.heap.size w1 (w1.alloc (MBox a b (some ⟨g, 0, none⟩) N N)) := (Below.refl _ _).alloc (Nat.le_refl _) _
  have hlt : g < w1.heap.size := h1.lt
  obtain ⟨mb, hmb⟩ : ∃ t, Hid (w1.heap.size = t) := ⟨_, rfl⟩
  have HFR : Hid (Fr5 w (w1.alloc (MBox a b (some ⟨g, 0, none⟩) N N)) p0 rb mb mb (MBox r c sa n ka) (MBox 0 0 none 0 0) (MBox a b (some ⟨g, 0, none⟩) N N) (MBox a b (some ⟨g, 0, none⟩) N N)) := by
    have q2 : (w1.alloc (MBox a b (some ⟨g, 0, none⟩) N N)).heap[mb]? = some (MBox a b (some ⟨g, 0, none⟩) N N) := by rw [← hmb.out]; exact nblkM _ _
    exact ⟨(HT4.out.trans (h2.mono HT4.out.size)).trans (hal.mono (Nat.le_trans HT4.out.size h2.size)), blkM (blkM HT1.out h2) hal, blkM (blkM HT3.out h2) hal, q2, q2⟩
  have HR0 : Hid ((w1.alloc (MBox a b (some ⟨g, 0, none⟩) N N)).rowIs g 52 N (fun _ => .float .f64 0)) := h1.of_block (hal.block _ hlt)
  have HNE : Hid (p0 ≠ g ∧ rb ≠ g ∧ mb ≠ g ∧ w.heap.size ≤ g) := by
    have e1 := hp0.out; have e3 := hrb.out; have e4 := hmb.out; have e5 := hg.out; have e6 := HT5.out
    show _ ∧ _ ∧ _ ∧ _
    omega
  have HRB : Hid (w.heap.size ≤ rb) := by
    have e1 := hp0.out; have e3 := hrb.out
    show _ ≤ _
    omega
  obtain ⟨V1, hV1⟩ : ∃ V, Hid (w1.alloc (MBox a b (some ⟨g, 0, none⟩) N N) = V) := ⟨_, rfl⟩
  rw [hV1.out] at HFR HR0
  have hW1 := hV1.out
  have hmb' := hmb.out
  unfold MBox at hW1
  unfold MV
  have HKS : Hid (∀ W, Hid (Fr5 w W p0 rb mb mb (MBox r c sa n ka) (MBox 0 0 none 0 0) (MBox a b (some ⟨g, 0, none⟩) N N) (MBox a b (some ⟨g, 0, none⟩) N N)) → (W.cell? ⟨mb, 0, none⟩ = some (.int .i64 a) ∧ W.cell? ⟨mb, 1, none⟩ = some (.int .i64 b) ∧ W.cell? ⟨mb, 2, none⟩ = some (.slice (some ⟨g, 0, none⟩) N N) ∧ W.cell? ⟨p0, 0, none⟩ = some (.int .i64 r) ∧ W.cell? ⟨p0, 1, none⟩ = some (.int .i64 c) ∧ W.cell? ⟨p0, 2, none⟩ = some (.slice sa n ka)) ∧ Hid (Fr5 w W p0 rb mb mb (MBox r c sa n ka) (MBox 0 0 none 0 0) (MBox a b (some ⟨g, 0, none⟩) N N) (MBox a b (some ⟨g, 0, none⟩) N N))) := fun W hW => by
    obtain ⟨a0, a1, a2⟩ := mcells_of hW.out.2.1
    obtain ⟨n0, n1, n2⟩ := mcells_of hW.out.2.2.2.1
    exact ⟨⟨n0, n1, n2, a0, a1, a2⟩, hW⟩
  clear h1 h2 hal HZ hlt x0 x1 x2
  go_wp2_with fail
  go_loopw [13] (fun iv wr => ∃ (p : Nat) (o : Nat → Nat), p ≤ a ∧ iv = .int .i64 p ∧ Hid (wr.rowIs g 52 N (fun k => .float .f64 (o k))) ∧ Hid (∀ u v, u < p → v < b → o (u * b + v) = xs.getD ((i + u) * c + (j + v)) 0) ∧ Hid (∀ k, o k < 18446744073709551616) ∧ Hid (Fr5 w wr p0 rb mb mb (MBox r c sa n ka) (MBox 0 0 none 0 0) (MBox a b (some ⟨g, 0, none⟩) N N) (MBox a b (some ⟨g, 0, none⟩) N N))) (fun iv _ => a - (intOf iv).toNat)
  case atStart => exact ⟨0, fun _ => 0, Nat.zero_le _, rfl, HR0, fun u v h => absurd h (Nat.not_lt_zero u), fun _ => by show 0 < 18446744073709551616; decide, HFR⟩
  case round =>
    obtain ⟨p, o, hp, rfl, HR, HP, HLO, HFW⟩ := hrel
    obtain ⟨l1, l2, l3, l4⟩ := HBD.out
    by_cases hlt : p < a
    · have hiI : (p : Int) < (a : Int) := by omega
      have HI := hid hlt
      clear hlt
      go_wp2_with fail
      go_loopw [14] (fun jv wr2 => ∃ (q : Nat) (o2 : Nat → Nat), q ≤ b ∧ jv = .int .i64 q ∧ Hid (wr2.rowIs g 52 N (fun k => .float .f64 (o2 k))) ∧ Hid (∀ u v, (u < p ∨ (u = p ∧ v < q)) → v < b → o2 (u * b + v) = xs.getD ((i + u) * c + (j + v)) 0) ∧ Hid (∀ k, o2 k < 18446744073709551616) ∧ Hid (Fr5 w wr2 p0 rb mb mb (MBox r c sa n ka) (MBox 0 0 none 0 0) (MBox a b (some ⟨g, 0, none⟩) N N) (MBox a b (some ⟨g, 0, none⟩) N N))) (fun jv _ => b - (intOf jv).toNat)
      case atStart => exact ⟨0, o, Nat.zero_le _, rfl, HR, fun u v hab hb => HP.out u v (by rcases hab with h | ⟨_, h⟩ <;> omega) hb, HLO, HFW⟩
      case round =>
        obtain ⟨q, o2, hq, rfl, HR2, HP2, HLO2, HFW2⟩ := hrel
        by_cases hl2 : q < b
        · have hjI : (q : Int) < (b : Int) := by omega
          have HJ := hid hl2
          have HQ0 : Hid (Fr5 w wr.drew p0 rb mb mb (MBox r c sa n ka) (MBox 0 0 none 0 0) (MBox a b (some ⟨g, 0, none⟩) N N) (MBox a b (some ⟨g, 0, none⟩) N N)) := HFW2.out.drew
          have HRD : Hid (wr.drew.rowIs g 52 N (fun k => .float .f64 (o2 k))) := HR2.out.of_block rfl
          have HATQ := hid (fun W hW => HAT.out W p q hW HI.out hl2)
          have HXX := hid (HXL.out p q HI.out hl2)
          obtain ⟨x, hx⟩ : ∃ t, Hid (xs.getD ((i + p) * c + (j + q)) 0 = t) := ⟨_, rfl⟩
          rw [hx.out] at HXX HATQ
          obtain ⟨P, hP⟩ : ∃ t : Int, Hid (((i + p : Nat) : Int) = t) := ⟨_, rfl⟩
          obtain ⟨Q, hQ⟩ : ∃ t : Int, Hid (((j + q : Nat) : Int) = t) := ⟨_, rfl⟩
          rw [hP.out, hQ.out] at HATQ
          have hP' : (i : Int) + (p : Int) = P := by have := hP.out; omega
          have hQ' : (j : Int) + (q : Int) = Q := by have := hQ.out; omega
          have hPw : IntKind.i64.wrap ((i : Int) + (p : Int)) = P := by rw [hP']; exact IntWalk.i64_in _ (by have := HI.out; omega)
          have hQw : IntKind.i64.wrap ((j : Int) + (q : Int)) = Q := by rw [hQ']; exact IntWalk.i64_in _ (by omega)
          have hPv : IntKind.i64.wrap P = P := IntWalk.i64_in _ (by have := HI.out; omega)
          have hQv : IntKind.i64.wrap Q = Q := IntWalk.i64_in _ (by omega)
          clear hl2
          go_wp2_with fail
          refine wp_region_held_drew (S := fun W => (W.cell? ⟨mb, 0, none⟩ = some (.int .i64 a) ∧ W.cell? ⟨mb, 1, none⟩ = some (.int .i64 b) ∧ W.cell? ⟨mb, 2, none⟩ = some (.slice (some ⟨g, 0, none⟩) N N) ∧ W.cell? ⟨p0, 0, none⟩ = some (.int .i64 r) ∧ W.cell? ⟨p0, 1, none⟩ = some (.int .i64 c) ∧ W.cell? ⟨p0, 2, none⟩ = some (.slice sa n ka)) ∧ Hid (Fr5 w W p0 rb mb mb (MBox r c sa n ka) (MBox 0 0 none 0 0) (MBox a b (some ⟨g, 0, none⟩) N N) (MBox a b (some ⟨g, 0, none⟩) N N))) (by kernel_rfl) (HKS.out _ HQ0) (fun hHeld => ?_)
          refine take_at 0 71 (.agg #[.int .i64 a, .int .i64 b, .slice (some ⟨g, 0, none⟩) N N]) rfl rfl (by kernel_rfl) (by kernel_rfl) (by kernel_rfl) (fun _ _ _ h => h) (Or.inl ⟨by rfl, fun w hSw => by (try dsimp only at hSw); go_simp⟩) (by assumption) ?_
          simp only [Act.put, List.setIfInBounds_toArray, List.set_cons_zero, List.set_cons_succ]
          refine take_at 1 72 (.int .i64 p) rfl rfl (by kernel_rfl) (by kernel_rfl) (by kernel_rfl) (fun _ _ _ h => h) (Or.inl ⟨by rfl, fun w hSw => by (try dsimp only at hSw); go_simp⟩) (by assumption) ?_
          simp only [Act.put, List.setIfInBounds_toArray, List.set_cons_zero, List.set_cons_succ]
          refine take_at 2 73 (.int .i64 q) rfl rfl (by kernel_rfl) (by kernel_rfl) (by kernel_rfl) (fun _ _ _ h => h) (Or.inl ⟨by rfl, fun w hSw => by (try dsimp only at hSw); go_simp⟩) (by assumption) ?_
          simp only [Act.put, List.setIfInBounds_toArray, List.set_cons_zero, List.set_cons_succ]
          refine take_at 3 74 (.agg #[.int .i64 r, .int .i64 c, .slice sa n ka]) rfl rfl (by kernel_rfl) (by kernel_rfl) (by kernel_rfl) (fun _ _ _ h => h) (Or.inl ⟨by rfl, fun w hSw => by (try dsimp only at hSw); go_simp⟩) (by assumption) ?_
          simp only [Act.put, List.setIfInBounds_toArray, List.set_cons_zero, List.set_cons_succ]
          refine take_at 4 75 (.int .i64 i) rfl rfl (by kernel_rfl) (by kernel_rfl) (by kernel_rfl) (fun _ _ _ h => h) (Or.inl ⟨by rfl, fun w hSw => by (try dsimp only at hSw); go_simp⟩) (by assumption) ?_
          simp only [Act.put, List.setIfInBounds_toArray, List.set_cons_zero, List.set_cons_succ]
          refine take_at 5 76 (.int .i64 p) rfl rfl (by kernel_rfl) (by kernel_rfl) (by kernel_rfl) (fun _ _ _ h => h) (Or.inl ⟨by rfl, fun w hSw => by (try dsimp only at hSw); go_simp⟩) (by assumption) ?_
          simp only [Act.put, List.setIfInBounds_toArray, List.set_cons_zero, List.set_cons_succ]
          refine take_at 6 77 (.int .i64 P) rfl rfl (by kernel_rfl) (by kernel_rfl) (by kernel_rfl) (fun _ _ _ h => h) (Or.inl ⟨by rfl, fun w hSw => by (try dsimp only at hSw); go_simp⟩) (by assumption) ?_
          simp only [Act.put, List.setIfInBounds_toArray, List.set_cons_zero, List.set_cons_succ]
          refine take_at 7 78 (.int .i64 j) rfl rfl (by kernel_rfl) (by kernel_rfl) (by kernel_rfl) (fun _ _ _ h => h) (Or.inl ⟨by rfl, fun w hSw => by (try dsimp only at hSw); go_simp⟩) (by assumption) ?_
          simp only [Act.put, List.setIfInBounds_toArray, List.set_cons_zero, List.set_cons_succ]
          refine take_at 8 79 (.int .i64 q) rfl rfl (by kernel_rfl) (by kernel_rfl) (by kernel_rfl) (fun _ _ _ h => h) (Or.inl ⟨by rfl, fun w hSw => by (try dsimp only at hSw); go_simp⟩) (by assumption) ?_
          simp only [Act.put, List.setIfInBounds_toArray, List.set_cons_zero, List.set_cons_succ]
          refine take_at 9 80 (.int .i64 Q) rfl rfl (by kernel_rfl) (by kernel_rfl) (by kernel_rfl) (fun _ _ _ h => h) (Or.inl ⟨by rfl, fun w hSw => by (try dsimp only at hSw); go_simp⟩) (by assumption) ?_
          simp only [Act.put, List.setIfInBounds_toArray, List.set_cons_zero, List.set_cons_succ]
          refine wpAnyH_ready (rs := [10]) (by kernel_rfl) (by simp) ?_
          refine AllReadyH.cons (o := _) rfl (fun K hK => ?_) AllReadyH.nil
          go_simp
          refine (HATQ.out _ HQ0.out.1).mono ?_
          rintro e u1 ⟨rfl, hb1⟩
          have HG1 := hid (HQ0.out.call hb1)
          have HR1 : Hid (u1.rowIs g 52 N (fun k => .float .f64 (o2 k))) := HRD.out.of_block (hb1.block _ HRD.out.lt)
          clear hb1
          go_wp2_with fail
          refine hK.out _ _ (HKS.out _ HG1) (fun hHeld1 => ?_)
          clear hK K
          try simp only [Act.put, List.setIfInBounds_toArray, List.set_cons_zero, List.set_cons_succ]
          refine wpAnyH_ready (rs := [11]) (by kernel_rfl) (by simp) ?_
          refine AllReadyH.cons (o := _) rfl (fun K hK => ?_) AllReadyH.nil
          go_simp
          refine (HPUT.out _ x p q o2 HR1.out HI.out HJ.out).mono ?_
          rintro e u4 ⟨rfl, hu4⟩
          have hal : Below u1.heap.size u1 (u1.alloc (MBox a b (some ⟨g, 0, none⟩) N N)) := (Below.refl _ _).alloc (Nat.le_refl _) _
          have HG4 : Hid (Fr5 w u4 p0 rb mb mb (MBox r c sa n ka) (MBox 0 0 none 0 0) (MBox a b (some ⟨g, 0, none⟩) N N) (MBox a b (some ⟨g, 0, none⟩) N N)) := by rw [hu4]; exact (HG1.out.call hal).set HNE.out.1 HNE.out.2.1 HNE.out.2.2.1 HNE.out.2.2.1 HNE.out.2.2.2 _
          have HR4 : Hid (u4.rowIs g 52 N (fun t => .float .f64 (if t = p * b + q then x else o2 t))) := by
            rw [hu4]
            refine ((HR1.out.of_block (hal.block _ HR1.out.lt)).set (p * b + q) _).congr (fun t _ => ?_)
            by_cases ht : t = p * b + q <;> simp [ht]
          clear hal hu4
          go_wp2_with fail
          refine hK.out _ _ (HKS.out _ HG4) (fun hHeld2 => ?_)
          clear hK K
          try simp only [Act.put, List.setIfInBounds_toArray, List.set_cons_zero, List.set_cons_succ]
          refine wpAnyH_done (by kernel_rfl) ?_ _
          go_wp2_with fail
          have hj1 := HJ.out
          have hi1 := HI.out
          refine ⟨⟨q + 1, fun t => if t = p * b + q then x else o2 t, by omega, by go_num, HR4, fun u v hab hb => ?_, fun k => ?_, HG4⟩, ?_⟩
          · dsimp only
            by_cases h : u * b + v = p * b + q
            · obtain ⟨eb, ea⟩ := place_ne hb hj1 h
              subst ea eb
              rw [if_pos rfl, hx.out]
            · rw [if_neg h]
              refine HP2.out u v ?_ hb
              rcases hab with h1 | ⟨h1, h2⟩
              · exact Or.inl h1
              · have : v ≠ q := fun hc => h (by rw [h1, hc])
                exact Or.inr ⟨h1, by omega⟩
          · dsimp only
            by_cases h : k = p * b + q
            · rw [if_pos h]; exact HXX.out
            · rw [if_neg h]; exact HLO2.out k
          · simp [intOf]; omega
        · obtain rfl : b = q := by omega
          go_wp2_with fail
          have hi1 := HI.out
          refine ⟨⟨p + 1, o2, by omega, by go_num, HR2, fun u v ha hb => HP2.out u v (by omega) hb, HLO2, HFW2⟩, ?_⟩
          simp [intOf]; omega
    · obtain rfl : a = p := by omega
      obtain ⟨m0, m1', m2'⟩ := mcells_of HFW.out.2.2.2.1
      obtain ⟨b0, b1, b2⟩ := mcells_of HFW.out.2.2.1
      have fz := frzM HFW.out.2.2.1
      have HFN := hid (rowF (HR.out) (fun k _ => HLO.out k) HN144.out)
      go_wp2_with fail
      exact bodyPost_ret (v := .tuple #[.agg #[.int .i64 a, .int .i64 b, .slice (some ⟨g, 0, none⟩) N N], .int .i64 0]) (by simp [results, Try.results12, go_sem, b0, b1, b2]) rfl ⟨⟨g, o, rfl, StoM.fn HFN.out HFW.out.2.2.1, HP.out⟩, StoM.below HFW.out.1 HRB.out⟩
end Go.Proofs.Ytjaljdodlfmebaa
