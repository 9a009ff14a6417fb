
/- The document's Outer. (Written by mknbe.py.) -/
import Derived.Test.YtilhmjjbanmfcaaP47
namespace Go.Proofs.Ytilhmjjbanmfcaa
open Go.RowKit Go.IntWalk

set_option maxRecDepth 4000 in
set_option maxHeartbeats 2000000 in
theorem rOuter_ok (n m ka kb : Nat) (sa sb : Option Addr) (xs ys : List Nat) (w : World) (ha : FlM w sa n ka xs) (hb : FlM w sb m kb ys) (hE : first2 (lstE n xs) (lstE m ys) = 0) :
    Calls Try.prog 20 #[.slice sa n ka, .slice sb m kb] w fun e w' => (∃ (g : Nat) (o : Nat → Nat), e = .returned (AnsM n m (n * m) g o) ∧ FnM w' (some ⟨g, 0, none⟩) (n * m) (n * m) o ∧ ∀ i j, i < n → j < m → canonOf (o (i * m + j)) = outV xs ys i j) ∧ Below w.heap.size w w' := by
  obtain ⟨e1, e2⟩ := first2_zero hE
  obtain ⟨l1, f1, hfa⟩ := lst_gd ha e1
  obtain ⟨l2, f2, hfb⟩ := lst_gd hb e2
  have hm1 : n * m ≤ 144 := Nat.mul_le_mul l1 l2
  have HLM : Hid (n ≤ 12 ∧ m ≤ 12) := ⟨l1, l2⟩
  have HFA := hid f1
  have HFB := hid f2
  have HXA := hid hfa
  have HXB := hid hfb
  have HPUT0 : Hid (∀ W (g x i j : Nat) (o : Nat → Nat), W.rowIs g 42 (n * m) (fun k => .float .f64 (o k)) → i < n → j < m → Calls Try.prog 59 #[.agg #[.int .i64 n, .int .i64 m, .slice (some ⟨g, 0, none⟩) (n * m) (n * m)], .int .i64 (i : Nat), .int .i64 (j : Nat), .float .f64 x] W fun e w' => e = .returned (.tuple #[]) ∧ w' = (W.alloc (MBox n m (some ⟨g, 0, none⟩) (n * m) (n * m))).setCell ⟨g, i * m + j, none⟩ (.float .f64 x)) := fun W g x i j o hW hi hj => by
    have hk := place_lt hi hj
    exact Put_any n g m _ _ i j x _ W (hW.cell hk) (hW.frozen _) hW.lt (by omega) (by omega) (by omega) hk
  have HZ0 := hid (fun W => rRaw_any n m (by omega) (by omega) W)
  have HPL : Hid (∀ i j, i < n → j < m → i * m + j < n * m) := fun i j hi hj => place_lt hi hj
  have HN144 := hid hm1
  obtain ⟨N, hN⟩ : ∃ p, Hid (n * m = p) := ⟨_, rfl⟩
  rw [hN.out] at HPUT0 HZ0 HPL HN144
  rw [hN.out]
  have t1 := nblkM w (MBox 0 0 none 0 0)
  have t2 : Below w.heap.size w (w.alloc (MBox 0 0 none 0 0)) := (Below.refl _ _).alloc (Nat.le_refl _) _
  have t3 : (w.alloc (MBox 0 0 none 0 0)).heap.size = w.heap.size + 1 := by simp
  have HOV := hid (fun W o (h : FnM W (some ⟨w.heap.size + 1 + 1, 0, none⟩) N N o) => Over_any n m N _ N o W h (by have := HN144.out; omega))
  obtain ⟨V, hV⟩ : ∃ V, Hid (w.alloc (MBox 0 0 none 0 0) = V) := ⟨_, rfl⟩
  rw [hV.out] at t1 t2 t3
  have hV' := hV.out
  unfold MBox at hV'
  obtain ⟨g, hg⟩ : ∃ t, Hid (V.heap.size + 1 = t) := ⟨_, rfl⟩
  have hgg : w.heap.size + 1 + 1 = g := by rw [← t3, hg.out]
  rw [hgg] at HOV
  have HZ := hid (HZ0.out V)
  rw [hg.out] at HZ
  have HPUT := hid (fun W x i j o => HPUT0.out W g x i j o)
  clear HZ0 hgg HPUT0
  obtain ⟨rb, hrb⟩ : ∃ t, Hid (w.heap.size = t) := ⟨_, rfl⟩
  rw [hrb.out] at t1
  have HT1 := hid t1
  have HT4 := hid t2
  have HT5 := hid t3
  have hrb' := hrb.out
  clear t1 t2 t3 ha hb hE e1 e2 l1 l2 f1 f2 hfa hfb hm1
  have hst := fstoreM
  go_enter Try.func20, Try.ntmps20
  go_wp2_with fail
  refine HZ.out.mono ?_
  rintro e w1 ⟨rfl, h1, h2⟩
  have hal : Below w1.heap.size w1 (w1.alloc (MBox n m (some ⟨g, 0, none⟩) N N)) := (Below.refl _ _).alloc (Nat.le_refl _) _
  have hlt : g < w1.heap.size := h1.lt
  obtain ⟨mb, hmb⟩ : ∃ t, Hid (w1.heap.size = t) := ⟨_, rfl⟩
  have HFR : Hid (Fr5 w (w1.alloc (MBox n m (some ⟨g, 0, none⟩) N N)) rb mb rb mb (MBox 0 0 none 0 0) (MBox n m (some ⟨g, 0, none⟩) N N) (MBox 0 0 none 0 0) (MBox n m (some ⟨g, 0, none⟩) N N)) := by
    have q1 := blkM (blkM HT1.out h2) hal
    have q2 : (w1.alloc (MBox n m (some ⟨g, 0, none⟩) N N)).heap[mb]? = some (MBox n m (some ⟨g, 0, none⟩) N N) := by rw [← hmb.out]; exact nblkM _ _
    exact ⟨(HT4.out.trans (h2.mono HT4.out.size)).trans (hal.mono (Nat.le_trans HT4.out.size h2.size)), q1, q2, q1, q2⟩
  have HR0 : Hid ((w1.alloc (MBox n m (some ⟨g, 0, none⟩) N N)).rowIs g 42 N (fun _ => .float .f64 0)) := h1.of_block (hal.block _ hlt)
  have HNE : Hid (rb ≠ g ∧ mb ≠ g ∧ w.heap.size ≤ g) := by
    have e3 := hrb.out; have e4 := hmb.out; have e5 := hg.out; have e6 := HT5.out
    show _ ∧ _ ∧ _
    omega
  have HRB : Hid (w.heap.size ≤ rb) := by
    have e3 := hrb.out
    show _ ≤ _
    omega
  obtain ⟨V1, hV1⟩ : ∃ V, Hid (w1.alloc (MBox n m (some ⟨g, 0, none⟩) N N) = V) := ⟨_, rfl⟩
  rw [hV1.out] at HFR HR0
  have hW1 := hV1.out
  have hmb' := hmb.out
  unfold MBox at hW1
  unfold MV
  clear h1 h2 hal HZ hlt
  go_wp2_with fail
  go_loopw [7] (fun iv wr => ∃ (i : Nat) (o : Nat → Nat), i ≤ n ∧ iv = .int .i64 i ∧ Hid (wr.rowIs g 42 N (fun k => .float .f64 (o k))) ∧ Hid (∀ a b, a < i → b < m → canonOf (o (a * m + b)) = outV xs ys a b ∧ o (a * m + b) < 18446744073709551616) ∧ Hid (Fr5 w wr rb mb rb mb (MBox 0 0 none 0 0) (MBox n m (some ⟨g, 0, none⟩) N N) (MBox 0 0 none 0 0) (MBox n m (some ⟨g, 0, none⟩) N N))) (fun iv _ => n - (intOf iv).toNat)
  case atStart => exact ⟨0, fun _ => 0, Nat.zero_le _, rfl, HR0, fun a b ha => absurd ha (Nat.not_lt_zero a), HFR⟩
  case round =>
    obtain ⟨i, o, hi, rfl, HR, HP, HFW⟩ := hrel
    obtain ⟨h12a, h12b⟩ := HLM.out
    by_cases hlt : i < n
    · have hiI : (i : Int) < (n : Int) := by omega
      have hi0 : (0 : Int) ≤ (i : Int) := by omega
      have HI := hid hlt
      clear hlt
      go_wp2_with fail
      go_loopw [8] (fun jv wr2 => ∃ (j : Nat) (o2 : Nat → Nat), j ≤ m ∧ jv = .int .i64 j ∧ Hid (wr2.rowIs g 42 N (fun k => .float .f64 (o2 k))) ∧ Hid (∀ a b, (a < i ∨ (a = i ∧ b < j)) → b < m → canonOf (o2 (a * m + b)) = outV xs ys a b ∧ o2 (a * m + b) < 18446744073709551616) ∧ Hid (Fr5 w wr2 rb mb rb mb (MBox 0 0 none 0 0) (MBox n m (some ⟨g, 0, none⟩) N N) (MBox 0 0 none 0 0) (MBox n m (some ⟨g, 0, none⟩) N N))) (fun jv _ => m - (intOf jv).toNat)
      case atStart => exact ⟨0, o, Nat.zero_le _, rfl, HR, fun a b hab hb => HP.out a b (by rcases hab with h | ⟨_, h⟩ <;> omega) hb, HFW⟩
      case round =>
        obtain ⟨j, o2, hj, rfl, HR2, HP2, HFW2⟩ := hrel
        by_cases hl2 : j < m
        · have hjI : (j : Int) < (m : Int) := by omega
          have hj0 : (0 : Int) ≤ (j : Int) := by omega
          have HJ := hid hl2
          obtain ⟨ba, oa, hsa, hba, _, _, hca⟩ : ∃ b off, sa = some ⟨b, off, none⟩ ∧ b < w.heap.size ∧ n ≤ ka ∧ ka ≤ 9223372036854775807 ∧ ∀ j, j < n → w.cell? ⟨b, off + j, none⟩ = some (.float .f64 (xs.getD j 0)) ∧ xs.getD j 0 < 18446744073709551616 := by
            rcases HFA.out with ⟨_, h, _⟩ | h
            · have := HI.out; omega
            · exact h
          obtain ⟨bb, ob, hsb, hbb, _, _, hcb⟩ : ∃ b off, sb = some ⟨b, off, none⟩ ∧ b < w.heap.size ∧ m ≤ kb ∧ kb ≤ 9223372036854775807 ∧ ∀ j, j < m → w.cell? ⟨b, off + j, none⟩ = some (.float .f64 (ys.getD j 0)) ∧ ys.getD j 0 < 18446744073709551616 := by
            rcases HFB.out with ⟨_, h, _⟩ | h
            · omega
            · exact h
          subst hsa hsb
          obtain ⟨z, hz, hzl, hzc⟩ := fin_some ok_m w (xs.getD i 0) (ys.getD j 0) (hca i HI.out).2 (hcb j hl2).2 (HXA.out i HI.out).2 (HXB.out j hl2).2
          have HKS : Hid (∀ W, Hid (Fr5 w W rb mb rb mb (MBox 0 0 none 0 0) (MBox n m (some ⟨g, 0, none⟩) N N) (MBox 0 0 none 0 0) (MBox n m (some ⟨g, 0, none⟩) N N)) → (W.cell? ⟨mb, 0, none⟩ = some (.int .i64 n) ∧ W.cell? ⟨mb, 1, none⟩ = some (.int .i64 m) ∧ W.cell? ⟨mb, 2, none⟩ = some (.slice (some ⟨g, 0, none⟩) N N) ∧ W.cell? ⟨ba, oa + i, none⟩ = some (.float .f64 (xs.getD i 0)) ∧ W.cell? ⟨bb, ob + j, none⟩ = some (.float .f64 (ys.getD j 0))) ∧ Hid (Fr5 w W rb mb rb mb (MBox 0 0 none 0 0) (MBox n m (some ⟨g, 0, none⟩) N N) (MBox 0 0 none 0 0) (MBox n m (some ⟨g, 0, none⟩) N N))) := fun W hW => by
            obtain ⟨n0, n1, n2⟩ := mcells_of hW.out.2.2.1
            exact ⟨⟨n0, n1, n2, (hW.out.1.cell (p := ⟨ba, oa + i, none⟩) hba).trans (hca i HI.out).1, (hW.out.1.cell (p := ⟨bb, ob + j, none⟩) hbb).trans (hcb j hl2).1⟩, hW⟩
          have HZC : Hid (canonOf z = outV xs ys i j ∧ z < 18446744073709551616) := ⟨hzc, hzl⟩
          have hrun := f_mul hz
          have HQ0 : Hid (Fr5 w wr.drew rb mb rb mb (MBox 0 0 none 0 0) (MBox n m (some ⟨g, 0, none⟩) N N) (MBox 0 0 none 0 0) (MBox n m (some ⟨g, 0, none⟩) N N)) := HFW2.out.drew
          have HRD : Hid (wr.drew.rowIs g 42 N (fun k => .float .f64 (o2 k))) := HR2.out.of_block rfl
          obtain ⟨x, hx⟩ : ∃ t, Hid (xs.getD i 0 = t) := ⟨_, rfl⟩
          obtain ⟨y, hy⟩ : ∃ t, Hid (ys.getD j 0 = t) := ⟨_, rfl⟩
          rw [hx.out, hy.out] at HKS hrun
          clear hl2 hz hzl hzc hca hcb hba hbb
          go_wp2_with fail
          refine wp_region_held_drew (S := fun W => (W.cell? ⟨mb, 0, none⟩ = some (.int .i64 n) ∧ W.cell? ⟨mb, 1, none⟩ = some (.int .i64 m) ∧ W.cell? ⟨mb, 2, none⟩ = some (.slice (some ⟨g, 0, none⟩) N N) ∧ W.cell? ⟨ba, oa + i, none⟩ = some (.float .f64 x) ∧ W.cell? ⟨bb, ob + j, none⟩ = some (.float .f64 y)) ∧ Hid (Fr5 w W rb mb rb mb (MBox 0 0 none 0 0) (MBox n m (some ⟨g, 0, none⟩) N N) (MBox 0 0 none 0 0) (MBox n m (some ⟨g, 0, none⟩) N N))) (by kernel_rfl) (HKS.out _ HQ0) (fun hHeld => ?_)
          refine take_at 0 26 (.agg #[.int .i64 n, .int .i64 m, .slice (some ⟨g, 0, none⟩) N N]) rfl rfl (by kernel_rfl) (by kernel_rfl) (by kernel_rfl) (fun _ _ _ h => h) (Or.inl ⟨by rfl, fun w hSw => by (try dsimp only at hSw); go_simp⟩) (by assumption) ?_
          simp only [Act.put, List.setIfInBounds_toArray, List.set_cons_zero, List.set_cons_succ]
          refine take_at 1 27 (.int .i64 i) rfl rfl (by kernel_rfl) (by kernel_rfl) (by kernel_rfl) (fun _ _ _ h => h) (Or.inl ⟨by rfl, fun w hSw => by (try dsimp only at hSw); go_simp⟩) (by assumption) ?_
          simp only [Act.put, List.setIfInBounds_toArray, List.set_cons_zero, List.set_cons_succ]
          refine take_at 2 28 (.int .i64 j) rfl rfl (by kernel_rfl) (by kernel_rfl) (by kernel_rfl) (fun _ _ _ h => h) (Or.inl ⟨by rfl, fun w hSw => by (try dsimp only at hSw); go_simp⟩) (by assumption) ?_
          simp only [Act.put, List.setIfInBounds_toArray, List.set_cons_zero, List.set_cons_succ]
          refine take_at 3 29 (.slice (some ⟨ba, oa, none⟩) n ka) rfl rfl (by kernel_rfl) (by kernel_rfl) (by kernel_rfl) (fun _ _ _ h => h) (Or.inl ⟨by rfl, fun w hSw => by (try dsimp only at hSw); go_simp⟩) (by assumption) ?_
          simp only [Act.put, List.setIfInBounds_toArray, List.set_cons_zero, List.set_cons_succ]
          refine take_at 4 30 (.int .i64 i) rfl rfl (by kernel_rfl) (by kernel_rfl) (by kernel_rfl) (fun _ _ _ h => h) (Or.inl ⟨by rfl, fun w hSw => by (try dsimp only at hSw); go_simp⟩) (by assumption) ?_
          simp only [Act.put, List.setIfInBounds_toArray, List.set_cons_zero, List.set_cons_succ]
          refine take_at 5 31 (.pointer (some ⟨ba, oa + i, none⟩)) rfl rfl (by kernel_rfl) (by kernel_rfl) (by kernel_rfl) (fun _ _ _ h => h) (Or.inl ⟨by rfl, fun w hSw => by (try dsimp only at hSw); go_simp⟩) (by assumption) ?_
          simp only [Act.put, List.setIfInBounds_toArray, List.set_cons_zero, List.set_cons_succ]
          refine take_at 6 32 (.float .f64 x) rfl rfl (by kernel_rfl) (by kernel_rfl) (by kernel_rfl) (fun _ _ _ h => h) (Or.inl ⟨by rfl, fun w hSw => by (try dsimp only at hSw); go_simp⟩) (by assumption) ?_
          simp only [Act.put, List.setIfInBounds_toArray, List.set_cons_zero, List.set_cons_succ]
          refine take_at 7 33 (.slice (some ⟨bb, ob, none⟩) m kb) rfl rfl (by kernel_rfl) (by kernel_rfl) (by kernel_rfl) (fun _ _ _ h => h) (Or.inl ⟨by rfl, fun w hSw => by (try dsimp only at hSw); go_simp⟩) (by assumption) ?_
          simp only [Act.put, List.setIfInBounds_toArray, List.set_cons_zero, List.set_cons_succ]
          refine take_at 8 34 (.int .i64 j) rfl rfl (by kernel_rfl) (by kernel_rfl) (by kernel_rfl) (fun _ _ _ h => h) (Or.inl ⟨by rfl, fun w hSw => by (try dsimp only at hSw); go_simp⟩) (by assumption) ?_
          simp only [Act.put, List.setIfInBounds_toArray, List.set_cons_zero, List.set_cons_succ]
          refine take_at 9 35 (.pointer (some ⟨bb, ob + j, none⟩)) rfl rfl (by kernel_rfl) (by kernel_rfl) (by kernel_rfl) (fun _ _ _ h => h) (Or.inl ⟨by rfl, fun w hSw => by (try dsimp only at hSw); go_simp⟩) (by assumption) ?_
          simp only [Act.put, List.setIfInBounds_toArray, List.set_cons_zero, List.set_cons_succ]
          refine take_at 10 36 (.float .f64 y) rfl rfl (by kernel_rfl) (by kernel_rfl) (by kernel_rfl) (fun _ _ _ h => h) (Or.inl ⟨by rfl, fun w hSw => by (try dsimp only at hSw); go_simp⟩) (by assumption) ?_
          simp only [Act.put, List.setIfInBounds_toArray, List.set_cons_zero, List.set_cons_succ]
          refine take_at 11 37 (.float .f64 z) rfl rfl (by kernel_rfl) (by kernel_rfl) (by kernel_rfl) (fun _ _ _ h => h) (Or.inl ⟨by rfl, fun w hSw => by (try dsimp only at hSw); go_simp⟩) (by assumption) ?_
          simp only [Act.put, List.setIfInBounds_toArray, List.set_cons_zero, List.set_cons_succ]
          refine wpAnyH_ready (rs := [12]) (by kernel_rfl) (by simp) ?_
          refine AllReadyH.cons (o := _) rfl (fun K hK => ?_) AllReadyH.nil
          go_simp
          refine (HPUT.out _ z i j o2 HRD.out HI.out HJ.out).mono ?_
          rintro e u4 ⟨rfl, hu4⟩
          have hal : Below wr.drew.heap.size wr.drew (wr.drew.alloc (MBox n m (some ⟨g, 0, none⟩) N N)) := (Below.refl _ _).alloc (Nat.le_refl _) _
          have HG4 : Hid (Fr5 w u4 rb mb rb mb (MBox 0 0 none 0 0) (MBox n m (some ⟨g, 0, none⟩) N N) (MBox 0 0 none 0 0) (MBox n m (some ⟨g, 0, none⟩) N N)) := by rw [hu4]; exact (HQ0.out.call hal).set HNE.out.1 HNE.out.2.1 HNE.out.1 HNE.out.2.1 HNE.out.2.2 _
          have HR4 : Hid (u4.rowIs g 42 N (fun t => .float .f64 (if t = i * m + j then z else o2 t))) := by
            rw [hu4]
            refine ((HRD.out.of_block (hal.block _ HRD.out.lt)).set (i * m + j) _).congr (fun t _ => ?_)
            by_cases ht : t = i * m + j <;> simp [ht]
          clear hal hu4
          go_wp2_with fail
          refine hK.out _ _ (HKS.out _ HG4) (fun hHeld4 => ?_)
          clear hK K
          try simp only [Act.put, List.setIfInBounds_toArray, List.set_cons_zero, List.set_cons_succ]
          refine wpAnyH_done (by kernel_rfl) ?_ _
          go_wp2_with fail
          have hj1 := HJ.out
          refine ⟨⟨j + 1, fun t => if t = i * m + j then z else o2 t, by omega, by go_num, HR4, fun a b hab hb => ?_, HG4⟩, ?_⟩
          · by_cases h : a * m + b = i * m + j
            · obtain ⟨ea, eb⟩ := place_ne hb hj1 h
              subst ea eb
              dsimp only
              rw [if_pos rfl]
              exact HZC.out
            · dsimp only
              rw [if_neg h]
              refine HP2.out a b ?_ hb
              rcases hab with h1 | ⟨h1, h2⟩
              · exact Or.inl h1
              · have : b ≠ j := fun hc => h (by rw [h1, hc])
                exact Or.inr ⟨h1, by omega⟩
          · simp [intOf]; omega
        · obtain rfl : j = m := by omega
          go_wp2_with fail
          have hi1 := HI.out
          refine ⟨⟨i + 1, o2, by omega, by go_num, HR2, fun a b ha hb => HP2.out a b (by omega) hb, HFW2⟩, ?_⟩
          simp [intOf]; omega
    · obtain rfl : i = n := by omega
      obtain ⟨m0, m1, m2⟩ := mcells_of HFW.out.2.2.1
      have h144 := HN144.out
      have HLO : Hid (∀ k, k < N → o k < 18446744073709551616) := fun k hk => by
        rw [← hN.out] at hk
        obtain ⟨q1, q2, q3⟩ := split_k hk
        have := (HP.out _ _ q1 q2).2
        rw [q3] at this
        exact this
      have HFO := hid (HOV.out wr o (rowF (HR.out) HLO.out h144))
      have HFN := hid (rowF (HR.out) HLO.out h144)
      obtain ⟨X0, X1, X2, X3, X4, hXX⟩ : ∃ a b s m' k, Hid ((if finF N o = true then MV i m (some ⟨g, 0, none⟩) N N else MV 0 0 none 0 0) = MV a b s m' k) := by
        by_cases q : finF N o = true
        · exact ⟨i, m, _, _, _, by show _ = _; rw [if_pos q]⟩
        · exact ⟨0, 0, _, _, _, by show _ = _; rw [if_neg q]⟩
      obtain ⟨E, hE⟩ : ∃ E, Hid ((if finF N o = true then 0 else 5 : Int) = E) := ⟨_, rfl⟩
      rw [hXX.out, hE.out] at HFO
      unfold MV at HFO
      go_wp2_with fail
      refine HFO.out.mono ?_
      rintro e w3 ⟨rfl, hk3, hb3⟩
      have HFR3 := hid (HFW.out.call hb3)
      have HFN3 := hid (hk3 _ _ _ _ HFN.out)
      obtain ⟨y0, y1, y2⟩ := mcells_of HFR3.out.2.1
      have fz := frzM HFR3.out.2.1
      clear hb3 hk3
      go_wp2_with fail
      refine bodyPost_ret (v := AnsM i m N g o) (by unfold AnsM; rw [hXX.out, hE.out]; simp [results, Try.results20, go_sem, y0, y1, y2, MV]) rfl ⟨⟨g, o, rfl, StoM.fn HFN3.out HFR3.out.2.1, fun a b ha hb => ?_⟩, StoM.below HFR3.out.1 HRB.out⟩
      exact (HP.out _ _ ha hb).1
theorem rOuter_tot (n m ka kb : Nat) (sa sb : Option Addr) (xs ys : List Nat) (w : World) (ha : FlM w sa n ka xs) (hb : FlM w sb m kb ys) (h : first2 (lstE n xs) (lstE m ys) = 0) :
    Calls Try.prog 20 #[.slice sa n ka, .slice sb m kb] w fun e w' => (∃ X0 X1 X2 X3 X4, e = .returned (.tuple #[.agg #[.int .i64 X0, .int .i64 X1, .slice X2 X3 X4], .int .i64 (outT n xs m ys)]) ∧ ResM (outT n xs m ys) n m (outV xs ys) w' X0 X1 X2 X3 X4) ∧ Below w.heap.size w w' := by
  unfold outT
  rw [if_pos h]
  refine (rOuter_ok n m ka kb sa sb xs ys w ha hb h).mono ?_
  rintro e w' ⟨⟨g, o, rfl, hf, hv⟩, hbb⟩
  obtain ⟨X0, X1, X2, X3, X4, e1, e2⟩ := res_of n m g o (outV xs ys) (if finV n m (outV xs ys) = true then 0 else 5) w' rfl hf hv
  exact ⟨⟨X0, X1, X2, X3, X4, by rw [e1], e2⟩, hbb⟩
end Go.Proofs.Ytilhmjjbanmfcaa
