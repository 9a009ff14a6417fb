
/- model: Dim and Check of any motion. -/
import Derived.Test.YtggiklghcnojiaaP31
import Derived.Lib.MinMax
namespace Go.Proofs.Ytggiklghcnojiaa
open Go.RowKit Go.IntWalk

def MoBox (sa : Option Addr) (n cap : Nat) : Obj := .cells #[.slice sa n cap] 26
theorem mocell_of {W : World} {b : Nat} {sa : Option Addr} {n cap : Nat} (h : W.heap[b]? = some (MoBox sa n cap)) : W.cell? ⟨b, 0, none⟩ = some (.slice sa n cap) := by
  unfold MoBox at h
  simp [World.cell?, h]
/-- The four cells of a part. -/
def PtC (W : World) (b off : Nat) (k a : Int) (n f : Nat) : Prop := W.cell? ⟨b, off, none⟩ = some (.int .i64 k) ∧ W.cell? ⟨b, off + 1, none⟩ = some (.int .i64 a) ∧ W.cell? ⟨b, off + 2, none⟩ = some (.float .f64 n) ∧ W.cell? ⟨b, off + 3, none⟩ = some (.float .f64 f)
theorem pt_at {w W : World} {b off n : Nat} {K A : Nat → Int} {N F : Nat → Nat} (hbl : b < w.heap.size) (hcl : ∀ i, i < n → w.cell? ⟨b, off + i * 4, none⟩ = some (.int .i64 (K i)) ∧ w.cell? ⟨b, off + i * 4 + 1, none⟩ = some (.int .i64 (A i)) ∧ w.cell? ⟨b, off + i * 4 + 2, none⟩ = some (.float .f64 (N i)) ∧ w.cell? ⟨b, off + i * 4 + 3, none⟩ = some (.float .f64 (F i))) (hb : Below w.heap.size w W) (i : Nat) (hi : i < n) : PtC W b (off + i * 4) (K i) (A i) (N i) (F i) := by
  unfold PtC
  rw [hb.cell (p := ⟨b, off + i * 4, none⟩) hbl, hb.cell (p := ⟨b, off + i * 4 + 1, none⟩) hbl, hb.cell (p := ⟨b, off + i * 4 + 2, none⟩) hbl, hb.cell (p := ⟨b, off + i * 4 + 3, none⟩) hbl]
  exact hcl i hi
theorem mul_facts {a z D : Int} (ha : 1 ≤ a ∧ a ≤ 12) (hz : 1 ≤ z ∧ z ≤ 3) (hD : 0 ≤ D ∧ D ≤ 13) : (1 ≤ a * z ∧ a * z ≤ 36) ∧ wrap64 (a * z) = a * z ∧ wrap64 (D + a * z) = D + a * z := by
  have p1 : a * z ≤ 12 * 3 := Int.mul_le_mul ha.2 hz.2 (by omega) (by omega)
  have p2 : 0 < a * z := Int.mul_pos (by omega) (by omega)
  exact ⟨⟨by omega, by omega⟩, wrap64_in _ (by omega), wrap64_in _ (by omega)⟩
theorem mul_factsI {a z D : Int} (ha : 1 ≤ a ∧ a ≤ 12) (hz : 1 ≤ z ∧ z ≤ 3) (hD : 0 ≤ D ∧ D ≤ 13) : IntKind.i64.wrap (a * z) = a * z ∧ IntKind.i64.wrap (D + a * z) = D + a * z := by
  have p1 : a * z ≤ 12 * 3 := Int.mul_le_mul ha.2 hz.2 (by omega) (by omega)
  have p2 : 0 < a * z := Int.mul_pos (by omega) (by omega)
  exact ⟨IntWalk.i64_in _ (by omega), IntWalk.i64_in _ (by omega)⟩
theorem dm_err {n k : Nat} {K A : Nat → Int} {N F : Nat → Nat} (h0 : scE (ptEs K A N F) k = 0) (h1 : ptEs K A N F k ≠ 0) (hk : k < n) : dmE n K A N F = ptEs K A N F k ∧ dmV n K A N F = 0 := by
  have e : dmE n K A N F = ptEs K A N F k := by
    unfold dmE
    rw [if_neg (by omega), scE_stop h0 h1 hk, if_pos h1]
  refine ⟨e, ?_⟩
  unfold dmV
  rw [if_neg (by rw [e]; exact h1)]
theorem dm_long {n : Nat} {K A : Nat → Int} {N F : Nat → Nat} (h0 : scE (ptEs K A N F) n = 0) (hn : n ≠ 0) (h : 12 < cS (ptS K A) n) : dmE n K A N F = 2 ∧ dmV n K A N F = 0 := by
  have e : dmE n K A N F = 2 := by
    unfold dmE
    rw [if_neg hn, if_neg (fun h => h h0), if_pos h]
  refine ⟨e, ?_⟩
  unfold dmV
  rw [if_neg (by rw [e]; decide)]
theorem dm_fine {n : Nat} {K A : Nat → Int} {N F : Nat → Nat} (h0 : scE (ptEs K A N F) n = 0) (hn : n ≠ 0) (h : ¬ 12 < cS (ptS K A) n) : dmE n K A N F = 0 ∧ dmV n K A N F = cS (ptS K A) n := by
  have e : dmE n K A N F = 0 := by
    unfold dmE
    rw [if_neg hn, if_neg (fun h => h h0), if_neg h]
  refine ⟨e, ?_⟩
  unfold dmV
  rw [if_pos e]
theorem dm_none {K A : Nat → Int} {N F : Nat → Nat} : dmE 0 K A N F = 1 ∧ dmV 0 K A N F = 0 := ⟨rfl, rfl⟩
theorem ret_dm {a b c d : Int} (h1 : a = c) (h2 : b = d) : Ending.returned (.tuple #[.int .i64 a, .int .i64 b]) = .returned (.tuple #[.int .i64 c, .int .i64 d]) := by rw [h1, h2]
set_option maxRecDepth 2000 in
set_option maxHeartbeats 4000000 in
theorem Dim_any (sa : Option Addr) (n cap : Nat) (K A : Nat → Int) (N F : Nat → Nat) (w : World) (h : PtF w sa n K A N F) (hn : n ≤ 4398046511104) : Calls Try.prog 6 #[.agg #[.slice sa n cap]] w fun r w' => r = .returned (.tuple #[.int .i64 (dmV n K A N F), .int .i64 (dmE n K A N F)]) ∧ Below w.heap.size w w' := by
  have HB0 : Hid (Below w.heap.size w (w.alloc (MoBox sa n cap)) ∧ (w.alloc (MoBox sa n cap)).heap[w.heap.size]? = some (MoBox sa n cap)) := ⟨(Below.refl _ _).alloc (Nat.le_refl _) _, nblkM _ _⟩
  obtain ⟨V, hV⟩ : ∃ V, Hid (w.alloc (MoBox sa n cap) = V) := ⟨_, rfl⟩
  rw [hV.out] at HB0
  have hV' := hV.out
  unfold MoBox at hV'
  have c0 := mocell_of HB0.out.2
  have hfl := fieldK_run
  have hst := fstoreM
  have HP := hid h
  clear h
  by_cases h0 : n = 0
  · subst h0
    rw [dm_none.1, dm_none.2]
    go_enter Try.func6, Try.ntmps6
    go_wp2_with fail
    exact bodyPost_ret (v := .tuple #[.int .i64 0, .int .i64 1]) (by simp [results, Try.results6, go_sem]) rfl ⟨rfl, HB0.out.1⟩
  obtain ⟨b, off, rfl, hbl, hcl⟩ := HP.out.2 h0
  have HN0 := hid h0
  have hn0 : ((n : Int) == 0) = false := by rw [beq_eq_false_iff_ne]; omega
  have HC := hid (fun W (hW : Below w.heap.size w W) i hi => pt_at hbl hcl hW i hi)
  clear hcl h0
  go_enter Try.func6, Try.ntmps6
  go_wp2_with fail
  clear c0
  go_loopw [4, 15] (fun dv iv wr => ∃ (k : Nat) (D : Int), k ≤ n ∧ iv = .int .i64 k ∧ dv = .int .i64 D ∧ Hid (D = cS (ptS K A) k) ∧ Hid (scE (ptEs K A N F) k = 0) ∧ Hid (Below w.heap.size w wr)) (fun _ iv _ => n - (intOf iv).toNat)
  case atStart => exact ⟨0, 0, Nat.zero_le _, rfl, rfl, rfl, rfl, HB0.out.1⟩
  case round =>
    obtain ⟨k, D, hk, rfl, rfl, HD, HS, HBW⟩ := hrel
    by_cases hlt : k < n
    · have HPB := hid (HP.out.1 k hlt)
      have hpc := HC.out wr HBW.out k hlt
      have HCH := hid (fun W => checkPart_any (K k) (A k) (N k) (F k) W HPB.out.2.2.1 HPB.out.2.2.2)
      have HKO := hid (fun W => kindOf_any (K k) (A k) (N k) (F k) W)
      have HE : Hid (ptE (K k) (A k) (N k) (F k) = ptEs K A N F k) := rfl
      have HZ : Hid (ptS K A k = A k * szK (K k)) := rfl
      have HPI := hid (fun (h : ptEs K A N F k = 0) => ptS_in h)
      have hkI : (k : Int) < (n : Int) := by omega
      obtain ⟨k1, hk1⟩ : ∃ t, K k = t := ⟨_, rfl⟩
      obtain ⟨a1, ha1⟩ : ∃ t, A k = t := ⟨_, rfl⟩
      obtain ⟨n1, hn1⟩ : ∃ t, N k = t := ⟨_, rfl⟩
      obtain ⟨f1, hf1⟩ : ∃ t, F k = t := ⟨_, rfl⟩
      rw [hk1, ha1, hn1, hf1] at hpc HCH HKO HE
      rw [hk1, ha1] at HZ HPI
      obtain ⟨z, hz⟩ : ∃ t, szK k1 = t := ⟨_, rfl⟩
      rw [hz] at HKO HZ HPI
      obtain ⟨E, hE⟩ : ∃ t, ptE k1 a1 n1 f1 = t := ⟨_, rfl⟩
      rw [hE] at HE HCH
      obtain ⟨p0, p1, p2, p3⟩ := hpc
      have HB1 : Hid (Below w.heap.size w (wr.alloc (PBox k1 a1 n1 f1)) ∧ (wr.alloc (PBox k1 a1 n1 f1)).heap[wr.heap.size]? = some (PBox k1 a1 n1 f1)) := ⟨HBW.out.alloc HBW.out.size _, nblkM _ _⟩
      obtain ⟨V1, hV1⟩ : ∃ V, Hid (wr.alloc (PBox k1 a1 n1 f1) = V) := ⟨_, rfl⟩
      rw [hV1.out] at HB1
      have hV1' := hV1.out
      unfold PBox at hV1'
      obtain ⟨q0, q1, q2, q3⟩ := ptcells_of HB1.out.2
      have HLT := hid hlt
      clear hk1 ha1 hn1 hf1 hz hE hlt
      go_wp2_with fail
      refine (HCH.out _).mono ?_
      rintro e w2 ⟨rfl, hb⟩
      have HB2 : Hid (Below w.heap.size w w2 ∧ w2.heap[wr.heap.size]? = some (PBox k1 a1 n1 f1)) := ⟨HB1.out.1.trans (hb.mono HB1.out.1.size), blkM HB1.out.2 hb⟩
      clear hb
      by_cases hE0 : E = 0
      · subst hE0
        obtain ⟨_, _, ha, hz⟩ := HPI.out HE.out.symm
        have hD := cS_in (ptS K A) k (fun i hi => (ptS_in (scE_all HS.out i hi)).1)
        rw [← HD.out] at hD
        obtain ⟨_, m1, m2⟩ := mul_facts ha hz hD
        obtain ⟨m3, m4⟩ := mul_factsI ha hz hD
        have HCC : Hid (∀ W, Hid (Below w.heap.size w W ∧ W.heap[wr.heap.size]? = some (PBox k1 a1 n1 f1)) → (W.cell? ⟨wr.heap.size, 0, none⟩ = some (.int .i64 k1) ∧ W.cell? ⟨wr.heap.size, 1, none⟩ = some (.int .i64 a1) ∧ W.cell? ⟨wr.heap.size, 2, none⟩ = some (.float .f64 n1) ∧ W.cell? ⟨wr.heap.size, 3, none⟩ = some (.float .f64 f1)) ∧ Hid (Below w.heap.size w W ∧ W.heap[wr.heap.size]? = some (PBox k1 a1 n1 f1))) := fun W h => ⟨ptcells_of h.out.2, h⟩
        have HQ0 : Hid (Below w.heap.size w w2.drew ∧ w2.drew.heap[wr.heap.size]? = some (PBox k1 a1 n1 f1)) := ⟨HB2.out.1.drew, HB2.out.2⟩
        have HNX : Hid (min (D + a1 * z) 13 = cS (ptS K A) (k + 1)) := by
          show min (D + a1 * z) 13 = min (cS (ptS K A) k + ptS K A k) 13
          rw [HD.out, HZ.out]
        have HS2 : Hid (scE (ptEs K A N F) (k + 1) = 0) := scE_step HS.out HE.out.symm
        obtain ⟨M, hM⟩ : ∃ t, a1 * z = t := ⟨_, rfl⟩
        rw [hM] at m1 m2 m3 m4 HNX
        obtain ⟨D2, hD2⟩ : ∃ t, D + M = t := ⟨_, rfl⟩
        rw [hD2] at m2 m4 HNX
        clear ha hz hD
        go_wp2_with fail
        refine wp_region_held_drew (S := fun W => (W.cell? ⟨wr.heap.size, 0, none⟩ = some (.int .i64 k1) ∧ W.cell? ⟨wr.heap.size, 1, none⟩ = some (.int .i64 a1) ∧ W.cell? ⟨wr.heap.size, 2, none⟩ = some (.float .f64 n1) ∧ W.cell? ⟨wr.heap.size, 3, none⟩ = some (.float .f64 f1)) ∧ Hid (Below w.heap.size w W ∧ W.heap[wr.heap.size]? = some (PBox k1 a1 n1 f1))) (by kernel_rfl) (HCC.out _ HQ0) (fun hHeld => ?_)
        refine take_at 0 24 (.int .i64 D) rfl rfl (by kernel_rfl) (by kernel_rfl) (by kernel_rfl) (fun _ _ _ h => h) (Or.inl ⟨by rfl, fun w hSw => by (try dsimp only at hSw); go_simp⟩) (by assumption) ?_
        simp only [Act.put, List.setIfInBounds_toArray, List.set_cons_zero, List.set_cons_succ]
        refine take_at 1 25 (.pointer (some ⟨wr.heap.size, 1, none⟩)) rfl rfl (by kernel_rfl) (by kernel_rfl) (by kernel_rfl) (fun _ _ _ h => h) (Or.inl ⟨by rfl, fun w hSw => by (try dsimp only at hSw); go_simp⟩) (by assumption) ?_
        simp only [Act.put, List.setIfInBounds_toArray, List.set_cons_zero, List.set_cons_succ]
        refine take_at 2 26 (.int .i64 a1) rfl rfl (by kernel_rfl) (by kernel_rfl) (by kernel_rfl) (fun _ _ _ h => h) (Or.inl ⟨by rfl, fun w hSw => by (try dsimp only at hSw); go_simp⟩) (by assumption) ?_
        simp only [Act.put, List.setIfInBounds_toArray, List.set_cons_zero, List.set_cons_succ]
        refine take_at 3 27 (.agg #[.int .i64 k1, .int .i64 a1, .float .f64 n1, .float .f64 f1]) rfl rfl (by kernel_rfl) (by kernel_rfl) (by kernel_rfl) (fun _ _ _ h => h) (Or.inl ⟨by rfl, fun w hSw => by (try dsimp only at hSw); go_simp⟩) (by assumption) ?_
        simp only [Act.put, List.setIfInBounds_toArray, List.set_cons_zero, List.set_cons_succ]
        refine wpAnyH_ready (rs := [4]) (by kernel_rfl) (by simp) ?_
        refine AllReadyH.cons (o := _) rfl (fun K' hK => ?_) AllReadyH.nil
        go_simp
        refine (HKO.out _).mono ?_
        rintro e u1 ⟨⟨v1, v2, v3, rfl⟩, hb⟩
        have HB3 : Hid (Below w.heap.size w u1 ∧ u1.heap[wr.heap.size]? = some (PBox k1 a1 n1 f1)) := ⟨HQ0.out.1.trans (hb.mono HQ0.out.1.size), blkM HQ0.out.2 hb⟩
        clear hb
        go_wp2_with fail
        refine hK.out _ _ (HCC.out _ HB3) (fun hHeld1 => ?_)
        clear hK K'
        try simp only [Act.put, List.setIfInBounds_toArray, List.set_cons_zero, List.set_cons_succ]
        refine take_at 5 29 (.int .i64 z) rfl rfl (by kernel_rfl) (by kernel_rfl) (by kernel_rfl) (fun _ _ _ h => h) (Or.inl ⟨by rfl, fun w hSw => by (try dsimp only at hSw); go_simp⟩) (by assumption) ?_
        simp only [Act.put, List.setIfInBounds_toArray, List.set_cons_zero, List.set_cons_succ]
        refine take_at 6 30 (.int .i64 M) rfl rfl (by kernel_rfl) (by kernel_rfl) (by kernel_rfl) (fun _ _ _ h => h) (Or.inl ⟨by rfl, fun w hSw => by (try dsimp only at hSw); go_simp⟩) (by assumption) ?_
        simp only [Act.put, List.setIfInBounds_toArray, List.set_cons_zero, List.set_cons_succ]
        refine take_at 7 31 (.int .i64 D2) rfl rfl (by kernel_rfl) (by kernel_rfl) (by kernel_rfl) (fun _ _ _ h => h) (Or.inl ⟨by rfl, fun w hSw => by (try dsimp only at hSw); go_simp⟩) (by assumption) ?_
        simp only [Act.put, List.setIfInBounds_toArray, List.set_cons_zero, List.set_cons_succ]
        refine take_at 8 32 (.int .i64 (min D2 13)) rfl rfl (by kernel_rfl) (by kernel_rfl) (by kernel_rfl) (fun _ _ _ h => h) (Or.inl ⟨by rfl, fun w hSw => by (try dsimp only at hSw); go_simp⟩) (by assumption) ?_
        simp only [Act.put, List.setIfInBounds_toArray, List.set_cons_zero, List.set_cons_succ]
        refine take_at 9 4 (.int .i64 (min D2 13)) rfl rfl (by kernel_rfl) (by kernel_rfl) (by kernel_rfl) (fun _ _ _ h => h) (Or.inl ⟨by rfl, fun w hSw => by (try dsimp only at hSw); go_simp⟩) (by assumption) ?_
        simp only [Act.put, List.setIfInBounds_toArray, List.set_cons_zero, List.set_cons_succ]
        refine wpAnyH_done (by kernel_rfl) ?_ _
        have hlt2 := HLT.out
        go_wp2_with fail
        go_roundw
        case rel => exact ⟨k + 1, min D2 13, by omega, by go_num, rfl, HNX.out, HS2, HB3.out.1⟩
        case measure => simp [intOf]; omega
      · have hne : (E != 0) = true := by simpa using hE0
        obtain ⟨x1, x2⟩ := dm_err HS.out (by rw [← HE.out]; exact hE0) HLT.out
        rw [← HE.out] at x1
        have HX := hid (ret_dm x2.symm x1.symm)
        clear x1 x2
        go_wp2_with fail
        exact bodyPost_ret (v := .tuple #[.int .i64 0, .int .i64 E]) (by simp [results, Try.results6, go_sem]) rfl ⟨HX.out, HB2.out.1⟩
    · obtain rfl : k = n := by omega
      by_cases hD : 12 < D
      · obtain ⟨x1, x2⟩ := dm_long HS.out HN0.out (by rw [← HD.out]; exact hD)
        have HX := hid (ret_dm x2.symm x1.symm)
        clear x1 x2
        go_wp2_with fail
        exact bodyPost_ret (v := .tuple #[.int .i64 0, .int .i64 2]) (by simp [results, Try.results6, go_sem]) rfl ⟨HX.out, HBW.out⟩
      · obtain ⟨x1, x2⟩ := dm_fine HS.out HN0.out (by rw [← HD.out]; exact hD)
        rw [← HD.out] at x2
        have HX := hid (ret_dm x2.symm x1.symm)
        clear x1 x2
        go_wp2_with fail
        exact bodyPost_ret (v := .tuple #[.int .i64 D, .int .i64 0]) (by simp [results, Try.results6, go_sem]) rfl ⟨HX.out, HBW.out⟩
set_option maxHeartbeats 1000000 in
theorem Check_mo (sa : Option Addr) (n cap : Nat) (K A : Nat → Int) (N F : Nat → Nat) (w : World) (h : PtF w sa n K A N F) (hn : n ≤ 4398046511104) : Calls Try.prog 7 #[.agg #[.slice sa n cap]] w fun r w' => r = .returned (.int .i64 (dmE n K A N F)) ∧ Below w.heap.size w w' := by
  have HB0 : Hid (Below w.heap.size w (w.alloc (MoBox sa n cap))) := (Below.refl _ _).alloc (Nat.le_refl _) _
  have HD := hid (fun W (hW : Below w.heap.size w W) => Dim_any sa n cap K A N F W (h.below hW) hn)
  have c0 := mocell_of (nblkM w (MoBox sa n cap))
  obtain ⟨V, hV⟩ : ∃ V, Hid (w.alloc (MoBox sa n cap) = V) := ⟨_, rfl⟩
  rw [hV.out] at HB0 c0
  have hV' := hV.out
  unfold MoBox at hV'
  clear h hn
  go_enter Try.func7, Try.ntmps7
  go_wp2_with fail
  refine (HD.out _ HB0.out).mono ?_
  rintro e w1 ⟨rfl, hb⟩
  have HB1 := hid (HB0.out.trans (hb.mono HB0.out.size))
  clear hb
  go_wp2_with fail
  go_ret
  exact ⟨rfl, HB1.out⟩
end Go.Proofs.Ytggiklghcnojiaa
