
/- The document's Place. -/
import Derived.Test.YtfngjoaghbofgaaDoorP44
namespace Go.Proofs.YtfngjoaghbofgaaDoor
open Go.RowKit Go.IntWalk

theorem pl_wraps {S z p x : Int} (hS : 0 ≤ S) (hp : 0 ≤ p) (hz : 1 ≤ z ∧ z ≤ 3) (ht : S + p * z + z ≤ 12) (hx : 0 ≤ x ∧ x < z) : wrap64 (p * z) = p * z ∧ wrap64 (S + p * z) = S + p * z ∧ wrap64 (S + p * z + x) = S + p * z + x := by
  have h0 : 0 ≤ p * z := Int.mul_nonneg hp (by omega)
  exact ⟨wrap64_in _ (by omega), wrap64_in _ (by omega), wrap64_in _ (by omega)⟩
set_option maxRecDepth 4000 in
set_option maxHeartbeats 4000000 in
theorem rPlace_any (sa : Option Addr) (n cap : Nat) (K A : Nat → Int) (N F : Nat → Nat) (part axis order : Int) (w : World) (h : PtF w sa n K A N F) (hn : n ≤ 4398046511104) : Calls Tryd.prog 11 #[.agg #[.slice sa n cap], .int .i64 part, .int .i64 axis, .int .i64 order] w fun r w' => r = .returned (.tuple #[.int .i64 (plV n K A N F part axis order), .int .i64 (plE n K A N F part axis order)]) ∧ Below w.heap.size w w' := by
  have HB0 : Hid (Below w.heap.size w (w.alloc (MoBox sa n cap)) ∧ (w.alloc (MoBox sa n cap)).heap[w.heap.size]? = some (MoBox sa n cap)) := ⟨(Below.refl _ _).alloc (Nat.le_refl _) _, nblkM _ _⟩
  have HCK := hid (fun W (hW : Below w.heap.size w W) => rCheck_mo sa n cap K A N F W (h.below hW) hn)
  have HP := hid h
  obtain ⟨V, hV⟩ : ∃ V, Hid (w.alloc (MoBox sa n cap) = V) := ⟨_, rfl⟩
  rw [hV.out] at HB0
  have hV' := hV.out
  unfold MoBox at hV'
  have c0 := mocell_of HB0.out.2
  have HRB : Hid (∀ W, Below V.heap.size V W → Below w.heap.size w W ∧ W.heap[w.heap.size]? = some (MoBox sa n cap)) := fun W hW => ⟨HB0.out.1.trans (hW.mono HB0.out.1.size), blkM HB0.out.2 hW⟩
  by_cases hE0 : dmE n K A N F = 0
  · obtain ⟨h0, y1, y2, y3, y4, y5⟩ := dm_zero hE0
    have HY1 := hid (scE_all y1)
    have HY4 := hid y4
    have HNO := hid (fun hp => @pl_no n K A N F part axis order hE0 hp)
    have HYES := hid (fun hp => @pl_yes n K A N F part axis order hE0 hp)
    rw [hE0] at HCK
    obtain ⟨b, off, rfl, hbl, hcl⟩ := HP.out.2 h0
    have HC := hid (fun W (hW : Below w.heap.size w W) i hi => pt_at hbl hcl hW i hi)
    clear hE0 h0 y1 y2 y3 y4 y5 hcl h
    go_enter Tryd.func11, Tryd.ntmps11
    go_wp2_with fail
    refine (HCK.out _ HB0.out.1).mono ?_
    rintro e w1 ⟨rfl, hb⟩
    have HBV := hid hb
    have HBW := hid (HRB.out w1 hb)
    have c0 := mocell_of HBW.out.2
    clear hb
    by_cases q1 : part < 0
    · obtain ⟨x1, x2⟩ := HNO.out (fun hp => absurd hp.1 (by omega))
      have HX := hid (ret_dm x2.symm x1.symm)
      clear x1 x2
      go_wp2_with fail
      exact bodyPost_ret (v := .tuple #[.int .i64 0, .int .i64 1]) (by simp [results, Tryd.results11, go_sem]) rfl ⟨HX.out, HBW.out.1⟩
    by_cases q2 : (n : Int) ≤ part
    · obtain ⟨x1, x2⟩ := HNO.out (fun hp => absurd hp.2.1 (by omega))
      have HX := hid (ret_dm x2.symm x1.symm)
      clear x1 x2
      go_wp2_with fail
      exact bodyPost_ret (v := .tuple #[.int .i64 0, .int .i64 1]) (by simp [results, Tryd.results11, go_sem]) rfl ⟨HX.out, HBW.out.1⟩
    obtain ⟨p, rfl⟩ := Int.eq_ofNat_of_zero_le (show 0 ≤ part by omega)
    have hpn : p < n := by omega
    have q2' : ¬ (n : Int) ≤ (p : Int) := q2
    have hp0 : (0 : Int) ≤ (p : Int) := by omega
    have hpI : (p : Int) < (n : Int) := by omega
    have hd1 : decide ((p : Int) < 0) = false := decide_eq_false (by omega)
    have hd2 : decide (n ≤ p) = false := decide_eq_false (by omega)
    obtain ⟨u0, u1, u2, u3⟩ := HC.out w1 HBW.out.1 p hpn
    have HSZ := hid (fun W => size_any (K p) W)
    obtain ⟨_, _, ha', hz', hz3⟩ := ptS_in (HY1.out p hpn)
    have HAZ := hid (And.intro ha' (And.intro hz' hz3))
    have HKP : Hid (((p : Int)).toNat = p) := Int.toNat_natCast p
    unfold PlOk at HNO HYES
    rw [HKP.out] at HNO HYES
    have HU1 : Hid (uS (ptS K A) p + A p * szK (K p) ≤ 12 ∧ 0 ≤ uS (ptS K A) p) := by
      obtain ⟨a1, a2, a3⟩ := HY4.out (p + 1) (by omega)
      obtain ⟨b1, b2, b3⟩ := HY4.out p (by omega)
      have c1 : uS (ptS K A) (p + 1) = uS (ptS K A) p + A p * szK (K p) := rfl
      show _ ∧ _
      omega
    obtain ⟨k9, hk9⟩ : ∃ t, K p = t := ⟨_, rfl⟩
    obtain ⟨a9, ha9⟩ : ∃ t, A p = t := ⟨_, rfl⟩
    rw [hk9] at u0 HSZ HNO HYES HAZ HU1
    have HK9 := hid hk9
    rw [ha9] at u1 HNO HYES HAZ HU1
    obtain ⟨z9, hz9⟩ : ∃ t, szK k9 = t := ⟨_, rfl⟩
    rw [hz9] at HSZ HNO HYES HAZ HU1
    clear ha' hz' hz3 hk9 ha9 hz9 u2 u3 q1 q2 HKP
    by_cases q3 : axis < 0
    · obtain ⟨x1, x2⟩ := HNO.out (fun hp => absurd hp.2.2.1 (by omega))
      have HX := hid (ret_dm x2.symm x1.symm)
      clear x1 x2
      go_wp2_with fail
      exact bodyPost_ret (v := .tuple #[.int .i64 0, .int .i64 1]) (by simp [results, Tryd.results11, go_sem]) rfl ⟨HX.out, HBW.out.1⟩
    have hd3 : decide (axis < 0) = false := decide_eq_false q3
    by_cases q4 : a9 ≤ axis
    · obtain ⟨x1, x2⟩ := HNO.out (fun hp => absurd hp.2.2.2.1 (by omega))
      have HX := hid (ret_dm x2.symm x1.symm)
      clear x1 x2
      go_wp2_with fail
      exact bodyPost_ret (v := .tuple #[.int .i64 0, .int .i64 1]) (by simp [results, Tryd.results11, go_sem]) rfl ⟨HX.out, HBW.out.1⟩
    have hd4 : decide (a9 ≤ axis) = false := decide_eq_false q4
    by_cases q5 : order < 0
    · obtain ⟨x1, x2⟩ := HNO.out (fun hp => absurd hp.2.2.2.2.1 (by omega))
      have HX := hid (ret_dm x2.symm x1.symm)
      clear x1 x2
      go_wp2_with fail
      exact bodyPost_ret (v := .tuple #[.int .i64 0, .int .i64 1]) (by simp [results, Tryd.results11, go_sem]) rfl ⟨HX.out, HBW.out.1⟩
    have hd5 : decide (order < 0) = false := decide_eq_false q5
    go_wp2_with fail
    refine (HSZ.out _).mono ?_
    rintro e w2 ⟨rfl, hw⟩
    rw [hw]
    clear hw
    by_cases q6 : z9 ≤ order
    · obtain ⟨x1, x2⟩ := HNO.out (fun hp => absurd hp.2.2.2.2.2 (by omega))
      have HX := hid (ret_dm x2.symm x1.symm)
      clear x1 x2
      go_wp2_with fail
      exact bodyPost_ret (v := .tuple #[.int .i64 0, .int .i64 1]) (by simp [results, Tryd.results11, go_sem]) rfl ⟨HX.out, HBW.out.1⟩
    have hd6 : decide (z9 ≤ order) = false := decide_eq_false q6
    clear u0 u1 c0
    go_wp2_with fail
    go_loopw [11, 12] (fun dv iv wr => ∃ (k : Nat) (S : Int), k ≤ p ∧ iv = .int .i64 k ∧ dv = .int .i64 S ∧ Hid (S = uS (ptS K A) k) ∧ Hid (Below V.heap.size V wr)) (fun _ iv _ => p - (intOf iv).toNat)
    case atStart => exact ⟨0, 0, Nat.zero_le _, rfl, rfl, rfl, HBV⟩
    case round =>
      obtain ⟨k, S, hk, rfl, rfl, HS, HBVr⟩ := hrel
      have HBR := hid (HRB.out wr HBVr.out)
      have c0 := mocell_of HBR.out.2
      by_cases hlt : k < p
      · have hpc := HC.out wr HBR.out.1 k (by omega)
        have HSZ2 := hid (fun W => size_any (K k) W)
        obtain ⟨_, _, ha', hz'⟩ := ptS_in (HY1.out k (by omega))
        obtain ⟨v1, v2, v3⟩ := HY4.out k (by omega)
        rw [← v1, ← HS.out] at v2 v3
        obtain ⟨_, m1, m2⟩ := mul_facts ha' hz' ⟨v2, by omega⟩
        obtain ⟨m3, m4⟩ := mul_factsI ha' hz' ⟨v2, by omega⟩
        have hkI : (k : Int) < (p : Int) := by omega
        have hkn : (k : Int) < (n : Int) := by omega
        have hk0 : (0 : Int) ≤ (k : Int) := by omega
        have HNX : Hid (S + A k * szK (K k) = uS (ptS K A) (k + 1)) := by
          show S + A k * szK (K k) = uS (ptS K A) k + ptS K A k
          rw [HS.out]
          rfl
        obtain ⟨k1, hk1⟩ : ∃ t, K k = t := ⟨_, rfl⟩
        obtain ⟨a1, ha1⟩ : ∃ t, A k = t := ⟨_, rfl⟩
        rw [hk1, ha1] at hpc HNX m1 m2 m3 m4
        rw [hk1] at HSZ2
        obtain ⟨z, hz⟩ : ∃ t, szK k1 = t := ⟨_, rfl⟩
        rw [hz] at HSZ2 HNX m1 m2 m3 m4
        obtain ⟨M, hM⟩ : ∃ t, a1 * z = t := ⟨_, rfl⟩
        rw [hM] at m1 m2 m3 m4 HNX
        obtain ⟨D2, hD2⟩ : ∃ t, S + M = t := ⟨_, rfl⟩
        rw [hD2] at m2 m4 HNX
        obtain ⟨p0, p1, _, _⟩ := hpc
        have HQ0 : Hid (wr.drew.cell? ⟨w.heap.size, 0, none⟩ = some (.slice (some ⟨b, off, none⟩) n cap) ∧ wr.drew.cell? ⟨b, off + k * 4, none⟩ = some (.int .i64 k1) ∧ wr.drew.cell? ⟨b, off + k * 4 + 1, none⟩ = some (.int .i64 a1)) := ⟨c0, p0, p1⟩
        clear hk1 ha1 hz ha' hz' v1 v2 v3
        go_wp2_with fail
        refine wp_region_held_drew (S := fun W => W.cell? ⟨w.heap.size, 0, none⟩ = some (.slice (some ⟨b, off, none⟩) n cap) ∧ W.cell? ⟨b, off + k * 4, none⟩ = some (.int .i64 k1) ∧ W.cell? ⟨b, off + k * 4 + 1, none⟩ = some (.int .i64 a1)) (by kernel_rfl) HQ0.out (fun hHeld => ?_)
        refine take_at 0 61 (.int .i64 S) rfl rfl (by kernel_rfl) (by kernel_rfl) (by kernel_rfl) (fun _ _ _ h => h) (Or.inl ⟨by rfl, fun w hSw => by (try dsimp only at hSw); go_simp⟩) (by assumption) ?_
        simp only [Act.put, List.setIfInBounds_toArray, List.set_cons_zero, List.set_cons_succ]
        refine take_at 1 62 (.pointer (some ⟨w.heap.size, 0, none⟩)) rfl rfl (by kernel_rfl) (by kernel_rfl) (by kernel_rfl) (fun _ _ _ h => h) (Or.inl ⟨by rfl, fun w hSw => by (try dsimp only at hSw); go_simp⟩) (by assumption) ?_
        simp only [Act.put, List.setIfInBounds_toArray, List.set_cons_zero, List.set_cons_succ]
        refine take_at 2 63 (.slice (some ⟨b, off, none⟩) n cap) rfl rfl (by kernel_rfl) (by kernel_rfl) (by kernel_rfl) (fun _ _ _ h => h) (Or.inl ⟨by rfl, fun w hSw => by (try dsimp only at hSw); go_simp⟩) (by assumption) ?_
        simp only [Act.put, List.setIfInBounds_toArray, List.set_cons_zero, List.set_cons_succ]
        refine take_at 3 64 (.int .i64 k) rfl rfl (by kernel_rfl) (by kernel_rfl) (by kernel_rfl) (fun _ _ _ h => h) (Or.inl ⟨by rfl, fun w hSw => by (try dsimp only at hSw); go_simp⟩) (by assumption) ?_
        simp only [Act.put, List.setIfInBounds_toArray, List.set_cons_zero, List.set_cons_succ]
        refine take_at 4 65 (.pointer (some ⟨b, off + k * 4, none⟩)) rfl rfl (by kernel_rfl) (by kernel_rfl) (by kernel_rfl) (fun _ _ _ h => h) (Or.inl ⟨by rfl, fun w hSw => by (try dsimp only at hSw); go_simp⟩) (by assumption) ?_
        simp only [Act.put, List.setIfInBounds_toArray, List.set_cons_zero, List.set_cons_succ]
        refine take_at 5 66 (.pointer (some ⟨b, off + k * 4 + 1, none⟩)) rfl rfl (by kernel_rfl) (by kernel_rfl) (by kernel_rfl) (fun _ _ _ h => h) (Or.inl ⟨by rfl, fun w hSw => by (try dsimp only at hSw); go_simp⟩) (by assumption) ?_
        simp only [Act.put, List.setIfInBounds_toArray, List.set_cons_zero, List.set_cons_succ]
        refine take_at 6 67 (.int .i64 a1) rfl rfl (by kernel_rfl) (by kernel_rfl) (by kernel_rfl) (fun _ _ _ h => h) (Or.inl ⟨by rfl, fun w hSw => by (try dsimp only at hSw); go_simp⟩) (by assumption) ?_
        simp only [Act.put, List.setIfInBounds_toArray, List.set_cons_zero, List.set_cons_succ]
        refine take_at 7 68 (.pointer (some ⟨w.heap.size, 0, none⟩)) rfl rfl (by kernel_rfl) (by kernel_rfl) (by kernel_rfl) (fun _ _ _ h => h) (Or.inl ⟨by rfl, fun w hSw => by (try dsimp only at hSw); go_simp⟩) (by assumption) ?_
        simp only [Act.put, List.setIfInBounds_toArray, List.set_cons_zero, List.set_cons_succ]
        refine take_at 8 69 (.slice (some ⟨b, off, none⟩) n cap) rfl rfl (by kernel_rfl) (by kernel_rfl) (by kernel_rfl) (fun _ _ _ h => h) (Or.inl ⟨by rfl, fun w hSw => by (try dsimp only at hSw); go_simp⟩) (by assumption) ?_
        simp only [Act.put, List.setIfInBounds_toArray, List.set_cons_zero, List.set_cons_succ]
        refine take_at 9 70 (.int .i64 k) rfl rfl (by kernel_rfl) (by kernel_rfl) (by kernel_rfl) (fun _ _ _ h => h) (Or.inl ⟨by rfl, fun w hSw => by (try dsimp only at hSw); go_simp⟩) (by assumption) ?_
        simp only [Act.put, List.setIfInBounds_toArray, List.set_cons_zero, List.set_cons_succ]
        refine take_at 10 71 (.pointer (some ⟨b, off + k * 4, none⟩)) rfl rfl (by kernel_rfl) (by kernel_rfl) (by kernel_rfl) (fun _ _ _ h => h) (Or.inl ⟨by rfl, fun w hSw => by (try dsimp only at hSw); go_simp⟩) (by assumption) ?_
        simp only [Act.put, List.setIfInBounds_toArray, List.set_cons_zero, List.set_cons_succ]
        refine take_at 11 72 (.pointer (some ⟨b, off + k * 4, none⟩)) rfl rfl (by kernel_rfl) (by kernel_rfl) (by kernel_rfl) (fun _ _ _ h => h) (Or.inl ⟨by rfl, fun w hSw => by (try dsimp only at hSw); go_simp⟩) (by assumption) ?_
        simp only [Act.put, List.setIfInBounds_toArray, List.set_cons_zero, List.set_cons_succ]
        refine take_at 12 73 (.int .i64 k1) rfl rfl (by kernel_rfl) (by kernel_rfl) (by kernel_rfl) (fun _ _ _ h => h) (Or.inl ⟨by rfl, fun w hSw => by (try dsimp only at hSw); go_simp⟩) (by assumption) ?_
        simp only [Act.put, List.setIfInBounds_toArray, List.set_cons_zero, List.set_cons_succ]
        refine wpAnyH_ready (rs := [13]) (by kernel_rfl) (by simp) ?_
        refine AllReadyH.cons (o := _) rfl (fun K' hK => ?_) AllReadyH.nil
        go_simp
        refine (HSZ2.out _).mono ?_
        rintro e u1 ⟨rfl, hw⟩
        rw [hw]
        clear hw
        go_wp2_with fail
        refine hK.out _ _ HQ0.out (fun hHeld1 => ?_)
        clear hK K'
        try simp only [Act.put, List.setIfInBounds_toArray, List.set_cons_zero, List.set_cons_succ]
        refine take_at 14 75 (.int .i64 M) rfl rfl (by kernel_rfl) (by kernel_rfl) (by kernel_rfl) (fun _ _ _ h => h) (Or.inl ⟨by rfl, fun w hSw => by (try dsimp only at hSw); go_simp⟩) (by assumption) ?_
        simp only [Act.put, List.setIfInBounds_toArray, List.set_cons_zero, List.set_cons_succ]
        refine take_at 15 76 (.int .i64 D2) rfl rfl (by kernel_rfl) (by kernel_rfl) (by kernel_rfl) (fun _ _ _ h => h) (Or.inl ⟨by rfl, fun w hSw => by (try dsimp only at hSw); go_simp⟩) (by assumption) ?_
        simp only [Act.put, List.setIfInBounds_toArray, List.set_cons_zero, List.set_cons_succ]
        refine take_at 16 11 (.int .i64 D2) rfl rfl (by kernel_rfl) (by kernel_rfl) (by kernel_rfl) (fun _ _ _ h => h) (Or.inl ⟨by rfl, fun w hSw => by (try dsimp only at hSw); go_simp⟩) (by assumption) ?_
        simp only [Act.put, List.setIfInBounds_toArray, List.set_cons_zero, List.set_cons_succ]
        refine wpAnyH_done (by kernel_rfl) ?_ _
        go_wp2_with fail
        go_roundw
        case rel => exact ⟨k + 1, D2, by omega, by go_num, rfl, HNX.out, HBVr.out.drew⟩
        case measure => simp [intOf]; omega
      · obtain rfl : k = p := by omega
        have HSU := hid HS.out
        obtain ⟨ha', hz', hz3⟩ := HAZ.out
        obtain ⟨g1, g2⟩ := HU1.out
        rw [← HS.out] at g1 g2
        have g3 : (axis + 1) * z9 ≤ a9 * z9 := Int.mul_le_mul_of_nonneg_right (by omega) (by omega)
        rw [Int.add_mul, Int.one_mul] at g3
        obtain ⟨w1', w2', w3'⟩ := pl_wraps (S := S) (z := z9) (p := axis) (x := order) g2 (by omega) ⟨hz', hz3⟩ (by omega) ⟨by omega, by omega⟩
        obtain ⟨x1, x2⟩ := HYES.out ⟨by omega, by omega, by omega, by omega, by omega, by omega⟩
        rw [← HS.out] at x2
        have HX := hid (ret_dm x2.symm x1.symm)
        have hkk : ¬ (k : Int) < (k : Int) := by omega
        obtain ⟨M, hM⟩ : ∃ t, axis * z9 = t := ⟨_, rfl⟩
        rw [hM] at w1' w2' w3' HX
        obtain ⟨D2, hD2⟩ : ∃ t, S + M = t := ⟨_, rfl⟩
        rw [hD2] at w2' w3' HX
        obtain ⟨u0, u1, u2, u3⟩ := HC.out wr HBR.out.1 k hpn
        rw [HK9.out] at u0
        clear x1 x2 g1 g2 g3 ha' hz' hz3 u1 u2 u3 HNO HYES HU1 HAZ HS
        go_wp2_with fail
        refine (HSZ.out _).mono ?_
        rintro e w2 ⟨rfl, hw⟩
        rw [hw]
        clear hw
        go_wp2_with fail
        exact bodyPost_ret (v := .tuple #[.int .i64 (D2 + order), .int .i64 0]) (by simp [results, Tryd.results11, go_sem, w3']) rfl ⟨HX.out, HBR.out.1⟩
  · obtain ⟨x1, x2⟩ := @pl_err n K A N F part axis order hE0
    rw [x1, x2]
    obtain ⟨E, hE⟩ : ∃ t, dmE n K A N F = t := ⟨_, rfl⟩
    rw [hE] at HCK hE0
    rw [hE]
    have hne : (E != 0) = true := by simpa using hE0
    clear h hn x1 x2 hE hE0
    go_enter Tryd.func11, Tryd.ntmps11
    go_wp2_with fail
    refine (HCK.out _ HB0.out.1).mono ?_
    rintro e w1 ⟨rfl, hb⟩
    have HB1 := hid (HB0.out.1.trans (hb.mono HB0.out.1.size))
    clear hb
    go_wp2_with fail
    exact bodyPost_ret (v := .tuple #[.int .i64 0, .int .i64 E]) (by simp [results, Tryd.results11, go_sem]) rfl ⟨rfl, HB1.out⟩
end Go.Proofs.YtfngjoaghbofgaaDoor
