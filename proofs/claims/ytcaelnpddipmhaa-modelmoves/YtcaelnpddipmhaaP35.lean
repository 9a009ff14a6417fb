
/- The document's: Check and Dim of any motion. -/
import Derived.Test.YtcaelnpddipmhaaP34
namespace Go.Proofs.Ytcaelnpddipmhaa
open Go.RowKit Go.IntWalk

theorem ptE_is (k a : Int) (n f : Nat) : (szK k = 0 → ptE k a n f = 140) ∧ (szK k ≠ 0 → (a < 1 ∨ 12 < a) → ptE k a n f = 1) ∧ (szK k ≠ 0 → ¬ (a < 1 ∨ 12 < a) → finM [n, f] = false → ptE k a n f = 4) ∧ (szK k ≠ 0 → ¬ (a < 1 ∨ 12 < a) → finM [n, f] = true → (fltB n = true ∨ fltB f = true) → ptE k a n f = 141) ∧ (szK k ≠ 0 → ¬ (a < 1 ∨ 12 < a) → finM [n, f] = true → ¬ (fltB n = true ∨ fltB f = true) → ptE k a n f = 0) := by
  unfold ptE
  refine ⟨fun h0 => ?_, fun h0 h1 => ?_, fun h0 h1 h2 => ?_, fun h0 h1 h2 h3 => ?_, fun h0 h1 h2 h3 => ?_⟩
  · rw [if_pos h0]
  · rw [if_neg h0, if_pos h1]
  · rw [if_neg h0, if_neg h1, if_pos h2]
  · rw [if_neg h0, if_neg h1, if_neg (by rw [h2]; decide), if_pos h3]
  · rw [if_neg h0, if_neg h1, if_neg (by rw [h2]; decide), if_neg h3]
theorem dm_errc {n k : Nat} {K A : Nat → Int} {N F : Nat → Nat} (h0 : scE (ptEs K A N F) k = 0) (hk : k < n) {E : Int} (h1 : E ≠ 0) (h : ptEs K A N F k = E) : Ending.returned (.int .i64 E) = .returned (.int .i64 (dmE n K A N F)) := by
  rw [(dm_err h0 (by rw [h]; exact h1) hk).1, h]
theorem ret_dmE {a c : Int} (h1 : a = c) : Ending.returned (.int .i64 a) = .returned (.int .i64 c) := by rw [h1]
set_option maxRecDepth 2000 in
set_option maxHeartbeats 4000000 in
theorem rCheck_mo (sa : Option Addr) (n cap : Nat) (K A : Nat → Int) (N F : Nat → Nat) (w : World) (h : PtF w sa n K A N F) (hn : n ≤ 4398046511104) : Calls Try.prog 49 #[.agg #[.slice sa n cap]] w fun r w' => r = .returned (.int .i64 (dmE n K A N F)) ∧ Below w.heap.size w w' := by
  have HB0 : Hid (Below w.heap.size w (w.alloc (MoBox sa n cap)) ∧ (w.alloc (MoBox sa n cap)).heap[w.heap.size]? = some (MoBox sa n cap)) := ⟨(Below.refl _ _).alloc (Nat.le_refl _) _, nblkM _ _⟩
  obtain ⟨V, hV⟩ : ∃ V, Hid (w.alloc (MoBox sa n cap) = V) := ⟨_, rfl⟩
  rw [hV.out] at HB0
  have hV' := hV.out
  unfold MoBox at hV'
  have c0 := mocell_of HB0.out.2
  have hst := fstoreM
  have HP := hid h
  have HRB : Hid (∀ W, Below V.heap.size V W → Below w.heap.size w W ∧ W.heap[w.heap.size]? = some (MoBox sa n cap)) := fun W hW => ⟨HB0.out.1.trans (hW.mono HB0.out.1.size), blkM HB0.out.2 hW⟩
  clear h
  by_cases h0 : n = 0
  · subst h0
    rw [dm_none.1]
    go_enter Try.func49, Try.ntmps49
    go_wp2_with fail
    go_ret
    exact ⟨rfl, HB0.out.1⟩
  obtain ⟨b, off, rfl, hbl, hcl⟩ := HP.out.2 h0
  have HN0 := hid h0
  have hn0 : ((n : Int) == 0) = false := by rw [beq_eq_false_iff_ne]; omega
  have HC := hid (fun W (hW : Below w.heap.size w W) i hi => pt_at hbl hcl hW i hi)
  clear hcl h0
  go_enter Try.func49, Try.ntmps49
  go_wp2_with fail
  clear c0
  go_loopw [3, 4] (fun dv iv wr => ∃ (k : Nat) (D : Int), k ≤ n ∧ iv = .int .i64 k ∧ dv = .int .i64 D ∧ Hid (D = cS (ptS K A) k) ∧ Hid (scE (ptEs K A N F) k = 0) ∧ Hid (Below V.heap.size V wr)) (fun _ iv _ => n - (intOf iv).toNat)
  case atStart => exact ⟨0, 0, Nat.zero_le _, rfl, rfl, rfl, rfl, Below.refl _ _⟩
  case round =>
    obtain ⟨k, D, hk, rfl, rfl, HD, HS, HBV⟩ := hrel
    have HBW := hid (HRB.out wr HBV.out)
    have c0 := mocell_of HBW.out.2
    by_cases hlt : k < n
    · have HPB := hid (HP.out.1 k hlt)
      have hpc := HC.out wr HBW.out.1 k hlt
      have HF := hid (fun W (b : Nat) (h : W.heap[b]? = some (L2 (N k) (F k))) => rall_any (some ⟨b, 0, none⟩) 2 2 [N k, F k] W (fl_two h HPB.out.2.2.1 HPB.out.2.2.2) (by decide))
      have HSZ := hid (fun W => size_any (K k) W)
      have HNO : Hid (finM [N k, F k] = true → (∀ W, Calls Try.prog 58 #[.float .f64 (N k)] W fun r w' => r = .returned (.bool (!fltB (N k))) ∧ w' = W) ∧ (∀ W, Calls Try.prog 58 #[.float .f64 (F k)] W fun r w' => r = .returned (.bool (!fltB (F k))) ∧ w' = W)) := fun hf => by
        rw [fin_two, Bool.and_eq_true, Bool.not_eq_true', Bool.not_eq_true'] at hf
        exact ⟨fun W => noise_any (N k) W HPB.out.2.2.1 hf.1, fun W => noise_any (F k) W HPB.out.2.2.2 hf.2⟩
      have HE : Hid (ptEs K A N F k = ptE (K k) (A k) (N k) (F k)) := rfl
      have HEE := hid (ptE_is (K k) (A k) (N k) (F k))
      have HZ : Hid (ptS K A k = A k * szK (K k)) := rfl
      have HPI := hid (fun (h : ptEs K A N F k = 0) => ptS_in h)
      have HERR := hid (fun (E : Int) (h1 : E ≠ 0) (h : ptEs K A N F k = E) => dm_errc HS.out hlt h1 h)
      have hkI : (k : Int) < (n : Int) := by omega
      obtain ⟨k1, hk1⟩ : ∃ t, K k = t := ⟨_, rfl⟩
      obtain ⟨a1, ha1⟩ : ∃ t, A k = t := ⟨_, rfl⟩
      obtain ⟨n1, hn1⟩ : ∃ t, N k = t := ⟨_, rfl⟩
      obtain ⟨f1, hf1⟩ : ∃ t, F k = t := ⟨_, rfl⟩
      rw [hk1, ha1, hn1, hf1] at hpc HE HEE
      rw [hn1, hf1] at HF HNO
      rw [hk1] at HSZ
      rw [hk1, ha1] at HZ HPI
      obtain ⟨z, hz⟩ : ∃ t, szK k1 = t := ⟨_, rfl⟩
      rw [hz] at HSZ HZ HPI HEE
      rw [← HE.out] at HEE
      obtain ⟨B, hB⟩ : ∃ b, finM [n1, f1] = b := ⟨_, rfl⟩
      obtain ⟨B1, hB1⟩ : ∃ b, fltB n1 = b := ⟨_, rfl⟩
      obtain ⟨B2, hB2⟩ : ∃ b, fltB f1 = b := ⟨_, rfl⟩
      rw [hB] at HF
      rw [hB, hB1, hB2] at HNO HEE
      obtain ⟨p0, p1, p2, p3⟩ := hpc
      have HB1 : Hid (Below V.heap.size V (wr.alloc (PBox k1 a1 n1 f1)) ∧ (wr.alloc (PBox k1 a1 n1 f1)).heap[wr.heap.size]? = some (PBox k1 a1 n1 f1)) := ⟨HBV.out.alloc HBV.out.size _, nblkM _ _⟩
      obtain ⟨V1, hV1⟩ : ∃ V, Hid (wr.alloc (PBox k1 a1 n1 f1) = V) := ⟨_, rfl⟩
      rw [hV1.out] at HB1
      have hV1' := hV1.out
      unfold PBox at hV1'
      obtain ⟨q0, q1, q2, q3⟩ := ptcells_of HB1.out.2
      have HLT := hid hlt
      clear hk1 ha1 hn1 hf1 hz hlt hB hB1 hB2
      go_wp2_with fail
      refine (HSZ.out _).mono ?_
      rintro e w2 ⟨rfl, hw⟩
      rw [hw]
      clear hw
      by_cases hz0 : z = 0
      · have HX := hid (HERR.out 140 (by decide) (HEE.out.1 hz0))
        subst hz0
        go_wp2_with fail
        go_ret
        exact ⟨HX.out, (HRB.out _ HB1.out.1).1⟩
      have HZ0 := hid hz0
      have hz0' : (z == 0) = false := by simpa using hz0
      clear hz0
      by_cases ha : a1 < 1
      · have HX := hid (HERR.out 1 (by decide) (HEE.out.2.1 HZ0.out (Or.inl ha)))
        go_wp2_with fail
        go_ret
        exact ⟨HX.out, (HRB.out _ HB1.out.1).1⟩
      by_cases ha2 : 12 < a1
      · have HX := hid (HERR.out 1 (by decide) (HEE.out.2.1 HZ0.out (Or.inr ha2)))
        go_wp2_with fail
        go_ret
        exact ⟨HX.out, (HRB.out _ HB1.out.1).1⟩
      have HA : Hid (¬ (a1 < 1 ∨ 12 < a1)) := fun h => h.elim ha ha2
      have HB2 : Hid (Below V.heap.size V (V1.alloc (L2 n1 f1)) ∧ (V1.alloc (L2 n1 f1)).heap[wr.heap.size]? = some (PBox k1 a1 n1 f1)) := ⟨HB1.out.1.alloc HB1.out.1.size _, blkM HB1.out.2 ((Below.refl _ _).alloc (Nat.le_refl _) _)⟩
      have HL : Hid ((V1.alloc (L2 n1 f1)).heap[V1.heap.size]? = some (L2 n1 f1)) := nblkM _ _
      obtain ⟨V2, hV2⟩ : ∃ V, Hid (V1.alloc (L2 n1 f1) = V) := ⟨_, rfl⟩
      rw [hV2.out] at HB2 HL
      have hV2' := hV2.out
      unfold L2 at hV2'
      obtain ⟨s0, s1, s2, s3⟩ := ptcells_of HB2.out.2
      go_wp2_with fail
      refine (HF.out _ _ HL.out).mono ?_
      rintro e w2 ⟨rfl, hw⟩
      rw [hw]
      clear hw
      cases B with
      | false =>
        have HX := hid (HERR.out 4 (by decide) (HEE.out.2.2.1 HZ0.out HA.out (by first | rfl | trivial)))
        go_wp2_with fail
        go_ret
        exact ⟨HX.out, (HRB.out _ HB2.out.1).1⟩
      | true =>
        obtain ⟨hn1, hn2⟩ := HNO.out rfl
        have HN1 := hid hn1
        have HN2 := hid hn2
        clear hn1 hn2
        go_wp2_with fail
        refine (HN1.out _).mono ?_
        rintro e w2 ⟨rfl, hw⟩
        rw [hw]
        clear hw
        cases B1 with
        | true =>
          have HX := hid (HERR.out 141 (by decide) (HEE.out.2.2.2.1 HZ0.out HA.out (by first | rfl | trivial) (by simp)))
          go_wp2_with fail
          go_ret
          exact ⟨HX.out, (HRB.out _ HB2.out.1).1⟩
        | false =>
          go_wp2_with fail
          refine (HN2.out _).mono ?_
          rintro e w2 ⟨rfl, hw⟩
          rw [hw]
          clear hw
          cases B2 with
          | true =>
            have HX := hid (HERR.out 141 (by decide) (HEE.out.2.2.2.1 HZ0.out HA.out (by first | rfl | trivial) (by simp)))
            go_wp2_with fail
            go_ret
            exact ⟨HX.out, (HRB.out _ HB2.out.1).1⟩
          | false =>
            have HE0 := hid (HEE.out.2.2.2.2 HZ0.out HA.out (by first | rfl | trivial) (by simp))
            obtain ⟨_, _, ha', hz⟩ := HPI.out HE0.out
            have hD := cS_in (ptS K A) k (fun i hi => (ptS_in (scE_all HS.out i hi)).1)
            rw [← HD.out] at hD
            obtain ⟨_, m1, m2⟩ := mul_facts ha' hz hD
            obtain ⟨m3, m4⟩ := mul_factsI ha' hz hD
            have HCC : Hid (∀ W, Hid (Below V.heap.size V W ∧ W.heap[wr.heap.size]? = some (PBox k1 a1 n1 f1)) → (W.cell? ⟨wr.heap.size, 0, none⟩ = some (.int .i64 k1) ∧ W.cell? ⟨wr.heap.size, 1, none⟩ = some (.int .i64 a1)) ∧ Hid (Below V.heap.size V W ∧ W.heap[wr.heap.size]? = some (PBox k1 a1 n1 f1))) := fun W h => ⟨⟨(ptcells_of h.out.2).1, (ptcells_of h.out.2).2.1⟩, h⟩
            have HQ0 : Hid (Below V.heap.size V V2.drew ∧ V2.drew.heap[wr.heap.size]? = some (PBox k1 a1 n1 f1)) := ⟨HB2.out.1.drew, HB2.out.2⟩
            have HNX : Hid (min (D + a1 * z) 13 = cS (ptS K A) (k + 1)) := by
              show min (D + a1 * z) 13 = min (cS (ptS K A) k + ptS K A k) 13
              rw [HD.out, HZ.out]
            have HS2 : Hid (scE (ptEs K A N F) (k + 1) = 0) := scE_step HS.out HE0.out
            obtain ⟨M, hM⟩ : ∃ t, a1 * z = t := ⟨_, rfl⟩
            rw [hM] at m1 m2 m3 m4 HNX
            obtain ⟨D2, hD2⟩ : ∃ t, D + M = t := ⟨_, rfl⟩
            rw [hD2] at m2 m4 HNX
            have hlt2 := HLT.out
            clear ha' hz hD
            go_wp2_with fail
            refine wp_region_held_drew (S := fun W => (W.cell? ⟨wr.heap.size, 0, none⟩ = some (.int .i64 k1) ∧ W.cell? ⟨wr.heap.size, 1, none⟩ = some (.int .i64 a1)) ∧ Hid (Below V.heap.size V W ∧ W.heap[wr.heap.size]? = some (PBox k1 a1 n1 f1))) (by kernel_rfl) (HCC.out _ HQ0) (fun hHeld => ?_)
            refine take_at 0 55 (.int .i64 D) rfl rfl (by kernel_rfl) (by kernel_rfl) (by kernel_rfl) (fun _ _ _ h => h) (Or.inl ⟨by rfl, fun w hSw => by (try dsimp only at hSw); go_simp⟩) (by assumption) ?_
            simp only [Act.put, List.setIfInBounds_toArray, List.set_cons_zero, List.set_cons_succ]
            refine take_at 1 56 (.pointer (some ⟨wr.heap.size, 1, none⟩)) rfl rfl (by kernel_rfl) (by kernel_rfl) (by kernel_rfl) (fun _ _ _ h => h) (Or.inl ⟨by rfl, fun w hSw => by (try dsimp only at hSw); go_simp⟩) (by assumption) ?_
            simp only [Act.put, List.setIfInBounds_toArray, List.set_cons_zero, List.set_cons_succ]
            refine take_at 2 57 (.int .i64 a1) rfl rfl (by kernel_rfl) (by kernel_rfl) (by kernel_rfl) (fun _ _ _ h => h) (Or.inl ⟨by rfl, fun w hSw => by (try dsimp only at hSw); go_simp⟩) (by assumption) ?_
            simp only [Act.put, List.setIfInBounds_toArray, List.set_cons_zero, List.set_cons_succ]
            refine take_at 3 58 (.pointer (some ⟨wr.heap.size, 0, none⟩)) rfl rfl (by kernel_rfl) (by kernel_rfl) (by kernel_rfl) (fun _ _ _ h => h) (Or.inl ⟨by rfl, fun w hSw => by (try dsimp only at hSw); go_simp⟩) (by assumption) ?_
            simp only [Act.put, List.setIfInBounds_toArray, List.set_cons_zero, List.set_cons_succ]
            refine take_at 4 59 (.int .i64 k1) rfl rfl (by kernel_rfl) (by kernel_rfl) (by kernel_rfl) (fun _ _ _ h => h) (Or.inl ⟨by rfl, fun w hSw => by (try dsimp only at hSw); go_simp⟩) (by assumption) ?_
            simp only [Act.put, List.setIfInBounds_toArray, List.set_cons_zero, List.set_cons_succ]
            refine wpAnyH_ready (rs := [5]) (by kernel_rfl) (by simp) ?_
            refine AllReadyH.cons (o := _) rfl (fun K' hK => ?_) AllReadyH.nil
            go_simp
            refine (HSZ.out _).mono ?_
            rintro e u1 ⟨rfl, hw⟩
            rw [hw]
            clear hw
            go_wp2_with fail
            refine hK.out _ _ (HCC.out _ HQ0) (fun hHeld1 => ?_)
            clear hK K'
            try simp only [Act.put, List.setIfInBounds_toArray, List.set_cons_zero, List.set_cons_succ]
            refine take_at 6 61 (.int .i64 M) rfl rfl (by kernel_rfl) (by kernel_rfl) (by kernel_rfl) (fun _ _ _ h => h) (Or.inl ⟨by rfl, fun w hSw => by (try dsimp only at hSw); go_simp⟩) (by assumption) ?_
            simp only [Act.put, List.setIfInBounds_toArray, List.set_cons_zero, List.set_cons_succ]
            refine take_at 7 62 (.int .i64 D2) rfl rfl (by kernel_rfl) (by kernel_rfl) (by kernel_rfl) (fun _ _ _ h => h) (Or.inl ⟨by rfl, fun w hSw => by (try dsimp only at hSw); go_simp⟩) (by assumption) ?_
            simp only [Act.put, List.setIfInBounds_toArray, List.set_cons_zero, List.set_cons_succ]
            refine take_at 8 63 (.int .i64 (min D2 13)) rfl rfl (by kernel_rfl) (by kernel_rfl) (by kernel_rfl) (fun _ _ _ h => h) (Or.inl ⟨by rfl, fun w hSw => by (try dsimp only at hSw); go_simp⟩) (by assumption) ?_
            simp only [Act.put, List.setIfInBounds_toArray, List.set_cons_zero, List.set_cons_succ]
            refine take_at 9 3 (.int .i64 (min D2 13)) rfl rfl (by kernel_rfl) (by kernel_rfl) (by kernel_rfl) (fun _ _ _ h => h) (Or.inl ⟨by rfl, fun w hSw => by (try dsimp only at hSw); go_simp⟩) (by assumption) ?_
            simp only [Act.put, List.setIfInBounds_toArray, List.set_cons_zero, List.set_cons_succ]
            refine wpAnyH_done (by kernel_rfl) ?_ _
            go_wp2_with fail
            go_roundw
            case rel => exact ⟨k + 1, min D2 13, by omega, by go_num, rfl, HNX.out, HS2, HQ0.out.1⟩
            case measure => simp [intOf]; omega
    · obtain rfl : k = n := by omega
      have HI := hid (fun (v : Bool) W => If_any v 2 W)
      by_cases hD : 12 < D
      · obtain ⟨x1, x2⟩ := dm_long HS.out HN0.out (by rw [← HD.out]; exact hD)
        have HX := hid (ret_dmE x1.symm)
        have hd : decide (12 < D) = true := decide_eq_true hD
        clear x1 x2
        go_wp2_with fail
        refine (HI.out _ _).mono ?_
        rintro e w2 ⟨rfl, hw⟩
        rw [hw]
        clear hw
        go_wp2_with fail
        go_ret
        exact ⟨HX.out, HBW.out.1⟩
      · obtain ⟨x1, x2⟩ := dm_fine HS.out HN0.out (by rw [← HD.out]; exact hD)
        have HX := hid (ret_dmE x1.symm)
        have hd : decide (12 < D) = false := decide_eq_false hD
        clear x1 x2
        go_wp2_with fail
        refine (HI.out _ _).mono ?_
        rintro e w2 ⟨rfl, hw⟩
        rw [hw]
        clear hw
        go_wp2_with fail
        go_ret
        exact ⟨HX.out, HBW.out.1⟩
end Go.Proofs.Ytcaelnpddipmhaa
