
/- What dyad's total comes to. -/
import Derived.Test.YtphdinjmkhefmaaGreatDoorP31
import Derived.Test.YtphdinjmkhefmaaGreatDoorP25
import Derived.Test.YtphdinjmkhefmaaGreatDoorP26
namespace Go.Proofs.YtphdinjmkhefmaaGreatDoor
open Go.RowKit Go.IntWalk

theorem seg_mag {W : World} {b : Nat} {o : Nat → Nat} (h : TotAt W b o) (off : Nat) (ho : off + 134 ≤ 268) : MagAt W (some ⟨b, off, none⟩) ((List.range 134).map (seg off o)) := by
  intro i hi
  rw [List.length_map, List.length_range] at hi
  refine ⟨b, off, rfl, h.1.lt, ?_⟩
  rw [h.1.cell (i := off + i) (by omega), list_get _ _ _ hi]
  rfl
theorem seg_dig {W : World} {b : Nat} {o : Nat → Nat} (h : TotAt W b o) (off : Nat) : DigL ((List.range 134).map (seg off o)) := by
  intro d hd
  obtain ⟨i, _, rfl⟩ := List.mem_map.1 hd
  exact h.2 _
theorem trim_seg {W : World} {b : Nat} {o : Nat → Nat} (h : TotAt W b o) (off : Nat) (ho : off + 134 ≤ 268) :
    Calls Tryz.prog 30 #[.slice (some ⟨b, off, none⟩) 134 134] W fun r w' => (∃ n, r = .returned (.slice (some ⟨b, off, none⟩) n 134) ∧ Hid (∃ L, L.length = n ∧ ∀ W', TotAt W' b o → MagIs (natF (seg off o) 134) 134 L (some ⟨b, off, none⟩) 134 W')) ∧ w' = W := by
  have HL : ((List.range 134).map (seg off o)).length = 134 := by rw [List.length_map, List.length_range]
  have ht := trim_any ((List.range 134).map (seg off o)) (some ⟨b, off, none⟩) 134 W (seg_mag h off ho) (by rw [HL]; exact Nat.le_refl _) (by rw [HL]; decide)
  rw [HL] at ht
  refine ht.mono ?_
  rintro r w1 ⟨⟨j, hj, rfl, hv2, he⟩, rfl⟩
  obtain ⟨hcan, hlen⟩ := can_take _ j (by rw [HL]; exact hj) he
  refine ⟨⟨j, rfl, ⟨((List.range 134).map (seg off o)).take j, hlen, fun W' h' => ⟨by rw [hlen]; exact hj, by rw [hlen]; exact hj, (seg_mag h' off ho).take j, (seg_dig h' off).take j, hcan, ?_⟩⟩⟩, rfl⟩
  rw [hv2, natF_list]
theorem TotAt.but {W W' : World} {b z : Nat} {o : Nat → Nat} (h : TotAt W b o) (hb : But z W W') (hz : b ≠ z) : TotAt W' b o := ⟨h.1.of_block (hb.block b h.1.lt hz), h.2⟩
set_option maxRecDepth 4000 in
set_option maxHeartbeats 4000000 in
theorem tdyad_any (b : Nat) (o : Nat → Nat) (w : World) (ht : TotAt w b o) (hT : Tab32 w) (hs : 1 < w.heap.size) :
    Calls Tryz.prog 17 #[.pointer (some ⟨b, 0, none⟩)] w fun r w' => DyOut ((natF (seg 0 o) 134 : Int) - (natF (seg 134 o) 134 : Int)) (-2148) w.heap.size r w' ∧ Below w.heap.size w w' := by
  have hblt := ht.1.lt
  obtain ⟨W0, hW0⟩ : ∃ W0, Hid (w.alloc (DyBox false none 0 0 0) = W0) := ⟨_, rfl⟩
  have hW0' : w.alloc (DyBox false none 0 0 0) = W0 := hW0.out
  unfold DyBox at hW0'
  have HBW : Hid (Below w.heap.size w W0) := by rw [← hW0.out]; exact (Below.refl _ _).alloc (Nat.le_refl _) _
  have HR0 : Hid (Res w.heap.size W0 W0) := by
    refine ⟨But.refl _ _, .bool false, .slice none 0 0, .int .i64 0, ?_⟩
    rw [← hW0.out]
    exact new_blk w _ _ rfl
  have HTW : Hid (∀ W, Hid (Res w.heap.size W0 W) → TotAt W b o) := fun W hW => by
    have h0 : TotAt W0 b o := ⟨ht.1.of_block (HBW.out.block b hblt), ht.2⟩
    exact h0.but hW.out.but (by omega)
  have HK : Hid (∀ W, Hid (Res w.heap.size W0 W) → True ∧ Hid (Res w.heap.size W0 W)) := fun W hW => ⟨trivial, hW⟩
  have HQ0 := res_dr HR0
  have HT1 : Hid (∀ W, Hid (Res w.heap.size W0 W) → Calls Tryz.prog 30 #[.slice (some ⟨b, 0, none⟩) 134 134] W fun r w' => (∃ n, r = .returned (.slice (some ⟨b, 0, none⟩) n 134) ∧ Hid (∃ L, L.length = n ∧ ∀ W', TotAt W' b o → MagIs (natF (seg 0 o) 134) 134 L (some ⟨b, 0, none⟩) 134 W')) ∧ w' = W) := fun W hW => trim_seg (HTW.out W hW) 0 (by decide)
  have HT2 : Hid (∀ W, Hid (Res w.heap.size W0 W) → Calls Tryz.prog 30 #[.slice (some ⟨b, 134, none⟩) 134 134] W fun r w' => (∃ n, r = .returned (.slice (some ⟨b, 134, none⟩) n 134) ∧ Hid (∃ L, L.length = n ∧ ∀ W', TotAt W' b o → MagIs (natF (seg 134 o) 134) 134 L (some ⟨b, 134, none⟩) 134 W')) ∧ w' = W) := fun W hW => trim_seg (HTW.out W hW) 134 (by decide)
  obtain ⟨A, hA⟩ : ∃ A, Hid (natF (seg 0 o) 134 = A) := ⟨_, rfl⟩
  obtain ⟨B, hB⟩ : ∃ B, Hid (natF (seg 134 o) 134 = B) := ⟨_, rfl⟩
  rw [hA.out] at HT1 ⊢
  rw [hB.out] at HT2 ⊢
  have HT := hid (And.intro hT hs)
  clear ht hT hs
  go_enter Tryz.func17, Tryz.ntmps17
  go_wp2_with fail
  go_region_held3 (fun W => True ∧ Hid (Res w.heap.size W0 W))
    ((refine HK.out _ ?_; first | assumption | exact HQ0))
    (first
      | (go_at_call 30; with_reducible refine (HT1.out _ (And.right (by assumption))).mono ?_; rintro r w1 ⟨⟨X, rfl, HX⟩, rfl⟩)
      | (go_at_call 30; with_reducible refine (HT2.out _ (And.right (by assumption))).mono ?_; rintro r w2 ⟨⟨Y, rfl, HY⟩, rfl⟩))
  all_goals
    have HNE : Hid (∀ W, Hid (Res w.heap.size W0 W) → ∃ LX LY, LX.length = X ∧ LY.length = Y ∧ MagIs A 134 LX (some ⟨b, 0, none⟩) 134 W ∧ MagIs B 134 LY (some ⟨b, 134, none⟩) 134 W) := fun W hW => by
      obtain ⟨LX, x1, hX⟩ := HX.out
      obtain ⟨LY, y1, hY⟩ := HY.out
      exact ⟨LX, LY, x1, y1, hX W (HTW.out W hW), hY W (HTW.out W hW)⟩
    have HCM : Hid (∀ W, Hid (Res w.heap.size W0 W) → Calls Tryz.prog 31 #[.slice (some ⟨b, 0, none⟩) X 134, .slice (some ⟨b, 134, none⟩) Y 134] W fun r w' => r = .returned (.int .i64 (cmpI A B)) ∧ Hid (Res w.heap.size W0 w')) := fun W hW => by
      obtain ⟨LX, LY, rfl, rfl, hX, hY⟩ := HNE.out W hW
      have hx := hX.2.1
      have hy := hY.2.1
      have := dcompare_any LX LY _ _ 134 134 W hX.2.2.1 hY.2.2.1 hX.2.2.2.1 hY.2.2.2.1 hX.2.2.2.2.1 hY.2.2.2.2.1 (by omega) (by omega)
      rw [hX.2.2.2.2.2, hY.2.2.2.2.2] at this
      refine this.mono ?_
      rintro r w' ⟨rfl, hb⟩
      exact ⟨rfl, hW.out.call hb⟩
    clear HX HY HT1 HT2
    by_cases hlt : A < B
    · rw [cmpI_lt hlt] at HCM
      have HAB := hid (Nat.le_of_lt hlt)
      have HEQ := hid (show sgnN true (B - A) = (A : Int) - (B : Int) by unfold sgnN; rw [if_pos rfl]; omega)
      clear hlt
      have HOP : Hid (∀ W, Hid (Res w.heap.size W0 W) → Calls Tryz.prog 33 #[.slice (some ⟨b, 134, none⟩) Y 134, .slice (some ⟨b, 0, none⟩) X 134] W fun r w' => ∃ n a cap, r = .returned (.slice a n cap) ∧ Hid (∃ LS, LS.length = n ∧ MagIs (B - A) 134 LS a cap w') ∧ Hid (Res w.heap.size W0 w')) := fun W hW => by
        obtain ⟨LX, LY, rfl, rfl, hX, hY⟩ := HNE.out W hW
        have hx := hX.2.1
        have hy := hY.2.1
        have hle : natL LX ≤ natL LY := by rw [hX.2.2.2.2.2, hY.2.2.2.2.2]; exact HAB.out
        have hll : LX.length ≤ LY.length := by
          apply Classical.byContradiction
          intro hc
          have := natL_shorter LY LX hY.2.2.2.1 hX.2.2.2.2.1 (by omega)
          omega
        refine (dminus_any LY LX _ _ _ _ W hY.2.2.1 hX.2.2.1 hY.2.2.2.1 hX.2.2.2.1 hll (by omega) hle).mono ?_
        rintro r w' ⟨⟨LS, a, cap, rfl, s1, s2, s3, s4, s5, s6⟩, hb⟩
        exact ⟨LS.length, a, cap, rfl, ⟨LS, rfl, s1, by omega, s3, s4, s5, by rw [s6, hX.2.2.2.2.2, hY.2.2.2.2.2]⟩, hW.out.call hb⟩
      have HWR : Hid (∀ W n a cap, Hid (Res w.heap.size W0 W) → Hid (∃ LS, LS.length = n ∧ MagIs (B - A) 134 LS a cap W) → Calls Tryz.prog 32 #[.bool true, .slice a n cap, .int .i64 (-2148)] W fun r w' => ∃ neg' a' n' cap' e' v0 v1 v2, r = .returned (.tuple #[.agg #[.bool neg', .slice a' n' cap', .int .i64 e'], .int .i64 0]) ∧ Hid (DyRet (sgnN true (B - A)) (-2148) (w.heap.size + 1) neg' a' n' cap' e' w') ∧ Hid (Res w.heap.size W0 w') ∧ (∀ o, w'.frozen? ⟨w.heap.size, o, none⟩ = false) ∧ w'.cell? ⟨w.heap.size, 0, none⟩ = some v0 ∧ w'.cell? ⟨w.heap.size, 1, none⟩ = some v1 ∧ w'.cell? ⟨w.heap.size, 2, none⟩ = some v2) := fun W n a cap hW hM => by
        obtain ⟨LS, rfl, hM'⟩ := hM.out
        exact written_res w.heap.size w W0 W true (B - A) 134 LS a cap (-2148) hW.out HBW.out (Nat.le_refl _) HT.out.1 HT.out.2 hM' (by decide) (by decide) (by decide)
      go_wp2_with fail
      refine (HCM.out _ (by first | exact HQ0 | assumption)).mono ?_
      rintro r w3 ⟨rfl, HR3⟩
      go_wp2_with fail
      refine (HOP.out _ (by assumption)).mono ?_
      rintro r w4 ⟨n', a', cap', rfl, HM4, HR4⟩
      go_wp2_with fail
      refine (HWR.out _ _ _ _ (by assumption) (by assumption)).mono ?_
      rintro r w5 ⟨neg', b', k', d', x', v0, v1, v2, rfl, HRT, HF3, fz, c0, c1', c2'⟩
      go_wp2
      have hend := res_end HBW.out (Nat.le_refl _) HRT HF3
      rw [HEQ.out] at hend
      exact bodyPost_ret (v := .tuple #[.agg #[.bool neg', .slice b' k' d', .int .i64 x'], .int .i64 0]) (by simp [results, Tryz.results17, go_sem, c0, c1', c2']) rfl hend
    · have HCI : Hid (∃ c : Int, cmpI A B = c ∧ ¬ c < 0) := by
        refine ⟨_, rfl, ?_⟩
        unfold cmpI
        rw [if_neg hlt]
        split <;> omega
      obtain ⟨c, hc, hc0⟩ := HCI.out
      rw [hc] at HCM
      have HAB := hid (Nat.le_of_not_lt hlt)
      have HEQ := hid (show sgnN false (A - B) = (A : Int) - (B : Int) by unfold sgnN; rw [if_neg (by decide)]; omega)
      clear hlt HCI hc
      have HOP : Hid (∀ W, Hid (Res w.heap.size W0 W) → Calls Tryz.prog 33 #[.slice (some ⟨b, 0, none⟩) X 134, .slice (some ⟨b, 134, none⟩) Y 134] W fun r w' => ∃ n a cap, r = .returned (.slice a n cap) ∧ Hid (∃ LS, LS.length = n ∧ MagIs (A - B) 134 LS a cap w') ∧ Hid (Res w.heap.size W0 w')) := fun W hW => by
        obtain ⟨LX, LY, rfl, rfl, hX, hY⟩ := HNE.out W hW
        have hx := hX.2.1
        have hy := hY.2.1
        have hle : natL LY ≤ natL LX := by rw [hX.2.2.2.2.2, hY.2.2.2.2.2]; exact HAB.out
        have hll : LY.length ≤ LX.length := by
          apply Classical.byContradiction
          intro hc
          have := natL_shorter LX LY hX.2.2.2.1 hY.2.2.2.2.1 (by omega)
          omega
        refine (dminus_any LX LY _ _ _ _ W hX.2.2.1 hY.2.2.1 hX.2.2.2.1 hY.2.2.2.1 hll (by omega) hle).mono ?_
        rintro r w' ⟨⟨LS, a, cap, rfl, s1, s2, s3, s4, s5, s6⟩, hb⟩
        exact ⟨LS.length, a, cap, rfl, ⟨LS, rfl, s1, by omega, s3, s4, s5, by rw [s6, hX.2.2.2.2.2, hY.2.2.2.2.2]⟩, hW.out.call hb⟩
      have HWR : Hid (∀ W n a cap, Hid (Res w.heap.size W0 W) → Hid (∃ LS, LS.length = n ∧ MagIs (A - B) 134 LS a cap W) → Calls Tryz.prog 32 #[.bool false, .slice a n cap, .int .i64 (-2148)] W fun r w' => ∃ neg' a' n' cap' e' v0 v1 v2, r = .returned (.tuple #[.agg #[.bool neg', .slice a' n' cap', .int .i64 e'], .int .i64 0]) ∧ Hid (DyRet (sgnN false (A - B)) (-2148) (w.heap.size + 1) neg' a' n' cap' e' w') ∧ Hid (Res w.heap.size W0 w') ∧ (∀ o, w'.frozen? ⟨w.heap.size, o, none⟩ = false) ∧ w'.cell? ⟨w.heap.size, 0, none⟩ = some v0 ∧ w'.cell? ⟨w.heap.size, 1, none⟩ = some v1 ∧ w'.cell? ⟨w.heap.size, 2, none⟩ = some v2) := fun W n a cap hW hM => by
        obtain ⟨LS, rfl, hM'⟩ := hM.out
        exact written_res w.heap.size w W0 W false (A - B) 134 LS a cap (-2148) hW.out HBW.out (Nat.le_refl _) HT.out.1 HT.out.2 hM' (by decide) (by decide) (by decide)
      go_wp2_with fail
      refine (HCM.out _ (by first | exact HQ0 | assumption)).mono ?_
      rintro r w3 ⟨rfl, HR3⟩
      go_wp2_with fail
      refine (HOP.out _ (by assumption)).mono ?_
      rintro r w4 ⟨n', a', cap', rfl, HM4, HR4⟩
      go_wp2_with fail
      refine (HWR.out _ _ _ _ (by assumption) (by assumption)).mono ?_
      rintro r w5 ⟨neg', b', k', d', x', v0, v1, v2, rfl, HRT, HF3, fz, c0, c1', c2'⟩
      go_wp2
      have hend := res_end HBW.out (Nat.le_refl _) HRT HF3
      rw [HEQ.out] at hend
      exact bodyPost_ret (v := .tuple #[.agg #[.bool neg', .slice b' k' d', .int .i64 x'], .int .i64 0]) (by simp [results, Tryz.results17, go_sem, c0, c1', c2']) rfl hend
end Go.Proofs.YtphdinjmkhefmaaGreatDoor

namespace Go.Proofs.YtphdinjmkhefmaaGreatDoor
open Go.RowKit Go.IntWalk

/-- Whether all numbers of a list are finite. -/
def allFin (zs : List Nat) : Bool := zs.all fun z => !(expOf z == 2047)
theorem allFin_take (zs : List Nat) (k : Nat) (h : k < zs.length) : allFin (zs.take (k + 1)) = (allFin (zs.take k) && !(expOf (zs.getD k 0) == 2047)) := by
  unfold allFin
  rw [List.take_succ_eq_append_getElem h, List.all_append]
  simp [List.getD, h]
theorem allFin_false (zs : List Nat) (k : Nat) (h : allFin (zs.take k) = false) : allFin zs = false := by
  unfold allFin at *
  rw [← List.take_append_drop k zs, List.all_append, h]; rfl
theorem allFin_all (zs : List Nat) (k : Nat) (hk : zs.length ≤ k) (h : allFin (zs.take k) = true) : allFin zs = true := by
  rwa [List.take_of_length_le hk] at h
set_option maxHeartbeats 1000000 in
theorem Finite_any (zs : List Nat) (b off cap : Nat) (w : World) (hb : b < w.heap.size) (hcell : ∀ i, i < zs.length → w.cell? ⟨b, off + i, none⟩ = some (.float .f64 (zs.getD i 0))) (hz : ∀ i, i < zs.length → zs.getD i 0 < 18446744073709551616) (hn : zs.length ≤ 140737488355328) :
    Calls Tryz.prog 14 #[.slice (some ⟨b, off, none⟩) zs.length cap] w fun r w' => r = .returned (.bool (allFin zs)) ∧ Below w.heap.size w w' := by
  have HC := hid hcell
  have HZ := hid hz
  obtain ⟨n, hnl⟩ : ∃ n, Hid (zs.length = n) := ⟨_, rfl⟩
  rw [hnl.out] at hn ⊢
  clear hcell hz
  go_enter Tryz.func14, Tryz.ntmps14
  go_wp2
  go_loopw [10] (fun i wr => ∃ k : Nat, k ≤ n ∧ i = .int .i64 k ∧ Hid (allFin (zs.take k) = true) ∧ Below w.heap.size w wr) (fun i _ => n - (intOf i).toNat)
  case atStart => exact ⟨0, Nat.zero_le _, rfl, rfl, Below.refl _ _⟩
  case round =>
    obtain ⟨k, hkn, rfl, HA, hbr⟩ := hrel
    by_cases hlt : k < n
    · have hck : wr.cell? ⟨b, off + k, none⟩ = some (.float .f64 (zs.getD k 0)) := by
        rw [hbr.cell (p := ⟨b, off + k, none⟩) hb]
        exact HC.out k (by rw [hnl.out]; exact hlt)
      have HZK : Hid (zs.getD k 0 < 18446744073709551616) := HZ.out k (by rw [hnl.out]; exact hlt)
      have HTK : Hid (allFin (zs.take (k + 1)) = (allFin (zs.take k) && !(expOf (zs.getD k 0) == 2047))) := allFin_take zs k (by rw [hnl.out]; exact hlt)
      obtain ⟨z, hzz⟩ : ∃ z, Hid (zs.getD k 0 = z) := ⟨_, rfl⟩
      rw [hzz.out] at hck HZK HTK
      go_wp2_with (first | (go_at_call 28; refine (Split_any z _ HZK.out).mono ?_; rintro e w1 ⟨rfl, hb1⟩))
      · go_ret
        refine ⟨ret_bool (allFin_false zs (k + 1) ?_).symm, bl_then hbr hb1⟩
        have he : expOf z = 2047 := by have : ((expOf z : Int) == 2047) = true := by assumption
                                       rw [beq_iff_eq] at this
                                       omega
        rw [HTK.out, he]; simp
      · have he : (expOf z == 2047) = false := by
          have : ((expOf z : Int) == 2047) = false := by assumption
          rw [beq_eq_false_iff_ne] at this ⊢
          omega
        go_roundw
        case rel => exact ⟨k + 1, by omega, by go_num, by show allFin _ = true; rw [HTK.out, HA.out, he]; rfl, bl_then hbr hb1⟩
        case measure => simp [intOf]; omega
    · go_wp2
      go_ret
      exact ⟨ret_bool (allFin_all zs k (by rw [hnl.out]; omega) HA.out).symm, hbr⟩

set_option maxHeartbeats 1000000 in
theorem partsOf_dy (x : Nat) (w : World) (hx : x < 18446744073709551616) (hT : Tab w) (hg : 2 < w.heap.size) :
    Calls Tryz.prog 15 #[.float .f64 x] w fun r w' => r = .returned (.agg #[.bool (pNeg x), .int .u64 (pMant x), .int .i64 (pExp x)]) ∧ Below w.heap.size w w' := by
  have HP : Hid (∀ W, Below w.heap.size w W → Calls Tryz.prog 29 #[.float .f64 x] W fun r w' => r = .returned (.tuple #[.agg #[.bool (pNeg x), .int .u64 (pMant x), .int .i64 (pExp x)], .int .i64 (pErr x)]) ∧ Below W.heap.size W w') := fun W hW => Parts_any x W hx (hT.below hg hW) (Nat.lt_of_lt_of_le hg hW.size)
  obtain ⟨n, hn⟩ : ∃ n, Hid (pNeg x = n) := ⟨_, rfl⟩
  obtain ⟨m, hm⟩ : ∃ m, Hid (pMant x = m) := ⟨_, rfl⟩
  obtain ⟨E, hE⟩ : ∃ E, Hid (pExp x = E) := ⟨_, rfl⟩
  obtain ⟨R, hR⟩ : ∃ R, Hid (pErr x = R) := ⟨_, rfl⟩
  rw [hn.out, hm.out, hE.out, hR.out] at HP
  rw [hn.out, hm.out, hE.out]
  clear hx hT hg
  go_enter Tryz.func15, Tryz.ntmps15
  go_wp2_with fail
  refine (HP.out _ ((Below.refl _ _).alloc (Nat.le_refl _) _)).mono ?_
  rintro r w1 ⟨rfl, hb1⟩
  have hsz : w.heap.size < w1.heap.size := by have := hb1.size; simp at this; omega
  obtain ⟨hc, hf⟩ := bcell hb1
  have HB1 : Hid (Below w.heap.size w w1) := ((Below.refl _ _).alloc (Nat.le_refl _) _).trans (hb1.mono (by simp))
  clear hb1
  go_wp2
  exact bodyPost_ret (v := .agg #[.bool n, .int .u64 m, .int .i64 E]) (by simp [results, Tryz.results15, go_sem, hc, hsz]) rfl ⟨rfl, Below.alloc (Below.setCell (Below.setCell (Below.setCell HB1.out (Nat.le_refl _) _) (Nat.le_refl _) _) (Nat.le_refl _) _) (by simp [World.setCell]; omega) _⟩
def kT : Nat := 4196
theorem kT_is : kT = 4196 := rfl
/-- What is added up so far, in steps of 2^-2148. -/
def AccI (W0 : World) (t : Nat) (S : Int) (k : Nat) (wr : World) : Prop := ∃ o, TotAt wr t o ∧ (natF (seg 0 o) 134 : Int) - (natF (seg 134 o) 134 : Int) = S ∧ natF (seg 0 o) 134 ≤ k * 2 ^ kT ∧ natF (seg 134 o) 134 ≤ k * 2 ^ kT ∧ But t W0 wr
theorem AccI.below {W0 wr wr' : World} {t k : Nat} {S : Int} (h : AccI W0 t S k wr) (hb : Below wr.heap.size wr wr') : AccI W0 t S k wr' := by
  obtain ⟨o, h1, h2, h3, h4, h5⟩ := h
  exact ⟨o, ⟨h1.1.of_block (hb.block _ h1.1.lt), h1.2⟩, h2, h3, h4, h5.trans (But.of_below hb)⟩
theorem seg_other {b b' : Nat} {o o' : Nat → Nat} (h : ∀ j, (j < b ∨ b + 134 ≤ j) → o' j = o j) (hb : b' + 134 ≤ b ∨ b + 134 ≤ b') : natF (seg b' o') 134 = natF (seg b' o) 134 :=
  natF_congr _ _ 134 (fun j hj => h (b' + j) (by omega))
theorem acc_put (neg : Bool) (b lo hi N k : Nat) (E S : Int) (W0 w : World) (h : AccI W0 b S k w) (h1 : lo < 18446744073709551616) (h2 : hi < 18446744073709551616) (hE : E + 2148 = (N : Int)) (hN : N ≤ 4280) (hv : (lo + 18446744073709551616 * hi) * 2 ^ N < 2 ^ kT) (hk : k < 18446744073709551616) :
    Calls Tryz.prog 16 #[.pointer (some ⟨b, 0, none⟩), .bool neg, .int .u64 hi, .int .u64 lo, .int .i64 E] w fun r w' => r = .returned (.tuple #[]) ∧ AccI W0 b (S + sgnN neg ((lo + 18446744073709551616 * hi) * 2 ^ N)) (k + 1) w' := by
  obtain ⟨o, g1, g2, g3, g4, g5⟩ := h
  obtain ⟨V, hV⟩ : ∃ V, (lo + 18446744073709551616 * hi) * 2 ^ N = V := ⟨_, rfl⟩
  have hsplit : 32 * (N / 32) + N % 32 = N := by omega
  have hbig : (k + 1) * 2 ^ kT < 4294967296 ^ 134 := by
    rw [pow32]
    rw [show 32 * 134 = 92 + kT from rfl, Nat.pow_add]
    exact Nat.mul_lt_mul_of_pos_right (by have : (2 : Nat) ^ 92 = 4951760157141521099596496896 := by decide
                                          omega) (Nat.two_pow_pos _)
  have hput := put_tot neg b lo hi (N / 32) (N % 32) E o w g1 h1 h2 (by rw [hsplit]; exact hE) (Nat.mod_lt _ (by decide)) (by omega) (by
    rw [hsplit, hV]
    rw [hV] at hv
    rw [Nat.add_mul, Nat.one_mul] at hbig
    split <;> omega)
  rw [hsplit, hV] at hput
  rw [hV] at hv
  rw [hV]
  refine hput.mono ?_
  rintro r w' ⟨rfl, ⟨o', t1, t2, t3⟩, hb⟩
  refine ⟨rfl, o', t1, ?_⟩
  have hmul : (k + 1) * 2 ^ kT = k * 2 ^ kT + 2 ^ kT := by rw [Nat.add_mul, Nat.one_mul]
  rw [hmul]
  cases neg
  · simp only [Bool.false_eq_true, if_false] at t2 t3
    have e := seg_other (b' := 134) t3 (Or.inr (by decide))
    have es : sgnN false V = (V : Int) := by unfold sgnN; rw [if_neg (by decide)]
    rw [es, t2, e]
    exact ⟨by omega, by omega, by omega, g5.trans hb⟩
  · simp only [if_true] at t2 t3
    have e := seg_other (b' := 0) t3 (Or.inl (by decide))
    have es : sgnN true V = -(V : Int) := by unfold sgnN; rw [if_pos rfl]
    rw [es, t2, e]
    exact ⟨by omega, by omega, by omega, g5.trans hb⟩
end Go.Proofs.YtphdinjmkhefmaaGreatDoor
