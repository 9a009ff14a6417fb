
/- What dyad's total comes to. -/
import Derived.Test.YtpjdmhidhllbkaaDoorP29
import Derived.Test.YtpjdmhidhllbkaaDoorP28
namespace Go.Proofs.YtpjdmhidhllbkaaDoor
open Go.RowKit Go.IntWalk

theorem seg_mag {W : World} {b : Nat} {o : Nat → Nat} (h : TotAt W b o) (off : Nat) (ho : off + 134 ≤ 268) : MagAt W (some ⟨b, off, none⟩) ((List.range 134).map (seg off o)) := by
  intro i hi
  rw [List.length_map, List.length_range] at hi
  refine ⟨b, off, rfl, h.1.lt, ?_⟩
  rw [h.1.cell (i := off + i) (by omega), list_get _ _ _ hi]
  rfl
theorem seg_dig {W : World} {b : Nat} {o : Nat → Nat} (h : TotAt W b o) (off : Nat) : DigL ((List.range 134).map (seg off o)) := by
  intro d hd
  obtain ⟨i, _, rfl⟩ := List.mem_map.1 hd
  exact h.2 _
theorem trim_seg {W : World} {b : Nat} {o : Nat → Nat} (h : TotAt W b o) (off : Nat) (ho : off + 134 ≤ 268) :
    Calls Tryd.prog 61 #[.slice (some ⟨b, off, none⟩) 134 134] W fun r w' => (∃ n, r = .returned (.slice (some ⟨b, off, none⟩) n 134) ∧ Hid (∃ L, L.length = n ∧ ∀ W', TotAt W' b o → MagIs (natF (seg off o) 134) 134 L (some ⟨b, off, none⟩) 134 W')) ∧ w' = W := by
  have HL : ((List.range 134).map (seg off o)).length = 134 := by rw [List.length_map, List.length_range]
  have ht := trim_any ((List.range 134).map (seg off o)) (some ⟨b, off, none⟩) 134 W (seg_mag h off ho) (by rw [HL]; exact Nat.le_refl _) (by rw [HL]; decide)
  rw [HL] at ht
  refine ht.mono ?_
  rintro r w1 ⟨⟨j, hj, rfl, hv2, he⟩, rfl⟩
  obtain ⟨hcan, hlen⟩ := can_take _ j (by rw [HL]; exact hj) he
  refine ⟨⟨j, rfl, ⟨((List.range 134).map (seg off o)).take j, hlen, fun W' h' => ⟨by rw [hlen]; exact hj, by rw [hlen]; exact hj, (seg_mag h' off ho).take j, (seg_dig h' off).take j, hcan, ?_⟩⟩⟩, rfl⟩
  rw [hv2, natF_list]
theorem TotAt.but {W W' : World} {b z : Nat} {o : Nat → Nat} (h : TotAt W b o) (hb : But z W W') (hz : b ≠ z) : TotAt W' b o := ⟨h.1.of_block (hb.block b h.1.lt hz), h.2⟩
set_option maxRecDepth 4000 in
set_option maxHeartbeats 4000000 in
theorem tdyad_any (b : Nat) (o : Nat → Nat) (w : World) (ht : TotAt w b o) (hT : Tab32 w) (hs : 2 < w.heap.size) :
    Calls Tryd.prog 43 #[.pointer (some ⟨b, 0, none⟩)] w fun r w' => DyOut ((natF (seg 0 o) 134 : Int) - (natF (seg 134 o) 134 : Int)) (-2148) w.heap.size r w' ∧ Below w.heap.size w w' := by
  have hblt := ht.1.lt
  obtain ⟨W0, hW0⟩ : ∃ W0, Hid (w.alloc (DyBox false none 0 0 0) = W0) := ⟨_, rfl⟩
  have hW0' : w.alloc (DyBox false none 0 0 0) = W0 := hW0.out
  unfold DyBox at hW0'
  have HBW : Hid (Below w.heap.size w W0) := by rw [← hW0.out]; exact (Below.refl _ _).alloc (Nat.le_refl _) _
  have HR0 : Hid (Res w.heap.size W0 W0) := by
    refine ⟨But.refl _ _, .bool false, .slice none 0 0, .int .i64 0, ?_⟩
    rw [← hW0.out]
    exact new_blk w _ _ rfl
  have HTW : Hid (∀ W, Hid (Res w.heap.size W0 W) → TotAt W b o) := fun W hW => by
    have h0 : TotAt W0 b o := ⟨ht.1.of_block (HBW.out.block b hblt), ht.2⟩
    exact h0.but hW.out.but (by omega)
  have HK : Hid (∀ W, Hid (Res w.heap.size W0 W) → True ∧ Hid (Res w.heap.size W0 W)) := fun W hW => ⟨trivial, hW⟩
  have HQ0 := res_dr HR0
  have HT1 : Hid (∀ W, Hid (Res w.heap.size W0 W) → Calls Tryd.prog 61 #[.slice (some ⟨b, 0, none⟩) 134 134] W fun r w' => (∃ n, r = .returned (.slice (some ⟨b, 0, none⟩) n 134) ∧ Hid (∃ L, L.length = n ∧ ∀ W', TotAt W' b o → MagIs (natF (seg 0 o) 134) 134 L (some ⟨b, 0, none⟩) 134 W')) ∧ w' = W) := fun W hW => trim_seg (HTW.out W hW) 0 (by decide)
  have HT2 : Hid (∀ W, Hid (Res w.heap.size W0 W) → Calls Tryd.prog 61 #[.slice (some ⟨b, 134, none⟩) 134 134] W fun r w' => (∃ n, r = .returned (.slice (some ⟨b, 134, none⟩) n 134) ∧ Hid (∃ L, L.length = n ∧ ∀ W', TotAt W' b o → MagIs (natF (seg 134 o) 134) 134 L (some ⟨b, 134, none⟩) 134 W')) ∧ w' = W) := fun W hW => trim_seg (HTW.out W hW) 134 (by decide)
  obtain ⟨A, hA⟩ : ∃ A, Hid (natF (seg 0 o) 134 = A) := ⟨_, rfl⟩
  obtain ⟨B, hB⟩ : ∃ B, Hid (natF (seg 134 o) 134 = B) := ⟨_, rfl⟩
  rw [hA.out] at HT1 ⊢
  rw [hB.out] at HT2 ⊢
  have HT := hid (And.intro hT hs)
  clear ht hT hs
  go_enter Tryd.func43, Tryd.ntmps43
  go_wp2_with fail
  go_region_held3 (fun W => True ∧ Hid (Res w.heap.size W0 W))
    ((refine HK.out _ ?_; first | assumption | exact HQ0))
    (first
      | (go_at_call 61; with_reducible refine (HT1.out _ (And.right (by assumption))).mono ?_; rintro r w1 ⟨⟨X, rfl, HX⟩, rfl⟩)
      | (go_at_call 61; with_reducible refine (HT2.out _ (And.right (by assumption))).mono ?_; rintro r w2 ⟨⟨Y, rfl, HY⟩, rfl⟩))
  all_goals
    have HNE : Hid (∀ W, Hid (Res w.heap.size W0 W) → ∃ LX LY, LX.length = X ∧ LY.length = Y ∧ MagIs A 134 LX (some ⟨b, 0, none⟩) 134 W ∧ MagIs B 134 LY (some ⟨b, 134, none⟩) 134 W) := fun W hW => by
      obtain ⟨LX, x1, hX⟩ := HX.out
      obtain ⟨LY, y1, hY⟩ := HY.out
      exact ⟨LX, LY, x1, y1, hX W (HTW.out W hW), hY W (HTW.out W hW)⟩
    have HCM : Hid (∀ W, Hid (Res w.heap.size W0 W) → Calls Tryd.prog 62 #[.slice (some ⟨b, 0, none⟩) X 134, .slice (some ⟨b, 134, none⟩) Y 134] W fun r w' => r = .returned (.int .i64 (cmpI A B)) ∧ Hid (Res w.heap.size W0 w')) := fun W hW => by
      obtain ⟨LX, LY, rfl, rfl, hX, hY⟩ := HNE.out W hW
      have hx := hX.2.1
      have hy := hY.2.1
      have := dcompare_any LX LY _ _ 134 134 W hX.2.2.1 hY.2.2.1 hX.2.2.2.1 hY.2.2.2.1 hX.2.2.2.2.1 hY.2.2.2.2.1 (by omega) (by omega)
      rw [hX.2.2.2.2.2, hY.2.2.2.2.2] at this
      refine this.mono ?_
      rintro r w' ⟨rfl, hb⟩
      exact ⟨rfl, hW.out.call hb⟩
    clear HX HY HT1 HT2
    by_cases hlt : A < B
    · rw [cmpI_lt hlt] at HCM
      have HAB := hid (Nat.le_of_lt hlt)
      have HEQ := hid (show sgnN true (B - A) = (A : Int) - (B : Int) by unfold sgnN; rw [if_pos rfl]; omega)
      clear hlt
      have HOP : Hid (∀ W, Hid (Res w.heap.size W0 W) → Calls Tryd.prog 64 #[.slice (some ⟨b, 134, none⟩) Y 134, .slice (some ⟨b, 0, none⟩) X 134] W fun r w' => ∃ n a cap, r = .returned (.slice a n cap) ∧ Hid (∃ LS, LS.length = n ∧ MagIs (B - A) 134 LS a cap w') ∧ Hid (Res w.heap.size W0 w')) := fun W hW => by
        obtain ⟨LX, LY, rfl, rfl, hX, hY⟩ := HNE.out W hW
        have hx := hX.2.1
        have hy := hY.2.1
        have hle : natL LX ≤ natL LY := by rw [hX.2.2.2.2.2, hY.2.2.2.2.2]; exact HAB.out
        have hll : LX.length ≤ LY.length := by
          apply Classical.byContradiction
          intro hc
          have := natL_shorter LY LX hY.2.2.2.1 hX.2.2.2.2.1 (by omega)
          omega
        refine (dminus_any LY LX _ _ _ _ W hY.2.2.1 hX.2.2.1 hY.2.2.2.1 hX.2.2.2.1 hll (by omega) hle).mono ?_
        rintro r w' ⟨⟨LS, a, cap, rfl, s1, s2, s3, s4, s5, s6⟩, hb⟩
        exact ⟨LS.length, a, cap, rfl, ⟨LS, rfl, s1, by omega, s3, s4, s5, by rw [s6, hX.2.2.2.2.2, hY.2.2.2.2.2]⟩, hW.out.call hb⟩
      have HWR : Hid (∀ W n a cap, Hid (Res w.heap.size W0 W) → Hid (∃ LS, LS.length = n ∧ MagIs (B - A) 134 LS a cap W) → Calls Tryd.prog 63 #[.bool true, .slice a n cap, .int .i64 (-2148)] W fun r w' => ∃ neg' a' n' cap' e' v0 v1 v2, r = .returned (.tuple #[.agg #[.bool neg', .slice a' n' cap', .int .i64 e'], .int .i64 0]) ∧ Hid (DyRet (sgnN true (B - A)) (-2148) (w.heap.size + 1) neg' a' n' cap' e' w') ∧ Hid (Res w.heap.size W0 w') ∧ (∀ o, w'.frozen? ⟨w.heap.size, o, none⟩ = false) ∧ w'.cell? ⟨w.heap.size, 0, none⟩ = some v0 ∧ w'.cell? ⟨w.heap.size, 1, none⟩ = some v1 ∧ w'.cell? ⟨w.heap.size, 2, none⟩ = some v2) := fun W n a cap hW hM => by
        obtain ⟨LS, rfl, hM'⟩ := hM.out
        exact written_res w.heap.size w W0 W true (B - A) 134 LS a cap (-2148) hW.out HBW.out (Nat.le_refl _) HT.out.1 HT.out.2 hM' (by decide) (by decide) (by decide)
      go_wp2_with fail
      refine (HCM.out _ (by first | exact HQ0 | assumption)).mono ?_
      rintro r w3 ⟨rfl, HR3⟩
      go_wp2_with fail
      refine (HOP.out _ (by assumption)).mono ?_
      rintro r w4 ⟨n', a', cap', rfl, HM4, HR4⟩
      go_wp2_with fail
      refine (HWR.out _ _ _ _ (by assumption) (by assumption)).mono ?_
      rintro r w5 ⟨neg', b', k', d', x', v0, v1, v2, rfl, HRT, HF3, fz, c0, c1', c2'⟩
      go_wp2
      have hend := res_end HBW.out (Nat.le_refl _) HRT HF3
      rw [HEQ.out] at hend
      exact bodyPost_ret (v := .tuple #[.agg #[.bool neg', .slice b' k' d', .int .i64 x'], .int .i64 0]) (by simp [results, Tryd.results43, go_sem, c0, c1', c2']) rfl hend
    · have HCI : Hid (∃ c : Int, cmpI A B = c ∧ ¬ c < 0) := by
        refine ⟨_, rfl, ?_⟩
        unfold cmpI
        rw [if_neg hlt]
        split <;> omega
      obtain ⟨c, hc, hc0⟩ := HCI.out
      rw [hc] at HCM
      have HAB := hid (Nat.le_of_not_lt hlt)
      have HEQ := hid (show sgnN false (A - B) = (A : Int) - (B : Int) by unfold sgnN; rw [if_neg (by decide)]; omega)
      clear hlt HCI hc
      have HOP : Hid (∀ W, Hid (Res w.heap.size W0 W) → Calls Tryd.prog 64 #[.slice (some ⟨b, 0, none⟩) X 134, .slice (some ⟨b, 134, none⟩) Y 134] W fun r w' => ∃ n a cap, r = .returned (.slice a n cap) ∧ Hid (∃ LS, LS.length = n ∧ MagIs (A - B) 134 LS a cap w') ∧ Hid (Res w.heap.size W0 w')) := fun W hW => by
        obtain ⟨LX, LY, rfl, rfl, hX, hY⟩ := HNE.out W hW
        have hx := hX.2.1
        have hy := hY.2.1
        have hle : natL LY ≤ natL LX := by rw [hX.2.2.2.2.2, hY.2.2.2.2.2]; exact HAB.out
        have hll : LY.length ≤ LX.length := by
          apply Classical.byContradiction
          intro hc
          have := natL_shorter LX LY hX.2.2.2.1 hY.2.2.2.2.1 (by omega)
          omega
        refine (dminus_any LX LY _ _ _ _ W hX.2.2.1 hY.2.2.1 hX.2.2.2.1 hY.2.2.2.1 hll (by omega) hle).mono ?_
        rintro r w' ⟨⟨LS, a, cap, rfl, s1, s2, s3, s4, s5, s6⟩, hb⟩
        exact ⟨LS.length, a, cap, rfl, ⟨LS, rfl, s1, by omega, s3, s4, s5, by rw [s6, hX.2.2.2.2.2, hY.2.2.2.2.2]⟩, hW.out.call hb⟩
      have HWR : Hid (∀ W n a cap, Hid (Res w.heap.size W0 W) → Hid (∃ LS, LS.length = n ∧ MagIs (A - B) 134 LS a cap W) → Calls Tryd.prog 63 #[.bool false, .slice a n cap, .int .i64 (-2148)] W fun r w' => ∃ neg' a' n' cap' e' v0 v1 v2, r = .returned (.tuple #[.agg #[.bool neg', .slice a' n' cap', .int .i64 e'], .int .i64 0]) ∧ Hid (DyRet (sgnN false (A - B)) (-2148) (w.heap.size + 1) neg' a' n' cap' e' w') ∧ Hid (Res w.heap.size W0 w') ∧ (∀ o, w'.frozen? ⟨w.heap.size, o, none⟩ = false) ∧ w'.cell? ⟨w.heap.size, 0, none⟩ = some v0 ∧ w'.cell? ⟨w.heap.size, 1, none⟩ = some v1 ∧ w'.cell? ⟨w.heap.size, 2, none⟩ = some v2) := fun W n a cap hW hM => by
        obtain ⟨LS, rfl, hM'⟩ := hM.out
        exact written_res w.heap.size w W0 W false (A - B) 134 LS a cap (-2148) hW.out HBW.out (Nat.le_refl _) HT.out.1 HT.out.2 hM' (by decide) (by decide) (by decide)
      go_wp2_with fail
      refine (HCM.out _ (by first | exact HQ0 | assumption)).mono ?_
      rintro r w3 ⟨rfl, HR3⟩
      go_wp2_with fail
      refine (HOP.out _ (by assumption)).mono ?_
      rintro r w4 ⟨n', a', cap', rfl, HM4, HR4⟩
      go_wp2_with fail
      refine (HWR.out _ _ _ _ (by assumption) (by assumption)).mono ?_
      rintro r w5 ⟨neg', b', k', d', x', v0, v1, v2, rfl, HRT, HF3, fz, c0, c1', c2'⟩
      go_wp2
      have hend := res_end HBW.out (Nat.le_refl _) HRT HF3
      rw [HEQ.out] at hend
      exact bodyPost_ret (v := .tuple #[.agg #[.bool neg', .slice b' k' d', .int .i64 x'], .int .i64 0]) (by simp [results, Tryd.results43, go_sem, c0, c1', c2']) rfl hend
end Go.Proofs.YtpjdmhidhllbkaaDoor
