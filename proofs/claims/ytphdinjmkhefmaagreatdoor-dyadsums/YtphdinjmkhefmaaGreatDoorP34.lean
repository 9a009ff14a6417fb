
/- What dyad's total comes to. -/
import Derived.Test.YtphdinjmkhefmaaGreatDoorP33
import Derived.Test.YtphdinjmkhefmaaGreatDoorP31
import Derived.Test.YtphdinjmkhefmaaGreatDoorP32
namespace Go.Proofs.YtphdinjmkhefmaaGreatDoor
open Go.RowKit Go.IntWalk

theorem seg_mag {W : World} {b : Nat} {o : Nat → Nat} (h : TotAt W b o) (off : Nat) (ho : off + 134 ≤ 268) : MagAt W (some ⟨b, off, none⟩) ((List.range 134).map (seg off o)) := by
  intro i hi
  rw [List.length_map, List.length_range] at hi
  refine ⟨b, off, rfl, h.1.lt, ?_⟩
  rw [h.1.cell (i := off + i) (by omega), list_get _ _ _ hi]
  rfl
theorem seg_dig {W : World} {b : Nat} {o : Nat → Nat} (h : TotAt W b o) (off : Nat) : DigL ((List.range 134).map (seg off o)) := by
  intro d hd
  obtain ⟨i, _, rfl⟩ := List.mem_map.1 hd
  exact h.2 _
theorem trim_seg {W : World} {b : Nat} {o : Nat → Nat} (h : TotAt W b o) (off : Nat) (ho : off + 134 ≤ 268) :
    Calls Tryz.prog 30 #[.slice (some ⟨b, off, none⟩) 134 134] W fun r w' => (∃ n, r = .returned (.slice (some ⟨b, off, none⟩) n 134) ∧ Hid (∃ L, L.length = n ∧ ∀ W', TotAt W' b o → MagIs (natF (seg off o) 134) 134 L (some ⟨b, off, none⟩) 134 W')) ∧ w' = W := by
  have HL : ((List.range 134).map (seg off o)).length = 134 := by rw [List.length_map, List.length_range]
  have ht := trim_any ((List.range 134).map (seg off o)) (some ⟨b, off, none⟩) 134 W (seg_mag h off ho) (by rw [HL]; exact Nat.le_refl _) (by rw [HL]; decide)
  rw [HL] at ht
  refine ht.mono ?_
  rintro r w1 ⟨⟨j, hj, rfl, hv2, he⟩, rfl⟩
  obtain ⟨hcan, hlen⟩ := can_take _ j (by rw [HL]; exact hj) he
  refine ⟨⟨j, rfl, ⟨((List.range 134).map (seg off o)).take j, hlen, fun W' h' => ⟨by rw [hlen]; exact hj, by rw [hlen]; exact hj, (seg_mag h' off ho).take j, (seg_dig h' off).take j, hcan, ?_⟩⟩⟩, rfl⟩
  rw [hv2, natF_list]
theorem TotAt.but {W W' : World} {b z : Nat} {o : Nat → Nat} (h : TotAt W b o) (hb : But z W W') (hz : b ≠ z) : TotAt W' b o := ⟨h.1.of_block (hb.block b h.1.lt hz), h.2⟩
set_option maxRecDepth 4000 in
set_option maxHeartbeats 4000000 in
theorem tdyad_any (b : Nat) (o : Nat → Nat) (w : World) (ht : TotAt w b o) (hT : Tab32 w) (hs : 1 < w.heap.size) :
    Calls Tryz.prog 17 #[.pointer (some ⟨b, 0, none⟩)] w fun r w' => DyOut ((natF (seg 0 o) 134 : Int) - (natF (seg 134 o) 134 : Int)) (-2148) w.heap.size r w' ∧ Below w.heap.size w w' := by
  have hblt := ht.1.lt
  obtain ⟨W0, hW0⟩ : ∃ W0, Hid (w.alloc (DyBox false none 0 0 0) = W0) := ⟨_, rfl⟩
  have hW0' : w.alloc (DyBox false none 0 0 0) = W0 := hW0.out
  unfold DyBox at hW0'
  have HBW : Hid (Below w.heap.size w W0) := by rw [← hW0.out]; exact (Below.refl _ _).alloc (Nat.le_refl _) _
  have HR0 : Hid (Res w.heap.size W0 W0) := by
    refine ⟨But.refl _ _, .bool false, .slice none 0 0, .int .i64 0, ?_⟩
    rw [← hW0.out]
    exact new_blk w _ _ rfl
  have HTW : Hid (∀ W, Hid (Res w.heap.size W0 W) → TotAt W b o) := fun W hW => by
    have h0 : TotAt W0 b o := ⟨ht.1.of_block (HBW.out.block b hblt), ht.2⟩
    exact h0.but hW.out.but (by omega)
  have HK : Hid (∀ W, Hid (Res w.heap.size W0 W) → True ∧ Hid (Res w.heap.size W0 W)) := fun W hW => ⟨trivial, hW⟩
  have HQ0 := res_dr HR0
  have HT1 : Hid (∀ W, Hid (Res w.heap.size W0 W) → Calls Tryz.prog 30 #[.slice (some ⟨b, 0, none⟩) 134 134] W fun r w' => (∃ n, r = .returned (.slice (some ⟨b, 0, none⟩) n 134) ∧ Hid (∃ L, L.length = n ∧ ∀ W', TotAt W' b o → MagIs (natF (seg 0 o) 134) 134 L (some ⟨b, 0, none⟩) 134 W')) ∧ w' = W) := fun W hW => trim_seg (HTW.out W hW) 0 (by decide)
  have HT2 : Hid (∀ W, Hid (Res w.heap.size W0 W) → Calls Tryz.prog 30 #[.slice (some ⟨b, 134, none⟩) 134 134] W fun r w' => (∃ n, r = .returned (.slice (some ⟨b, 134, none⟩) n 134) ∧ Hid (∃ L, L.length = n ∧ ∀ W', TotAt W' b o → MagIs (natF (seg 134 o) 134) 134 L (some ⟨b, 134, none⟩) 134 W')) ∧ w' = W) := fun W hW => trim_seg (HTW.out W hW) 134 (by decide)
  obtain ⟨A, hA⟩ : ∃ A, Hid (natF (seg 0 o) 134 = A) := ⟨_, rfl⟩
  obtain ⟨B, hB⟩ : ∃ B, Hid (natF (seg 134 o) 134 = B) := ⟨_, rfl⟩
  rw [hA.out] at HT1 ⊢
  rw [hB.out] at HT2 ⊢
  have HT := hid (And.intro hT hs)
  clear ht hT hs
  go_enter Tryz.func17, Tryz.ntmps17
  go_wp2_with fail
  go_region_held3 (fun W => True ∧ Hid (Res w.heap.size W0 W))
    ((refine HK.out _ ?_; first | assumption | exact HQ0))
    (first
      | (go_at_call 30; with_reducible refine (HT1.out _ (And.right (by assumption))).mono ?_; rintro r w1 ⟨⟨X, rfl, HX⟩, rfl⟩)
      | (go_at_call 30; with_reducible refine (HT2.out _ (And.right (by assumption))).mono ?_; rintro r w2 ⟨⟨Y, rfl, HY⟩, rfl⟩))
  all_goals
    have HNE : Hid (∀ W, Hid (Res w.heap.size W0 W) → ∃ LX LY, LX.length = X ∧ LY.length = Y ∧ MagIs A 134 LX (some ⟨b, 0, none⟩) 134 W ∧ MagIs B 134 LY (some ⟨b, 134, none⟩) 134 W) := fun W hW => by
      obtain ⟨LX, x1, hX⟩ := HX.out
      obtain ⟨LY, y1, hY⟩ := HY.out
      exact ⟨LX, LY, x1, y1, hX W (HTW.out W hW), hY W (HTW.out W hW)⟩
    have HCM : Hid (∀ W, Hid (Res w.heap.size W0 W) → Calls Tryz.prog 31 #[.slice (some ⟨b, 0, none⟩) X 134, .slice (some ⟨b, 134, none⟩) Y 134] W fun r w' => r = .returned (.int .i64 (cmpI A B)) ∧ Hid (Res w.heap.size W0 w')) := fun W hW => by
      obtain ⟨LX, LY, rfl, rfl, hX, hY⟩ := HNE.out W hW
      have hx := hX.2.1
      have hy := hY.2.1
      have := dcompare_any LX LY _ _ 134 134 W hX.2.2.1 hY.2.2.1 hX.2.2.2.1 hY.2.2.2.1 hX.2.2.2.2.1 hY.2.2.2.2.1 (by omega) (by omega)
      rw [hX.2.2.2.2.2, hY.2.2.2.2.2] at this
      refine this.mono ?_
      rintro r w' ⟨rfl, hb⟩
      exact ⟨rfl, hW.out.call hb⟩
    clear HX HY HT1 HT2
    by_cases hlt : A < B
    · rw [cmpI_lt hlt] at HCM
      have HAB := hid (Nat.le_of_lt hlt)
      have HEQ := hid (show sgnN true (B - A) = (A : Int) - (B : Int) by unfold sgnN; rw [if_pos rfl]; omega)
      clear hlt
      have HOP : Hid (∀ W, Hid (Res w.heap.size W0 W) → Calls Tryz.prog 33 #[.slice (some ⟨b, 134, none⟩) Y 134, .slice (some ⟨b, 0, none⟩) X 134] W fun r w' => ∃ n a cap, r = .returned (.slice a n cap) ∧ Hid (∃ LS, LS.length = n ∧ MagIs (B - A) 134 LS a cap w') ∧ Hid (Res w.heap.size W0 w')) := fun W hW => by
        obtain ⟨LX, LY, rfl, rfl, hX, hY⟩ := HNE.out W hW
        have hx := hX.2.1
        have hy := hY.2.1
        have hle : natL LX ≤ natL LY := by rw [hX.2.2.2.2.2, hY.2.2.2.2.2]; exact HAB.out
        have hll : LX.length ≤ LY.length := by
          apply Classical.byContradiction
          intro hc
          have := natL_shorter LY LX hY.2.2.2.1 hX.2.2.2.2.1 (by omega)
          omega
        refine (dminus_any LY LX _ _ _ _ W hY.2.2.1 hX.2.2.1 hY.2.2.2.1 hX.2.2.2.1 hll (by omega) hle).mono ?_
        rintro r w' ⟨⟨LS, a, cap, rfl, s1, s2, s3, s4, s5, s6⟩, hb⟩
        exact ⟨LS.length, a, cap, rfl, ⟨LS, rfl, s1, by omega, s3, s4, s5, by rw [s6, hX.2.2.2.2.2, hY.2.2.2.2.2]⟩, hW.out.call hb⟩
      have HWR : Hid (∀ W n a cap, Hid (Res w.heap.size W0 W) → Hid (∃ LS, LS.length = n ∧ MagIs (B - A) 134 LS a cap W) → Calls Tryz.prog 32 #[.bool true, .slice a n cap, .int .i64 (-2148)] W fun r w' => ∃ neg' a' n' cap' e' v0 v1 v2, r = .returned (.tuple #[.agg #[.bool neg', .slice a' n' cap', .int .i64 e'], .int .i64 0]) ∧ Hid (DyRet (sgnN true (B - A)) (-2148) (w.heap.size + 1) neg' a' n' cap' e' w') ∧ Hid (Res w.heap.size W0 w') ∧ (∀ o, w'.frozen? ⟨w.heap.size, o, none⟩ = false) ∧ w'.cell? ⟨w.heap.size, 0, none⟩ = some v0 ∧ w'.cell? ⟨w.heap.size, 1, none⟩ = some v1 ∧ w'.cell? ⟨w.heap.size, 2, none⟩ = some v2) := fun W n a cap hW hM => by
        obtain ⟨LS, rfl, hM'⟩ := hM.out
        exact written_res w.heap.size w W0 W true (B - A) 134 LS a cap (-2148) hW.out HBW.out (Nat.le_refl _) HT.out.1 HT.out.2 hM' (by decide) (by decide) (by decide)
      go_wp2_with fail
      refine (HCM.out _ (by first | exact HQ0 | assumption)).mono ?_
      rintro r w3 ⟨rfl, HR3⟩
      go_wp2_with fail
      refine (HOP.out _ (by assumption)).mono ?_
      rintro r w4 ⟨n', a', cap', rfl, HM4, HR4⟩
      go_wp2_with fail
      refine (HWR.out _ _ _ _ (by assumption) (by assumption)).mono ?_
      rintro r w5 ⟨neg', b', k', d', x', v0, v1, v2, rfl, HRT, HF3, fz, c0, c1', c2'⟩
      go_wp2
      have hend := res_end HBW.out (Nat.le_refl _) HRT HF3
      rw [HEQ.out] at hend
      exact bodyPost_ret (v := .tuple #[.agg #[.bool neg', .slice b' k' d', .int .i64 x'], .int .i64 0]) (by simp [results, Tryz.results17, go_sem, c0, c1', c2']) rfl hend
    · have HCI : Hid (∃ c : Int, cmpI A B = c ∧ ¬ c < 0) := by
        refine ⟨_, rfl, ?_⟩
        unfold cmpI
        rw [if_neg hlt]
        split <;> omega
      obtain ⟨c, hc, hc0⟩ := HCI.out
      rw [hc] at HCM
      have HAB := hid (Nat.le_of_not_lt hlt)
      have HEQ := hid (show sgnN false (A - B) = (A : Int) - (B : Int) by unfold sgnN; rw [if_neg (by decide)]; omega)
      clear hlt HCI hc
      have HOP : Hid (∀ W, Hid (Res w.heap.size W0 W) → Calls Tryz.prog 33 #[.slice (some ⟨b, 0, none⟩) X 134, .slice (some ⟨b, 134, none⟩) Y 134] W fun r w' => ∃ n a cap, r = .returned (.slice a n cap) ∧ Hid (∃ LS, LS.length = n ∧ MagIs (A - B) 134 LS a cap w') ∧ Hid (Res w.heap.size W0 w')) := fun W hW => by
        obtain ⟨LX, LY, rfl, rfl, hX, hY⟩ := HNE.out W hW
        have hx := hX.2.1
        have hy := hY.2.1
        have hle : natL LY ≤ natL LX := by rw [hX.2.2.2.2.2, hY.2.2.2.2.2]; exact HAB.out
        have hll : LY.length ≤ LX.length := by
          apply Classical.byContradiction
          intro hc
          have := natL_shorter LX LY hX.2.2.2.1 hY.2.2.2.2.1 (by omega)
          omega
        refine (dminus_any LX LY _ _ _ _ W hX.2.2.1 hY.2.2.1 hX.2.2.2.1 hY.2.2.2.1 hll (by omega) hle).mono ?_
        rintro r w' ⟨⟨LS, a, cap, rfl, s1, s2, s3, s4, s5, s6⟩, hb⟩
        exact ⟨LS.length, a, cap, rfl, ⟨LS, rfl, s1, by omega, s3, s4, s5, by rw [s6, hX.2.2.2.2.2, hY.2.2.2.2.2]⟩, hW.out.call hb⟩
      have HWR : Hid (∀ W n a cap, Hid (Res w.heap.size W0 W) → Hid (∃ LS, LS.length = n ∧ MagIs (A - B) 134 LS a cap W) → Calls Tryz.prog 32 #[.bool false, .slice a n cap, .int .i64 (-2148)] W fun r w' => ∃ neg' a' n' cap' e' v0 v1 v2, r = .returned (.tuple #[.agg #[.bool neg', .slice a' n' cap', .int .i64 e'], .int .i64 0]) ∧ Hid (DyRet (sgnN false (A - B)) (-2148) (w.heap.size + 1) neg' a' n' cap' e' w') ∧ Hid (Res w.heap.size W0 w') ∧ (∀ o, w'.frozen? ⟨w.heap.size, o, none⟩ = false) ∧ w'.cell? ⟨w.heap.size, 0, none⟩ = some v0 ∧ w'.cell? ⟨w.heap.size, 1, none⟩ = some v1 ∧ w'.cell? ⟨w.heap.size, 2, none⟩ = some v2) := fun W n a cap hW hM => by
        obtain ⟨LS, rfl, hM'⟩ := hM.out
        exact written_res w.heap.size w W0 W false (A - B) 134 LS a cap (-2148) hW.out HBW.out (Nat.le_refl _) HT.out.1 HT.out.2 hM' (by decide) (by decide) (by decide)
      go_wp2_with fail
      refine (HCM.out _ (by first | exact HQ0 | assumption)).mono ?_
      rintro r w3 ⟨rfl, HR3⟩
      go_wp2_with fail
      refine (HOP.out _ (by assumption)).mono ?_
      rintro r w4 ⟨n', a', cap', rfl, HM4, HR4⟩
      go_wp2_with fail
      refine (HWR.out _ _ _ _ (by assumption) (by assumption)).mono ?_
      rintro r w5 ⟨neg', b', k', d', x', v0, v1, v2, rfl, HRT, HF3, fz, c0, c1', c2'⟩
      go_wp2
      have hend := res_end HBW.out (Nat.le_refl _) HRT HF3
      rw [HEQ.out] at hend
      exact bodyPost_ret (v := .tuple #[.agg #[.bool neg', .slice b' k' d', .int .i64 x'], .int .i64 0]) (by simp [results, Tryz.results17, go_sem, c0, c1', c2']) rfl hend
end Go.Proofs.YtphdinjmkhefmaaGreatDoor

namespace Go.Proofs.YtphdinjmkhefmaaGreatDoor
open Go.RowKit Go.IntWalk

theorem intL_not (n : Bool) (L : List Nat) : intL (!n) L = -intL n L := by unfold intL; cases n <;> simp
/-- added of the other sign, by what the dyads stand for. -/
theorem added_neg (n1 n2 : Bool) (a1 a2 : Option Addr) (l1 l2 c1 c2 N : Nat) (e1 e2 z1 z2 e : Int) (w : World) (h1 : DyAt w n1 a1 l1 c1 e1 z1 e) (h2 : DyAt w n2 a2 l2 c2 e2 z2 e) (hz1 : z1.natAbs < 2 ^ N) (hz2 : z2.natAbs < 2 ^ N) (hN : N ≤ 6400) (he1 : -3000 ≤ e) (he2 : e ≤ 3000) (hT : Tab32 w) (hs : 1 < w.heap.size) :
    Calls Tryz.prog 48 #[.agg #[.bool n1, .slice a1 l1 c1, .int .i64 e1], .agg #[.bool (!n2), .slice a2 l2 c2, .int .i64 e2]] w fun r w' => DyOut (z1 - z2) e w.heap.size r w' ∧ Below w.heap.size w w' := by
  obtain ⟨L1, rfl, _, m1, v1, _⟩ := h1
  obtain ⟨L2, rfl, _, m2, v2, _⟩ := h2
  obtain ⟨s1, s2, s3⟩ := v1.size hz1 hN he1 he2
  obtain ⟨t1, t2, t3⟩ := v2.size hz2 hN he1 he2
  obtain ⟨m, hm⟩ : ∃ m, min e1 e2 = m := ⟨_, rfl⟩
  obtain ⟨i, hi⟩ := Int.eq_ofNat_of_zero_le (show 0 ≤ e1 - m by omega)
  obtain ⟨j, hj⟩ := Int.eq_ofNat_of_zero_le (show 0 ≤ e2 - m by omega)
  refine (added_any n1 (!n2) L1 L2 a1 a2 c1 c2 i j 600 e1 e2 m w m1 m2 v1.1 v2.1 (by omega) (by omega) (by decide) hm hi hj (by omega) (by omega) hT hs).mono ?_
  rintro r w' ⟨ho, hb⟩
  have g1 : (z1 = 0 ∧ intL n1 L1 = 0) ∨ ∃ k : Nat, intL n1 L1 * 2 ^ k = z1 ∧ e1 = e + k := by
    rcases v1.val with ⟨z0, l0, m0, x0⟩ | ⟨_, _, _, k, hk⟩
    · exact Or.inl ⟨z0, by rw [l0, m0]; rfl⟩
    · exact Or.inr ⟨k, hk⟩
  have g2 : (-z2 = 0 ∧ intL (!n2) L2 = 0) ∨ ∃ k : Nat, intL (!n2) L2 * 2 ^ k = -z2 ∧ e2 = e + k := by
    rw [intL_not]
    rcases v2.val with ⟨z0, l0, m0, x0⟩ | ⟨_, _, _, k, hk⟩
    · exact Or.inl ⟨by omega, by rw [l0, m0]; rfl⟩
    · exact Or.inr ⟨k, by rw [Int.neg_mul, hk.1], hk.2⟩
  obtain ⟨p, q, q1, q2⟩ := sum_conv _ _ z1 (-z2) e e1 e2 m i j hi hj g1 g2
  exact ⟨ho.conv q1 q2, hb⟩
end Go.Proofs.YtphdinjmkhefmaaGreatDoor

namespace Go.Proofs.YtphdinjmkhefmaaGreatDoor
open Go.RowKit Go.IntWalk

theorem sgn_times (n1 n2 : Bool) (L1 L2 : List Nat) : sgnN (n1 != n2) (natL L1 * natL L2) = intL n1 L1 * intL n2 L2 := by
  unfold sgnN intL
  cases n1 <;> cases n2 <;> simp [Int.natCast_mul, Int.neg_mul, Int.mul_neg]
theorem prod_conv (i1 i2 z1 z2 ez1 ez2 e1 e2 : Int) (h1 : (z1 = 0 ∧ i1 = 0) ∨ ∃ k : Nat, i1 * 2 ^ k = z1 ∧ e1 = ez1 + k) (h2 : (z2 = 0 ∧ i2 = 0) ∨ ∃ k : Nat, i2 * 2 ^ k = z2 ∧ e2 = ez2 + k) : ∃ p q : Nat, i1 * i2 * 2 ^ p = z1 * z2 * 2 ^ q ∧ e1 + e2 - p = ez1 + ez2 - q := by
  have zero : i1 * i2 = 0 → z1 * z2 = 0 → ∃ p q : Nat, i1 * i2 * 2 ^ p = z1 * z2 * 2 ^ q ∧ e1 + e2 - p = ez1 + ez2 - q := fun a b => by
    refine ⟨(e1 + e2 - min (e1 + e2) (ez1 + ez2)).toNat, (ez1 + ez2 - min (e1 + e2) (ez1 + ez2)).toNat, by rw [a, b, Int.zero_mul, Int.zero_mul], by omega⟩
  rcases h1 with ⟨a, b⟩ | ⟨k, hk, hx⟩
  · exact zero (by rw [b, Int.zero_mul]) (by rw [a, Int.zero_mul])
  · rcases h2 with ⟨a, b⟩ | ⟨l, hl, hy⟩
    · exact zero (by rw [b, Int.mul_zero]) (by rw [a, Int.mul_zero])
    · refine ⟨k + l, 0, ?_, by omega⟩
      rw [Int.pow_zero, Int.mul_one, ← hk, ← hl, Int.pow_add, Int.mul_assoc, Int.mul_assoc, Int.mul_left_comm i2]
end Go.Proofs.YtphdinjmkhefmaaGreatDoor

namespace Go.Proofs.YtphdinjmkhefmaaGreatDoor
open Go.RowKit Go.IntWalk

set_option maxRecDepth 4000 in
set_option maxHeartbeats 2000000 in
theorem Same_yes (neg : Bool) (L : List Nat) (a1 a2 : Option Addr) (c1 c2 : Nat) (e : Int) (w : World) (h1 : MagAt w a1 L) (h2 : MagAt w a2 L) (hn : L.length ≤ 1000000) :
    Calls Tryz.prog 24 #[.agg #[.bool neg, .slice a1 L.length c1, .int .i64 e], .agg #[.bool neg, .slice a2 L.length c2, .int .i64 e]] w fun r w' => r = .returned (.bool true) ∧ Below w.heap.size w w' := by
  have H1 := hid h1
  have H2 := hid h2
  obtain ⟨n, hnl⟩ : ∃ n, Hid (L.length = n) := ⟨_, rfl⟩
  rw [hnl.out] at hn ⊢
  obtain ⟨W0, hW0⟩ : ∃ W0, Hid (AlW w neg neg a1 a2 n n c1 c2 e e = W0) := ⟨_, rfl⟩
  have hW0' : AlW w neg neg a1 a2 n n c1 c2 e e = W0 := hW0.out
  have hs0 := AlW.size w neg neg a1 a2 n n c1 c2 e e
  have hb0 := AlW.below w neg neg a1 a2 n n c1 c2 e e
  obtain ⟨f3, f4⟩ := AlW.cells w neg neg a1 a2 n n c1 c2 e e
  rw [hW0'] at hs0 hb0 f3 f4
  unfold AlW DyBox at hW0'
  have hc1 := dcells_of f3
  have hc2 := dcells_of f4
  unfold DCells at hc1 hc2
  obtain ⟨p10, p11, p12⟩ := hc1
  obtain ⟨p20, p21, p22⟩ := hc2
  have HB0 := hid hb0
  have HS0 := hid hs0
  have hbe : (neg == neg) = true := by simp
  clear h1 h2 f3 f4 hb0 hs0
  go_enter Tryz.func24, Tryz.ntmps24
  go_wp2
  go_loopw [30] (fun i wr => ∃ k : Nat, k ≤ n ∧ i = .int .i64 k ∧ Hid (Below W0.heap.size W0 wr)) (fun i _ => n - (intOf i).toNat)
  case atStart => exact ⟨0, Nat.zero_le _, rfl, Below.refl _ _⟩
  case round =>
    obtain ⟨k, hk, rfl, HBW⟩ := hrel
    have hlt1 : w.heap.size < W0.heap.size := by rw [HS0.out]; omega
    have hlt2 : w.heap.size + 1 < W0.heap.size := by rw [HS0.out]; omega
    by_cases hlt : k < n
    · obtain ⟨b1, o1, rfl, hb1, hx1⟩ := H1.out k (by rw [hnl.out]; exact hlt)
      obtain ⟨b2, o2, rfl, hb2, hx2⟩ := H2.out k (by rw [hnl.out]; exact hlt)
      have q11 : wr.cell? ⟨w.heap.size, 1, none⟩ = some (.slice (some ⟨b1, o1, none⟩) n c1) := by rw [HBW.out.cell (p := ⟨w.heap.size, 1, none⟩) hlt1]; exact p11
      have q21 : wr.cell? ⟨w.heap.size + 1, 1, none⟩ = some (.slice (some ⟨b2, o2, none⟩) n c2) := by rw [HBW.out.cell (p := ⟨w.heap.size + 1, 1, none⟩) hlt2]; exact p21
      have y1 : wr.cell? ⟨b1, o1 + k, none⟩ = some (.int .u32 (L.getD k 0)) := by
        rw [HBW.out.cell (p := ⟨b1, o1 + k, none⟩) (Nat.lt_of_lt_of_le hb1 HB0.out.size), HB0.out.cell (p := ⟨b1, o1 + k, none⟩) hb1]
        exact hx1
      have y2 : wr.cell? ⟨b2, o2 + k, none⟩ = some (.int .u32 (L.getD k 0)) := by
        rw [HBW.out.cell (p := ⟨b2, o2 + k, none⟩) (Nat.lt_of_lt_of_le hb2 HB0.out.size), HB0.out.cell (p := ⟨b2, o2 + k, none⟩) hb2]
        exact hx2
      obtain ⟨x, hx⟩ : ∃ x, Hid (L.getD k 0 = x) := ⟨_, rfl⟩
      rw [hx.out] at y1 y2
      have hkI : (k : Int) < (n : Int) := by omega
      have hk0 : (0 : Int) ≤ (k : Int) := by omega
      clear hx1 hx2 hb1 hb2 p10 p11 p12 p20 p21 p22 hlt1 hlt2
      go_wp2_with fail
      go_region_held3 (fun W => (W.cell? ⟨w.heap.size, 1, none⟩ = some (.slice (some ⟨b1, o1, none⟩) n c1) ∧ W.cell? ⟨w.heap.size + 1, 1, none⟩ = some (.slice (some ⟨b2, o2, none⟩) n c2)) ∧ W.cell? ⟨b1, o1 + k, none⟩ = some (.int .u32 x) ∧ W.cell? ⟨b2, o2 + k, none⟩ = some (.int .u32 x)) (go_keep) (fail)
      all_goals go_wp2
      all_goals
        refine ⟨⟨k + 1, by omega, by go_num, ?_⟩, by simp [intOf]; omega⟩
        first | exact HBW.out.drew | exact bl_drewN _ HBW.out
    · have hkn : k = n := by omega
      subst hkn
      have HBE : Hid (Below w.heap.size w wr) := HB0.out.trans (HBW.out.mono HB0.out.size)
      go_wp2
      go_ret
      exact ⟨rfl, HBE.out⟩
theorem Same_dy (n1 n2 : Bool) (a1 a2 : Option Addr) (l1 l2 c1 c2 : Nat) (e1 e2 z e : Int) (w : World) (h1 : DyAt w n1 a1 l1 c1 e1 z e) (h2 : DyAt w n2 a2 l2 c2 e2 z e) :
    Calls Tryz.prog 24 #[.agg #[.bool n1, .slice a1 l1 c1, .int .i64 e1], .agg #[.bool n2, .slice a2 l2 c2, .int .i64 e2]] w fun r w' => r = .returned (.bool true) ∧ Below w.heap.size w w' := by
  obtain ⟨L1, rfl, _, m1, v1, y1⟩ := h1
  obtain ⟨L2, rfl, _, m2, v2, _⟩ := h2
  obtain ⟨rfl, rfl, rfl⟩ := v1.uniq v2
  refine Same_yes n1 L1 a1 a2 c1 c2 e1 w m1 m2 ?_
  rcases y1 with ⟨rfl, _, _⟩ | ⟨_, _, _, hl, _⟩
  · exact Nat.zero_le _
  · omega
end Go.Proofs.YtphdinjmkhefmaaGreatDoor
