
/- What the law ConvertSterbenz answers where the double of the first is not below the second. -/
import Derived.Test.YtpgcelbgmpfliaaDoorQ47
namespace Go.Proofs.YtpgcelbgmpfliaaDoor
open Go.RowKit Go.IntWalk

set_option maxHeartbeats 40000000 in
theorem ster_high (x y : Nat) (mode : Int) (n1 : Bool) (E1 E2 c1 c2 : Int) (w : World) (hT : Tab w) (hs : 1 < w.heap.size) (h1 : 0 ≤ mode) (h2 : mode ≤ 4) (e1 : -149 ≤ E1) (e2 : -149 ≤ E2) (f1 : E1 ≤ 200) (f2 : E2 ≤ 200)
    (H1 : Hid (∀ W, Calls Tryd.prog 15 #[.int .u32 x] W fun r w' => ∃ z, r = .returned (.agg #[.int .i64 0, .bool n1, .pointer (some ⟨z, 0, none⟩), .int .i64 E1]) ∧ Hid (NumAt w' z (tM32 x : Int) 2) ∧ Hid (Below W.heap.size W w')))
    (H2 : Hid (∀ W, Calls Tryd.prog 15 #[.int .u32 y] W fun r w' => ∃ z, r = .returned (.agg #[.int .i64 0, .bool n1, .pointer (some ⟨z, 0, none⟩), .int .i64 E2]) ∧ Hid (NumAt w' z (tM32 y : Int) 2) ∧ Hid (Below W.heap.size W w')))
    (hc1 : cmpZ (numV 149 false (tM32 x) E1 + numV 149 false (tM32 x) E1) (numV 149 false (tM32 y) E2) = c1) (hc2 : cmpZ (numV 149 false (tM32 x) E1) (numV 149 false (tM32 y) E2 + numV 149 false (tM32 y) E2) = c2)
    (hlow : ¬ c1 < 0) (hsub : ¬ c1 < 0 → ¬ 0 < c2 → ∃ (R : Nat) (n3 : Bool) (E3 : Int), -149 ≤ E3 ∧ E3 ≤ 200 ∧ numV 149 n3 (tM32 R) E3 = numV 149 n1 (tM32 x) E1 + numV 149 (!n1) (tM32 y) E2 ∧
      Hid (∀ W, Calls Tryd.prog 15 #[.int .u32 R] W fun r w' => ∃ z, r = .returned (.agg #[.int .i64 0, .bool n3, .pointer (some ⟨z, 0, none⟩), .int .i64 E3]) ∧ Hid (NumAt w' z (tM32 R : Int) 2) ∧ Hid (Below W.heap.size W w')) ∧
      Hid (∀ w, Tab w → 1 < w.heap.size → Calls Tryd.prog 19 #[.float .f32 x, .float .f32 y, .int .i64 mode] w fun e w' => e = .returned (.tuple #[.float .f32 R, .int .i64 0, .int .i64 0]) ∧ Below w.heap.size w w')) :
    Calls Tryd.prog 4 #[.int .u32 x, .int .u32 y, .int .i64 mode] w fun r w' => r = .returned (.bool true) ∧ Below w.heap.size w w' := by
  have a1 : ¬ mode < 0 := by omega
  have a2 : ¬ 4 < mode := by omega
  have HE := hid (And.intro e1 (And.intro e2 (And.intro f1 f2)))
  have HC1 := hid hc1
  have HC2 := hid hc2
  have HSB := hid hsub
  have h32 := f64bits32
  clear h1 h2 e1 e2 f1 f2 hc1 hc2 hsub
  go_enter Tryd.func4, Tryd.ntmps4
  go_wp2_with fail
  refine (awake2_any _ hT hs).mono ?_
  rintro r w1 ⟨rfl, b1⟩
  have B1 := hid b1
  clear b1
  go_wp2_with fail
  refine (H1.out _).mono ?_
  rintro r w2 ⟨z1, rfl, N1, B2⟩
  go_wp2_with fail
  refine (H2.out _).mono ?_
  rintro r w3 ⟨z2, rfl, N2, B3⟩
  have HAM : Hid (∀ W n z E, Calls Tryd.prog 16 #[.agg #[.int .i64 0, .bool n, .pointer z, .int .i64 E]] W fun r w' => r = .returned (.agg #[.int .i64 0, .bool false, .pointer z, .int .i64 E]) ∧ ∃ c1 T1 c2 T2, w' = (W.alloc (.cells c1 T1)).alloc (.cells c2 T2)) := fun W n z E => rAmount_new 0 n z E W
  have HQB : Hid (CmpFr w3 n1 n1 z1 z2 E1 E2 (cmpW w3 n1 n1 z1 z2 E1 E2)) := Below.refl _ _
  have HK : Hid (∀ W, Hid (CmpFr w3 n1 n1 z1 z2 E1 E2 W) → (Cells4 W w3.heap.size n1 (some ⟨z1, 0, none⟩) E1 ∧ Cells4 W (w3.heap.size + 1) n1 (some ⟨z2, 0, none⟩) E2) ∧ Hid (CmpFr w3 n1 n1 z1 z2 E1 E2 W)) := fun W h => ⟨⟨h.out.all.1, h.out.all.2.1⟩, h⟩
  have HQ0 : Hid (CmpFr w3 n1 n1 z1 z2 E1 E2 (cmpW w3 n1 n1 z1 z2 E1 E2).drew) := Below.drew (Below.refl _ _)
  have HQ1 : Hid (CmpFr w3 n1 n1 z1 z2 E1 E2 ((cmpW w3 n1 n1 z1 z2 E1 E2).alloc (.cells #[.int .i64 0, .bool false, .pointer none, .int .i64 0] 38)).drew) := Below.drew (Below.alloc (Below.refl _ _) (by rw [cmpW_size]; omega) _)
  have HQ2 : Hid (CmpFr w3 n1 n1 z1 z2 E1 E2 (((cmpW w3 n1 n1 z1 z2 E1 E2).alloc (.cells #[.int .i64 0, .bool false, .pointer none, .int .i64 0] 38)).alloc (.cells #[.int .i64 0, .bool false, .pointer none, .int .i64 0] 38)).drew) := Below.drew (Below.alloc (Below.alloc (Below.refl _ _) (by rw [cmpW_size]; omega) _) (by simp; rw [cmpW_size]; omega) _)
  unfold cmpW at HQ0 HQ1 HQ2 HQB
  clear HQ0 HQ1 HQ2
  unfold Cells4 at HK
  go_wp2_with fail
  go_cut [9, 10] from 14 (fun s9 s10 W => ∃ p q, s9 = .pointer (some ⟨p, 0, none⟩) ∧ s10 = .pointer (some ⟨q, 0, none⟩) ∧ Hid (Blk W p false z1 E1 ∧ Blk W q false z2 E2 ∧ CmpFr w3 n1 n1 z1 z2 E1 E2 W))
  case first =>
    go_region_held3 (fun W => ((W.cell? ⟨w3.heap.size, 0, none⟩ = some (.int .i64 0) ∧ W.cell? ⟨w3.heap.size, 1, none⟩ = some (.bool n1) ∧ W.cell? ⟨w3.heap.size, 2, none⟩ = some (.pointer (some ⟨z1, 0, none⟩)) ∧ W.cell? ⟨w3.heap.size, 3, none⟩ = some (.int .i64 E1)) ∧ (W.cell? ⟨w3.heap.size + 1, 0, none⟩ = some (.int .i64 0) ∧ W.cell? ⟨w3.heap.size + 1, 1, none⟩ = some (.bool n1) ∧ W.cell? ⟨w3.heap.size + 1, 2, none⟩ = some (.pointer (some ⟨z2, 0, none⟩)) ∧ W.cell? ⟨w3.heap.size + 1, 3, none⟩ = some (.int .i64 E2))) ∧ Hid (CmpFr w3 n1 n1 z1 z2 E1 E2 W))
      ((refine HK.out _ (hid ?_); repeat (first | with_reducible exact HQB.out | with_reducible refine CmpFr.al ?_ _ | with_reducible refine CmpFr.dr ?_ | with_reducible refine CmpFr.st ?_ (by first | omega | (simp; done) | (simp; omega)) _ _)))
      (first | (go_at_call 16; refine (HAM.out _ _ _ _).mono ?_; rintro r wa ⟨rfl, c1, T1, c2, T2, rfl⟩))
    all_goals go_wp2_with fail
    all_goals go_meet
    all_goals refine ⟨_, _, rfl, rfl, hid ⟨?_, ?_, ?_⟩⟩
    all_goals repeat (first | with_reducible exact HQB.out | (with_reducible refine bk_new _ _ _ ?_; simp; done) | with_reducible refine bk_al ?_ _ | with_reducible refine bk_dr ?_ | with_reducible refine CmpFr.al ?_ _ | with_reducible refine CmpFr.dr ?_)
  case rest =>
    obtain ⟨p, q, rfl, rfl, HW⟩ := hcut
    obtain ⟨g1, g2, g3⟩ := HW.out
    -- what holds in every world from here on
    have HND : Hid (∀ W, Below wc.heap.size wc W → CmpFr w3 n1 n1 z1 z2 E1 E2 W ∧ NumAt W z1 (tM32 x : Int) 2 ∧ NumAt W z2 (tM32 y : Int) 2 ∧ Below w.heap.size w W) := fun W hW => by
      have hF : CmpFr w3 n1 n1 z1 z2 E1 E2 W := fC g3 hW g3.all.2.2.2
      have h3 := hF.all.2.2.1
      exact ⟨hF, (N1.out.below B3.out).below h3, N2.out.below h3, bl_then (bl_then (bl_then B1.out B2.out) B3.out) h3⟩
    have HK9 : Hid (∀ W, Hid (Below wc.heap.size wc W) → (Cells4 W p false (some ⟨z1, 0, none⟩) E1 ∧ Cells4 W q false (some ⟨z2, 0, none⟩) E2) ∧ Hid (Below wc.heap.size wc W)) := fun W h => ⟨⟨(cells4_of (blk_be g1 h)).1, (cells4_of (blk_be g2 h)).1⟩, h⟩
    have HQ9 : Hid (Below wc.heap.size wc wc.drew) := Below.drew (Below.refl _ _)
    have HS1 : Hid (∀ W, Hid (Below wc.heap.size wc W) → Calls Tryd.prog 18 #[.agg #[.int .i64 0, .bool false, .pointer (some ⟨z1, 0, none⟩), .int .i64 E1], .agg #[.int .i64 0, .bool false, .pointer (some ⟨z1, 0, none⟩), .int .i64 E1]] W fun r w' => ∃ t, r = .returned (.agg #[.int .i64 0, .bool (decide (sumT false (tM32 x) E1 false (tM32 x) E1 < 0)), .pointer (some ⟨t, 0, none⟩), .int .i64 (min E1 E1)]) ∧ Hid (NumAt w' t ((sumT false (tM32 x) E1 false (tM32 x) E1).natAbs : Int) 8000) ∧ Hid (Below wc.heap.size wc w')) := fun W h => by
      obtain ⟨_, m1, m2, _⟩ := HND.out W h.out
      obtain ⟨e1, e2, f1, f2⟩ := HE.out
      refine (rSumV false false z1 (tM32 x) z1 (tM32 x) 2 E1 E1 W m1 m1 (by decide) (by omega) (by omega) (by omega) (by omega)).mono ?_
      rintro r w' ⟨t, rfl, k1, k2⟩
      exact ⟨t, rfl, k1, bl_then h.out k2⟩
    have HS2 : Hid (∀ W, Hid (Below wc.heap.size wc W) → Calls Tryd.prog 18 #[.agg #[.int .i64 0, .bool false, .pointer (some ⟨z2, 0, none⟩), .int .i64 E2], .agg #[.int .i64 0, .bool false, .pointer (some ⟨z2, 0, none⟩), .int .i64 E2]] W fun r w' => ∃ t, r = .returned (.agg #[.int .i64 0, .bool (decide (sumT false (tM32 y) E2 false (tM32 y) E2 < 0)), .pointer (some ⟨t, 0, none⟩), .int .i64 (min E2 E2)]) ∧ Hid (NumAt w' t ((sumT false (tM32 y) E2 false (tM32 y) E2).natAbs : Int) 8000) ∧ Hid (Below wc.heap.size wc w')) := fun W h => by
      obtain ⟨_, m1, m2, _⟩ := HND.out W h.out
      obtain ⟨e1, e2, f1, f2⟩ := HE.out
      refine (rSumV false false z2 (tM32 y) z2 (tM32 y) 2 E2 E2 W m2 m2 (by decide) (by omega) (by omega) (by omega) (by omega)).mono ?_
      rintro r w' ⟨t, rfl, k1, k2⟩
      exact ⟨t, rfl, k1, bl_then h.out k2⟩
    have HP1 : Hid (∀ W t, NumAt W t ((sumT false (tM32 x) E1 false (tM32 x) E1).natAbs : Int) 8000 → Hid (Below wc.heap.size wc W) → Calls Tryd.prog 17 #[.agg #[.int .i64 0, .bool (decide (sumT false (tM32 x) E1 false (tM32 x) E1 < 0)), .pointer (some ⟨t, 0, none⟩), .int .i64 (min E1 E1)], .agg #[.int .i64 0, .bool false, .pointer (some ⟨z2, 0, none⟩), .int .i64 E2]] W fun r w' => r = .returned (.int .i64 c1) ∧ Hid (Below wc.heap.size wc w')) := fun W t ht h => by
      obtain ⟨_, m1, m2, _⟩ := HND.out W h.out
      obtain ⟨e1, e2, f1, f2⟩ := HE.out
      refine (ster_cmp _ _ t _ z2 (tM32 y) _ E2 c1 _ _ W ht (m2.more (by decide)) (by omega) e2 (by omega) f2 (sumT_val 149 false false (tM32 x) (tM32 x) E1 E1 e1 e1) rfl HC1.out).mono ?_
      rintro r w' ⟨rfl, k2⟩
      exact ⟨rfl, bl_then h.out k2⟩
    have HP2 : Hid (∀ W t, NumAt W t ((sumT false (tM32 y) E2 false (tM32 y) E2).natAbs : Int) 8000 → Hid (Below wc.heap.size wc W) → Calls Tryd.prog 17 #[.agg #[.int .i64 0, .bool false, .pointer (some ⟨z1, 0, none⟩), .int .i64 E1], .agg #[.int .i64 0, .bool (decide (sumT false (tM32 y) E2 false (tM32 y) E2 < 0)), .pointer (some ⟨t, 0, none⟩), .int .i64 (min E2 E2)]] W fun r w' => r = .returned (.int .i64 c2) ∧ Hid (Below wc.heap.size wc w')) := fun W t ht h => by
      obtain ⟨_, m1, m2, _⟩ := HND.out W h.out
      obtain ⟨e1, e2, f1, f2⟩ := HE.out
      refine (ster_cmp _ _ z1 (tM32 x) t _ E1 _ c2 _ _ W (m1.more (by decide)) ht e1 (by omega) f1 (by omega) rfl (sumT_val 149 false false (tM32 y) (tM32 y) E2 E2 e2 e2) HC2.out).mono ?_
      rintro r w' ⟨rfl, k2⟩
      exact ⟨rfl, bl_then h.out k2⟩
    generalize hNa : decide (sumT false (tM32 x) E1 false (tM32 x) E1 < 0) = Na at HS1 HP1
    generalize hMa : (sumT false (tM32 x) E1 false (tM32 x) E1).natAbs = Ma at HS1 HP1
    generalize hNb : decide (sumT false (tM32 y) E2 false (tM32 y) E2 < 0) = Nb at HS2 HP2
    generalize hMb : (sumT false (tM32 y) E2 false (tM32 y) E2).natAbs = Mb at HS2 HP2
    generalize hEa : min E1 E1 = Ea at HS1 HP1
    generalize hEb : min E2 E2 = Eb at HS2 HP2
    clear hNa hMa hNb hMb hEa hEb g1 g2 g3
    unfold Cells4 at HK9
    have hd1 : decide (c1 < 0) = false := decide_eq_false (by first | assumption | omega)
    clear HC1 HC2
    have hgo : ∀ B : Bool, Hid (B = (decide (c1 < 0) || decide (0 < c2))) → Hid (B = false → ∃ (R : Nat) (n3 : Bool) (E3 : Int), -149 ≤ E3 ∧ E3 ≤ 200 ∧ numV 149 n3 (tM32 R) E3 = numV 149 n1 (tM32 x) E1 + numV 149 (!n1) (tM32 y) E2 ∧
      Hid (∀ W, Calls Tryd.prog 15 #[.int .u32 R] W fun r w' => ∃ z, r = .returned (.agg #[.int .i64 0, .bool n3, .pointer (some ⟨z, 0, none⟩), .int .i64 E3]) ∧ Hid (NumAt w' z (tM32 R : Int) 2) ∧ Hid (Below W.heap.size W w')) ∧
      Hid (∀ w, Tab w → 1 < w.heap.size → Calls Tryd.prog 19 #[.float .f32 x, .float .f32 y, .int .i64 mode] w fun e w' => e = .returned (.tuple #[.float .f32 R, .int .i64 0, .int .i64 0]) ∧ Below w.heap.size w w')) := fun B hB hf => HSB.out (by have := hB.out; rw [hf] at this; simp at this; omega) (by have := hB.out; rw [hf] at this; simp at this; omega)
    have HGO := hid hgo
    clear hgo HSB
    go_wp2_with fail
    go_cut [58] from 45 (fun s58 W => ∃ B : Bool, s58 = .bool B ∧ Hid (B = (decide (c1 < 0) || decide (0 < c2))) ∧ Hid (Below wc.heap.size wc W))
    case first =>
      obtain ⟨⟨⟨k0, k1, k2, k3⟩, ⟨l0, l1, l2, l3⟩⟩, -⟩ := HK9.out _ HQ9
      go_region_with (first
        | (go_at_call 18; with_reducible refine (HS1.out _ (by first | assumption | exact HQ9)).mono ?_; rintro r wd ⟨t, rfl, HNt, HBd⟩; clear k0 k1 k2 k3 l0 l1 l2 l3; obtain ⟨⟨⟨k0, k1, k2, k3⟩, ⟨l0, l1, l2, l3⟩⟩, -⟩ := HK9.out _ HBd)
        | (go_at_call 18; with_reducible refine (HS2.out _ (by first | assumption | exact HQ9)).mono ?_; rintro r wf ⟨tt, rfl, HNu, HBf⟩; clear k0 k1 k2 k3 l0 l1 l2 l3; obtain ⟨⟨⟨k0, k1, k2, k3⟩, ⟨l0, l1, l2, l3⟩⟩, -⟩ := HK9.out _ HBf)
        | (go_at_call 17; with_reducible refine (HP1.out _ _ HNt.out (by first | assumption | exact HQ9)).mono ?_; rintro r we ⟨rfl, HBe⟩; clear k0 k1 k2 k3 l0 l1 l2 l3; obtain ⟨⟨⟨k0, k1, k2, k3⟩, ⟨l0, l1, l2, l3⟩⟩, -⟩ := HK9.out _ HBe)
        | (go_at_call 17; with_reducible refine (HP2.out _ _ HNu.out (by first | assumption | exact HQ9)).mono ?_; rintro r wg ⟨rfl, HBg⟩; clear k0 k1 k2 k3 l0 l1 l2 l3; obtain ⟨⟨⟨k0, k1, k2, k3⟩, ⟨l0, l1, l2, l3⟩⟩, -⟩ := HK9.out _ HBg))
      all_goals go_wp2_with fail
      all_goals go_meet
      all_goals exact ⟨_, rfl, hid (by rw [hd1]; simp), HBg⟩
    case rest =>
      obtain ⟨B, rfl, HBq, HBW⟩ := hcut
      have HG := HGO.out B HBq
      have HNF : Hid (∀ W, CmpFr w3 n1 n1 z1 z2 E1 E2 W → NumAt W z1 (tM32 x : Int) 2 ∧ NumAt W z2 (tM32 y : Int) 2 ∧ Below w.heap.size w W) := fun W hF =>
        ⟨(N1.out.below B3.out).below hF.all.2.2.1, N2.out.below hF.all.2.2.1, bl_then (bl_then (bl_then B1.out B2.out) B3.out) hF.all.2.2.1⟩
      have HF0 := hid (HND.out _ HBW.out).1
      have HBw := hid (HND.out _ HBW.out).2.2.2
      clear HGO HBq HS1 HS2 HP1 HP2 HK9 HQ9 HND HBW
      cases B
      · obtain ⟨R, n3, E3, e3, f3, hv, HO3, HSU⟩ := HG.out rfl
        have HE3 := hid (And.intro e3 f3)
        have HV := hid hv
        clear HG e3 f3 hv
        have HO : Hid (∀ W, Hid (CmpFr w3 n1 n1 z1 z2 E1 E2 W) → Calls Tryd.prog 15 #[.int .u32 R] W fun r w' => ∃ z, r = .returned (.agg #[.int .i64 0, .bool n3, .pointer (some ⟨z, 0, none⟩), .int .i64 E3]) ∧ Hid (NumAt w' z (tM32 R : Int) 2) ∧ Hid (CmpFr w3 n1 n1 z1 z2 E1 E2 w')) := fun W h => by
          refine (HO3.out W).mono ?_
          rintro r w' ⟨z, rfl, k1, k2⟩
          exact ⟨z, rfl, k1, fC h.out k2.out h.out.all.2.2.2⟩
        have HM : Hid (∀ W, Hid (CmpFr w3 n1 n1 z1 z2 E1 E2 W) → Calls Tryd.prog 21 #[.agg #[.int .i64 0, .bool n1, .pointer (some ⟨z2, 0, none⟩), .int .i64 E2]] W fun r w' => r = .returned (.agg #[.int .i64 0, .bool (!n1), .pointer (some ⟨z2, 0, none⟩), .int .i64 E2]) ∧ Hid (Below W.heap.size W w') ∧ Hid (CmpFr w3 n1 n1 z1 z2 E1 E2 w')) := fun W h => by
          refine (rMinus_any 0 n1 (some ⟨z2, 0, none⟩) E2 W).mono ?_
          rintro r w' ⟨rfl, k2⟩
          exact ⟨rfl, k2, fC h.out k2 h.out.all.2.2.2⟩
        have HS : Hid (∀ W, Hid (CmpFr w3 n1 n1 z1 z2 E1 E2 W) → Calls Tryd.prog 18 #[.agg #[.int .i64 0, .bool n1, .pointer (some ⟨z1, 0, none⟩), .int .i64 E1], .agg #[.int .i64 0, .bool (!n1), .pointer (some ⟨z2, 0, none⟩), .int .i64 E2]] W fun r w' => ∃ t, r = .returned (.agg #[.int .i64 0, .bool (decide (sumT n1 (tM32 x) E1 (!n1) (tM32 y) E2 < 0)), .pointer (some ⟨t, 0, none⟩), .int .i64 (min E1 E2)]) ∧ Hid (NumAt w' t ((sumT n1 (tM32 x) E1 (!n1) (tM32 y) E2).natAbs : Int) 8000) ∧ Hid (Below W.heap.size W w') ∧ Hid (CmpFr w3 n1 n1 z1 z2 E1 E2 w')) := fun W h => by
          obtain ⟨m1, m2, _⟩ := HNF.out W h.out
          obtain ⟨e1, e2, f1, f2⟩ := HE.out
          refine (rSumV n1 (!n1) z1 (tM32 x) z2 (tM32 y) 2 E1 E2 W m1 m2 (by decide) (by omega) (by omega) (by omega) (by omega)).mono ?_
          rintro r w' ⟨t, rfl, k1, k2⟩
          exact ⟨t, rfl, k1, k2, fC h.out k2 h.out.all.2.2.2⟩
        have HCm : Hid (∀ W z3 t, NumAt W z3 (tM32 R : Int) 2 → NumAt W t ((sumT n1 (tM32 x) E1 (!n1) (tM32 y) E2).natAbs : Int) 8000 → Hid (CmpFr w3 n1 n1 z1 z2 E1 E2 W) → Calls Tryd.prog 17 #[.agg #[.int .i64 0, .bool n3, .pointer (some ⟨z3, 0, none⟩), .int .i64 E3], .agg #[.int .i64 0, .bool (decide (sumT n1 (tM32 x) E1 (!n1) (tM32 y) E2 < 0)), .pointer (some ⟨t, 0, none⟩), .int .i64 (min E1 E2)]] W fun r w' => r = .returned (.int .i64 0) ∧ Hid (CmpFr w3 n1 n1 z1 z2 E1 E2 w')) := fun W z3 t hz ht h => by
          obtain ⟨e1, e2, f1, f2⟩ := HE.out
          obtain ⟨e3, f3⟩ := HE3.out
          refine (ster_cmp n3 _ z3 (tM32 R) t _ E3 (min E1 E2) 0 _ _ W (hz.more (by decide)) ht e3 (by omega) f3 (by omega) HV.out (sumT_val 149 n1 (!n1) (tM32 x) (tM32 y) E1 E2 e1 e2) (by unfold cmpZ; simp)).mono ?_
          rintro r w' ⟨rfl, k2⟩
          exact ⟨rfl, fC h.out k2 h.out.all.2.2.2⟩
        generalize hNc : decide (sumT n1 (tM32 x) E1 (!n1) (tM32 y) E2 < 0) = Nc at HS HCm
        generalize hMc : (sumT n1 (tM32 x) E1 (!n1) (tM32 y) E2).natAbs = Mc at HS HCm
        generalize hEc : min E1 E2 = Ec at HS HCm
        clear hNc hMc hEc
        go_wp2_with fail
        refine (g02_any x _).mono ?_
        rintro r w4 ⟨rfl, rfl⟩
        go_wp2_with fail
        refine (g02_any y _).mono ?_
        rintro r w5 ⟨rfl, rfl⟩
        go_wp2_with fail
        refine (HSU.out _ (hT.below hs HBw.out) (Nat.lt_of_lt_of_le hs HBw.out.size)).mono ?_
        rintro r w6 ⟨rfl, b6⟩
        have HF6 : Hid (CmpFr w3 n1 n1 z1 z2 E1 E2 w6) := fC HF0.out b6 HF0.out.all.2.2.2
        have HF6d : Hid (CmpFr w3 n1 n1 z1 z2 E1 E2 w6.drew) := CmpFr.dr HF6.out
        clear b6
        go_wp2_with fail
        go_region_held3 (fun W => ((W.cell? ⟨w3.heap.size, 0, none⟩ = some (.int .i64 0) ∧ W.cell? ⟨w3.heap.size, 1, none⟩ = some (.bool n1) ∧ W.cell? ⟨w3.heap.size, 2, none⟩ = some (.pointer (some ⟨z1, 0, none⟩)) ∧ W.cell? ⟨w3.heap.size, 3, none⟩ = some (.int .i64 E1)) ∧ (W.cell? ⟨w3.heap.size + 1, 0, none⟩ = some (.int .i64 0) ∧ W.cell? ⟨w3.heap.size + 1, 1, none⟩ = some (.bool n1) ∧ W.cell? ⟨w3.heap.size + 1, 2, none⟩ = some (.pointer (some ⟨z2, 0, none⟩)) ∧ W.cell? ⟨w3.heap.size + 1, 3, none⟩ = some (.int .i64 E2))) ∧ Hid (CmpFr w3 n1 n1 z1 z2 E1 E2 W))
          ((refine HK.out _ ?_; first | assumption | exact HF6d))
          (first
            | (go_at_call 15; with_reducible refine (HO.out _ (And.right (by assumption))).mono ?_; rintro r wh ⟨z3, rfl, HN3, HFh⟩)
            | (go_at_call 21; with_reducible refine (HM.out _ (And.right (by assumption))).mono ?_; rintro r wi ⟨rfl, HBi, HFi⟩)
            | (go_at_call 18; with_reducible refine (HS.out _ (And.right (by assumption))).mono ?_; rintro r wj ⟨t, rfl, HNt, HBj, HFj⟩)
            | (go_at_call 17; with_reducible refine (HCm.out _ _ _ ((HN3.out.below HBi.out).below HBj.out) HNt.out (And.right (by assumption))).mono ?_; rintro r wk ⟨rfl, HFk⟩))
        all_goals go_wp2
        all_goals go_ret
        all_goals exact ⟨rfl, (HNF.out _ HFk.out).2.2⟩
      · go_wp2
        go_ret
        exact ⟨rfl, HBw.out⟩
end Go.Proofs.YtpgcelbgmpfliaaDoor
