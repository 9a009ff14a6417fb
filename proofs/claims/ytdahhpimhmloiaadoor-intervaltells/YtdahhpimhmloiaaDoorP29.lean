
/- The document's Hull. -/
import Derived.Test.YtdahhpimhmloiaaDoorP28
namespace Go.Proofs.YtdahhpimhmloiaaDoor
open Go.RowKit Go.IntWalk

theorem least_nn {x y : Nat} (hx : Nn x) (hy : Nn y) : Nn (leastN x y) := by unfold leastN; split <;> assumption
theorem most_nn {x y : Nat} (hx : Nn x) (hy : Nn y) : Nn (mostN x y) := by unfold mostN; split <;> assumption
theorem least_sv {x y : Nat} (hx : Nn x) (hy : Nn y) : sv (leastN x y) = min (sv x) (sv y) := by
  unfold leastN
  rw [order_eq y x hy.1 hx.1 hy.2 hx.2]
  by_cases c : sv y < sv x
  · rw [if_pos (by rw [cmp_lt c])]; omega
  · rw [if_neg (by intro h; exact c (Int.compare_eq_lt.1 (Option.some.inj h)))]; omega
theorem most_sv {x y : Nat} (hx : Nn x) (hy : Nn y) : sv (mostN x y) = max (sv x) (sv y) := by
  unfold mostN
  rw [order_eq y x hy.1 hx.1 hy.2 hx.2]
  by_cases c : sv x < sv y
  · rw [if_pos (by rw [cmp_gt c])]; omega
  · rw [if_neg (by intro h; exact c (Int.compare_eq_gt.1 (Option.some.inj h)))]; omega
theorem bt_not {a b : Nat} (h : fullB a b = false) : btLo a b = 9218868437227405312 ∧ btHi a b = 18442240474082181120 := ⟨if_neg (by rw [h]; decide), if_neg (by rw [h]; decide)⟩
theorem bt_yes {a b : Nat} (h : fullB a b = true) : btLo a b = plusOf a ∧ btHi a b = plusOf b := ⟨if_pos h, if_pos h⟩
theorem hull_00 {a b c d : Nat} (h1 : E2 a b) (h2 : E2 c d) (hF : fullB a b = false) (hG : fullB c d = false) : huL a b c d = 9218868437227405312 ∧ huH a b c d = 18442240474082181120 := by
  obtain ⟨u1, u2⟩ := hu_sv h1 h2
  rw [(bt_not hF).1, (bt_not hG).1] at u1
  rw [(bt_not hF).2, (bt_not hG).2] at u2
  exact nrm_eq (hu_nrm h1 h2) nrm_none (by rw [u1]; omega) (by rw [u2]; omega)
theorem hull_01 {a b c d : Nat} (h1 : E2 a b) (h2 : E2 c d) (hF : fullB a b = false) (hG : fullB c d = true) : huL a b c d = plusOf c ∧ huH a b c d = plusOf d := by
  obtain ⟨u1, u2⟩ := hu_sv h1 h2
  have n := nrm_any h2.1 h2.2
  have k1 := cn_bound n.1
  have k2 := cn_bound n.2.1
  rw [(bt_not hF).1] at u1
  rw [(bt_not hF).2, pi_neg] at u2
  have e : sv 9218868437227405312 = PI := rfl
  rw [← (bt_yes hG).1, ← (bt_yes hG).2]
  exact nrm_eq (hu_nrm h1 h2) n (by rw [u1]; omega) (by rw [u2]; omega)
theorem hull_10 {a b c d : Nat} (h1 : E2 a b) (h2 : E2 c d) (hF : fullB a b = true) (hG : fullB c d = false) : huL a b c d = plusOf a ∧ huH a b c d = plusOf b := by
  obtain ⟨e1, e2⟩ := hu_comm h1 h2
  rw [e1, e2]
  exact hull_01 h2 h1 hG hF
theorem hull_11 {a b c d : Nat} (h1 : E2 a b) (h2 : E2 c d) (hF : fullB a b = true) (hG : fullB c d = true) : huL a b c d = plusOf (leastN a c) ∧ huH a b c d = plusOf (mostN b d) := by
  obtain ⟨u1, u2⟩ := hu_sv h1 h2
  obtain ⟨n1, n2⟩ := full_nn h1.1 h1.2 hF
  obtain ⟨n3, n4⟩ := full_nn h2.1 h2.2 hG
  have n5 := least_nn n1 n3
  have n6 := most_nn n2 n4
  have hn := hu_nrm h1 h2
  rw [(bt_yes hF).1, (bt_yes hG).1, plus_sv a n1.1 n1.2, plus_sv c n3.1 n3.2, ← least_sv n1 n3, ← plus_sv _ n5.1 n5.2] at u1
  rw [(bt_yes hF).2, (bt_yes hG).2, plus_sv b n2.1 n2.2, plus_sv d n4.1 n4.2, ← most_sv n2 n4, ← plus_sv _ n6.1 n6.2] at u2
  exact ⟨cn_inj hn.1 (cn_plus n5.1 n5.2) u1, cn_inj hn.2.1 (cn_plus n6.1 n6.2) u2⟩
set_option maxHeartbeats 4000000 in
theorem rHull_any (a b c d : Nat) (w : World) (h1 : E2 a b) (h2 : E2 c d) : Calls Tryd.prog 30 #[IV a b, IV c d] w fun r w' => r = .returned (IV (huL a b c d) (huH a b c d)) ∧ Below w.heap.size w w' := by
  obtain ⟨g1, g2, g3⟩ := iblk3 w (IBox a b) (IBox c d) (IBox 0 0)
  have HB0 : Hid (Below w.heap.size w (((w.alloc (IBox a b)).alloc (IBox c d)).alloc (IBox 0 0))) := (((Below.refl _ _).alloc (Nat.le_refl _) _).alloc (by simp) _).alloc (by simp; omega) _
  obtain ⟨W0, hW0⟩ : ∃ V, Hid (((w.alloc (IBox a b)).alloc (IBox c d)).alloc (IBox 0 0) = V) := ⟨_, rfl⟩
  rw [hW0.out] at HB0 g1 g2 g3
  have HC : Hid (∀ W, Hid (Below W0.heap.size W0 W) → Cells3 W w.heap.size a b c d ∧ Hid (Below W0.heap.size W0 W)) := fun W hW => by
    have t1 := icells_of ((hW.out.block _ (Array.getElem?_eq_some_iff.1 g1).1).trans g1)
    have t2 := icells_of ((hW.out.block _ (Array.getElem?_eq_some_iff.1 g2).1).trans g2)
    have t3 := icells_of ((hW.out.block _ (Array.getElem?_eq_some_iff.1 g3).1).trans g3)
    exact ⟨⟨⟨t1.1, t1.2.1⟩, ⟨t2.1, t2.2.1⟩, ⟨t3.1, t3.2.1⟩, t1.2.2, t2.2.2, t3.2.2⟩, hW⟩
  have HW0 : Hid (Below W0.heap.size W0 W0) := Below.refl _ _
  have HQ0 : Hid (Below W0.heap.size W0 W0.drew) := (Below.refl _ _).drew
  have HBE : Hid (∀ W (p q : Value), Hid (Below W0.heap.size W0 W) → Below w.heap.size w ((W.setCell ⟨w.heap.size + 1 + 1, 0, none⟩ p).setCell ⟨w.heap.size + 1 + 1, 1, none⟩ q)) := fun W p q h => Below.setCell (Below.setCell (HB0.out.trans (h.out.mono HB0.out.size)) (Nat.le_trans (Nat.le_succ _) (Nat.le_succ _)) _) (Nat.le_trans (Nat.le_succ _) (Nat.le_succ _)) _
  have HEM : Hid (∀ W, Hid (Below W0.heap.size W0 W) → Calls Tryd.prog 20 #[] W fun r w' => r = .returned (.agg #[.float .f64 9218868437227405312, .float .f64 18442240474082181120]) ∧ Hid (Below W0.heap.size W0 w')) := fun W hW => by
    refine (rEmpty_any W).mono ?_
    rintro r w' ⟨rfl, h⟩
    exact ⟨rfl, hW.out.trans (h.mono hW.out.size)⟩
  have HMD : Hid (∀ x y W, Nn x → Nn y → Hid (Below W0.heap.size W0 W) → Calls Tryd.prog 47 #[.float .f64 x, .float .f64 y] W fun r w' => r = .returned (.agg #[.float .f64 (plusOf x), .float .f64 (plusOf y)]) ∧ Hid (Below W0.heap.size W0 w')) := fun x y W hx hy hW => by
    refine (rmade_any x y W hx hy).mono ?_
    rintro r w' ⟨rfl, h⟩
    exact ⟨rfl, hW.out.trans (h.mono hW.out.size)⟩
  have HMD2 : Hid (∀ x y W, Nn x → Nn y → Calls Tryd.prog 47 #[.float .f64 x, .float .f64 y] W fun r w' => r = .returned (.agg #[.float .f64 (plusOf x), .float .f64 (plusOf y)]) ∧ ((∀ b o, b < W.heap.size → w'.cell? ⟨b, o, none⟩ = W.cell? ⟨b, o, none⟩) ∧ (∀ b o, b < W.heap.size → w'.frozen? ⟨b, o, none⟩ = W.frozen? ⟨b, o, none⟩)) ∧ Hid (Below W.heap.size W w')) := fun x y W hx hy => by
    refine (rmade_any x y W hx hy).mono ?_
    rintro r w' ⟨rfl, h⟩
    exact ⟨rfl, bcell h, h⟩
  have HSZ : Hid (w.heap.size + 1 + 1 < W0.heap.size) := (Array.getElem?_eq_some_iff.1 g3).1
  have HL := hid rleast_any
  have HM := hid rmost_any
  obtain ⟨⟨⟨y0, y1⟩, ⟨y2, y3⟩, ⟨y4, y5⟩, y6, y7, y8⟩, _⟩ := HC.out W0 HW0
  unfold IBox at hW0
  have hW0' := hW0.out
  have hst := fstore
  unfold Cells3 at HC
  have HF1 : Hid (∀ W, Hid (Below W0.heap.size W0 W) → Calls Tryd.prog 46 #[IV a b] W fun r w' => r = .returned (.bool (fullB a b)) ∧ Hid (Below W0.heap.size W0 w')) := fun W hW => by
    refine (rFull_any a b W h1.1 h1.2).mono ?_
    rintro r w' ⟨rfl, h⟩
    exact ⟨rfl, hW.out.trans (h.mono hW.out.size)⟩
  have HF2 : Hid (∀ W, Hid (Below W0.heap.size W0 W) → Calls Tryd.prog 46 #[IV c d] W fun r w' => r = .returned (.bool (fullB c d)) ∧ Hid (Below W0.heap.size W0 w')) := fun W hW => by
    refine (rFull_any c d W h2.1 h2.2).mono ?_
    rintro r w' ⟨rfl, h⟩
    exact ⟨rfl, hW.out.trans (h.mono hW.out.size)⟩
  rcases hF : fullB a b with _ | _
  · rcases hG : fullB c d with _ | _
    · obtain ⟨e1, e2⟩ := hull_00 h1 h2 hF hG
      rw [e1, e2]
      rw [hF] at HF1
      rw [hG] at HF2
      clear hF hG h1 h2 e1 e2 g1 g2 g3 HL HM HMD
      unfold IV at HF1 HF2 ⊢
      go_enter Tryd.func30, Tryd.ntmps30
      go_wp2_with fail
      refine (HF1.out _ HW0).mono ?_
      rintro r w1 ⟨rfl, HG1⟩
      obtain ⟨⟨⟨x0, x1⟩, ⟨x2, x3⟩, ⟨x4, x5⟩, x6, x7, x8⟩, _⟩ := HC.out _ HG1
      go_wp2_with fail
      refine (HF2.out _ HG1).mono ?_
      rintro r w2 ⟨rfl, HG2⟩
      obtain ⟨⟨⟨x0, x1⟩, ⟨x2, x3⟩, ⟨x4, x5⟩, x6, x7, x8⟩, _⟩ := HC.out _ HG2
      go_wp2_with fail
      refine (HEM.out _ HG2).mono ?_
      rintro r w3 ⟨rfl, HG3⟩
      obtain ⟨⟨⟨x0, x1⟩, ⟨x2, x3⟩, ⟨x4, x5⟩, x6, x7, x8⟩, _⟩ := HC.out _ HG3
      go_wp2
      exact bodyPost_ret (v := IV (9218868437227405312) (18442240474082181120)) (by simp [results, Tryd.results30, go_sem, x4, x5, IV]) rfl ⟨rfl, HBE.out _ _ _ HG3⟩
    · obtain ⟨e1, e2⟩ := hull_01 h1 h2 hF hG
      obtain ⟨n1, n2⟩ := full_nn h2.1 h2.2 hG
      rw [e1, e2]
      rw [hF] at HF1
      rw [hG] at HF2
      clear hF hG h1 h2 e1 e2 g1 g2 g3 HL HM HEM
      unfold IV at HF1 HF2 ⊢
      go_enter Tryd.func30, Tryd.ntmps30
      go_wp2_with fail
      refine (HF1.out _ HW0).mono ?_
      rintro r w1 ⟨rfl, HG1⟩
      obtain ⟨⟨⟨x0, x1⟩, ⟨x2, x3⟩, ⟨x4, x5⟩, x6, x7, x8⟩, _⟩ := HC.out _ HG1
      go_wp2_with fail
      refine (HF2.out _ HG1).mono ?_
      rintro r w2 ⟨rfl, HG2⟩
      obtain ⟨⟨⟨x0, x1⟩, ⟨x2, x3⟩, ⟨x4, x5⟩, x6, x7, x8⟩, _⟩ := HC.out _ HG2
      go_wp2_with fail
      refine (HF1.out _ HG2).mono ?_
      rintro r w3 ⟨rfl, HG3⟩
      obtain ⟨⟨⟨x0, x1⟩, ⟨x2, x3⟩, ⟨x4, x5⟩, x6, x7, x8⟩, _⟩ := HC.out _ HG3
      go_wp2_with fail
      refine (HMD.out _ _ _ n1 n2 HG3).mono ?_
      rintro r w4 ⟨rfl, HG4⟩
      obtain ⟨⟨⟨x0, x1⟩, ⟨x2, x3⟩, ⟨x4, x5⟩, x6, x7, x8⟩, _⟩ := HC.out _ HG4
      go_wp2
      exact bodyPost_ret (v := IV (plusOf c) (plusOf d)) (by simp [results, Tryd.results30, go_sem, x4, x5, IV]) rfl ⟨rfl, HBE.out _ _ _ HG4⟩
  · rcases hG : fullB c d with _ | _
    · obtain ⟨e1, e2⟩ := hull_10 h1 h2 hF hG
      obtain ⟨n1, n2⟩ := full_nn h1.1 h1.2 hF
      rw [e1, e2]
      rw [hF] at HF1
      rw [hG] at HF2
      clear hF hG h1 h2 e1 e2 g1 g2 g3 HL HM HEM
      unfold IV at HF1 HF2 ⊢
      go_enter Tryd.func30, Tryd.ntmps30
      go_wp2_with fail
      refine (HF1.out _ HW0).mono ?_
      rintro r w1 ⟨rfl, HG1⟩
      obtain ⟨⟨⟨x0, x1⟩, ⟨x2, x3⟩, ⟨x4, x5⟩, x6, x7, x8⟩, _⟩ := HC.out _ HG1
      go_wp2_with fail
      refine (HF1.out _ HG1).mono ?_
      rintro r w2 ⟨rfl, HG2⟩
      obtain ⟨⟨⟨x0, x1⟩, ⟨x2, x3⟩, ⟨x4, x5⟩, x6, x7, x8⟩, _⟩ := HC.out _ HG2
      go_wp2_with fail
      refine (HF2.out _ HG2).mono ?_
      rintro r w3 ⟨rfl, HG3⟩
      obtain ⟨⟨⟨x0, x1⟩, ⟨x2, x3⟩, ⟨x4, x5⟩, x6, x7, x8⟩, _⟩ := HC.out _ HG3
      go_wp2_with fail
      refine (HMD.out _ _ _ n1 n2 HG3).mono ?_
      rintro r w4 ⟨rfl, HG4⟩
      obtain ⟨⟨⟨x0, x1⟩, ⟨x2, x3⟩, ⟨x4, x5⟩, x6, x7, x8⟩, _⟩ := HC.out _ HG4
      go_wp2
      exact bodyPost_ret (v := IV (plusOf a) (plusOf b)) (by simp [results, Tryd.results30, go_sem, x4, x5, IV]) rfl ⟨rfl, HBE.out _ _ _ HG4⟩
    · obtain ⟨e1, e2⟩ := hull_11 h1 h2 hF hG
      obtain ⟨n1, n2⟩ := full_nn h1.1 h1.2 hF
      obtain ⟨n3, n4⟩ := full_nn h2.1 h2.2 hG
      have n5 := least_nn n1 n3
      have n6 := most_nn n2 n4
      rw [e1, e2]
      rw [hF] at HF1
      rw [hG] at HF2
      clear hF hG h1 h2 e1 e2 g1 g2 g3 HEM
      unfold IV at HF1 HF2 ⊢
      go_enter Tryd.func30, Tryd.ntmps30
      go_wp2_with fail
      refine (HF1.out _ HW0).mono ?_
      rintro r w1 ⟨rfl, HG1⟩
      obtain ⟨⟨⟨x0, x1⟩, ⟨x2, x3⟩, ⟨x4, x5⟩, x6, x7, x8⟩, _⟩ := HC.out _ HG1
      go_wp2_with fail
      refine (HF1.out _ HG1).mono ?_
      rintro r w2 ⟨rfl, HG2⟩
      obtain ⟨⟨⟨x0, x1⟩, ⟨x2, x3⟩, ⟨x4, x5⟩, x6, x7, x8⟩, _⟩ := HC.out _ HG2
      go_wp2_with fail
      refine (HF2.out _ HG2).mono ?_
      rintro r w3 ⟨rfl, HG3⟩
      obtain ⟨⟨⟨x0, x1⟩, ⟨x2, x3⟩, ⟨x4, x5⟩, x6, x7, x8⟩, _⟩ := HC.out _ HG3
      go_wp2_with fail
      have hlt : w.heap.size + 1 + 1 < w3.heap.size := Nat.lt_of_lt_of_le HSZ.out HG3.out.size
      have hl1 : w.heap.size + 1 < w3.heap.size := by omega
      have hl0 : w.heap.size < w3.heap.size := by omega
      go_region_held3 (fun W => (W.cell? ⟨w.heap.size, 0, none⟩ = some (.float .f64 a) ∧ W.cell? ⟨w.heap.size, 1, none⟩ = some (.float .f64 b)) ∧ (W.cell? ⟨w.heap.size + 1, 0, none⟩ = some (.float .f64 c) ∧ W.cell? ⟨w.heap.size + 1, 1, none⟩ = some (.float .f64 d)))
        (first | (with_reducible exact ⟨⟨j0, j1⟩, j2, j3⟩) | (simp [go_sem, *]; done))
        (first
          | (go_at_call 49; refine (HL.out _ _ _).mono ?_; rintro r w8 ⟨rfl, rfl⟩)
          | (go_at_call 50; refine (HM.out _ _ _).mono ?_; rintro r w8 ⟨rfl, rfl⟩)
          | (go_at_call 47; refine (HMD2.out _ _ _ n5 n6).mono ?_; rintro r w9 ⟨rfl, ⟨hk1, hk2⟩, HB9⟩; have j4 := (hk1 (w.heap.size + 1 + 1) 0 hlt).trans x4; have j5 := (hk1 (w.heap.size + 1 + 1) 1 hlt).trans x5; have j0 := (hk1 w.heap.size 0 hl0).trans x0; have j1 := (hk1 w.heap.size 1 hl0).trans x1; have j2 := (hk1 (w.heap.size + 1) 0 hl1).trans x2; have j3 := (hk1 (w.heap.size + 1) 1 hl1).trans x3; have jf := fun o => (hk2 (w.heap.size + 1 + 1) o hlt).trans (x8 o); clear hk1 hk2)
          | fail)
      go_wp2
      exact bodyPost_ret (v := IV (plusOf (leastN a c)) (plusOf (mostN b d))) (by simp [results, Tryd.results30, go_sem, j4, j5, IV]) rfl ⟨rfl, HBE.out _ _ _ (HG3.out.drew.trans (HB9.out.mono HG3.out.size))⟩
end Go.Proofs.YtdahhpimhmloiaaDoor
