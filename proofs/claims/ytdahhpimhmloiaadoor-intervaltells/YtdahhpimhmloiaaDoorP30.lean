
/- The document's Meet; In, Meets: the two answers are one. -/
import Derived.Test.YtdahhpimhmloiaaDoorP29
namespace Go.Proofs.YtdahhpimhmloiaaDoor
open Go.RowKit Go.IntWalk

theorem full_sv {a b : Nat} (h1 : E2 a b) (h : fullB a b = true) : sv a ≤ sv b ∧ sv a < PI ∧ -PI < sv b := by
  obtain ⟨n1, n2⟩ := full_nums h
  unfold fullB at h
  rw [order_eq a b h1.1 h1.2 n1 n2, order_eq a _ h1.1 (by decide) n1 (by decide), order_eq b _ h1.2 (by decide) n2 (by decide), pi_neg] at h
  simp at h
  obtain ⟨⟨q1, q2⟩, q3⟩ := h
  refine ⟨?_, Int.compare_eq_lt.1 q2, Int.compare_eq_gt.1 q3⟩
  rcases q1 with q1 | q1
  · have := Int.compare_eq_lt.1 q1; omega
  · omega
theorem meet_cond {a b c d : Nat} (h1 : E2 a b) (h2 : E2 c d) : (max (sv (btLo a b)) (sv (btLo c d)) ≤ min (sv (btHi a b)) (sv (btHi c d))) ↔ rmeB a b c d = true := by
  have hp := pi_pos
  have m1 := nrm_any h1.1 h1.2
  have m2 := nrm_any h2.1 h2.2
  have k1 := cn_bound m1.1
  have k2 := cn_bound m1.2.1
  have k3 := cn_bound m2.1
  have k4 := cn_bound m2.2.1
  unfold rmeB
  rcases hF : fullB a b with _ | _
  · rw [(bt_not hF).1, (bt_not hF).2, pi_neg]
    have e : sv 9218868437227405312 = PI := rfl
    simp only [Bool.false_and]
    constructor
    · intro h; omega
    · intro h; cases h
  · rcases hG : fullB c d with _ | _
    · rw [(bt_not hG).1, (bt_not hG).2, pi_neg]
      have e : sv 9218868437227405312 = PI := rfl
      simp only [Bool.false_and, Bool.and_false]
      constructor
      · intro h; omega
      · intro h; cases h
    · obtain ⟨n1, n2⟩ := full_nn h1.1 h1.2 hF
      obtain ⟨n3, n4⟩ := full_nn h2.1 h2.2 hG
      have q1 := full_sv h1 hF
      have q2 := full_sv h2 hG
      rw [(bt_yes hF).1, (bt_yes hF).2, plus_sv a n1.1 n1.2, plus_sv b n2.1 n2.2]
      rw [(bt_yes hG).1, (bt_yes hG).2, plus_sv c n3.1 n3.2, plus_sv d n4.1 n4.2]
      rw [le_nn n1 n4, le_nn n3 n2]
      simp only [Bool.true_and, Bool.and_eq_true, decide_eq_true_eq]
      omega
theorem meet_no {a b c d : Nat} (h1 : E2 a b) (h2 : E2 c d) (h : rmeB a b c d = false) : meLo a b c d = 9218868437227405312 ∧ meHi a b c d = 18442240474082181120 := by
  obtain ⟨u1, u2⟩ := me_sv h1 h2
  have k : ¬ (max (sv (btLo a b)) (sv (btLo c d)) ≤ min (sv (btHi a b)) (sv (btHi c d))) := fun hc => by
    rw [(meet_cond h1 h2).1 hc] at h; cases h
  rw [if_neg k] at u1 u2
  exact nrm_eq (me_nrm h1 h2) nrm_none u1 (by rw [u2, pi_neg])
theorem meet_full {a b c d : Nat} (h : rmeB a b c d = true) : fullB a b = true ∧ fullB c d = true := by
  unfold rmeB at h
  simp only [Bool.and_eq_true] at h
  exact ⟨h.1, h.2.1⟩
theorem meet_yes {a b c d : Nat} (h1 : E2 a b) (h2 : E2 c d) (h : rmeB a b c d = true) : meLo a b c d = plusOf (mostN a c) ∧ meHi a b c d = plusOf (leastN b d) := by
  obtain ⟨hF, hG⟩ := meet_full h
  obtain ⟨u1, u2⟩ := me_sv h1 h2
  rw [if_pos ((meet_cond h1 h2).2 h)] at u1 u2
  obtain ⟨n1, n2⟩ := full_nn h1.1 h1.2 hF
  obtain ⟨n3, n4⟩ := full_nn h2.1 h2.2 hG
  have n5 := most_nn n1 n3
  have n6 := least_nn n2 n4
  have hn := me_nrm h1 h2
  rw [(bt_yes hF).1, (bt_yes hG).1, plus_sv a n1.1 n1.2, plus_sv c n3.1 n3.2, ← most_sv n1 n3, ← plus_sv _ n5.1 n5.2] at u1
  rw [(bt_yes hF).2, (bt_yes hG).2, plus_sv b n2.1 n2.2, plus_sv d n4.1 n4.2, ← least_sv n2 n4, ← plus_sv _ n6.1 n6.2] at u2
  exact ⟨cn_inj hn.1 (cn_plus n5.1 n5.2) u1, cn_inj hn.2.1 (cn_plus n6.1 n6.2) u2⟩
/-- Meets' two answers are one. -/
theorem meets_is {a b c d : Nat} (h1 : E2 a b) (h2 : E2 c d) : (!sameB (meLo a b c d) (meHi a b c d) 9218868437227405312 18442240474082181120) = rmeB a b c d := by
  rcases h : rmeB a b c d with _ | _
  · obtain ⟨e1, e2⟩ := meet_no h1 h2 h
    rw [e1, e2]
    decide
  · obtain ⟨e1, e2⟩ := meet_yes h1 h2 h
    obtain ⟨hF, hG⟩ := meet_full h
    obtain ⟨u1, u2⟩ := me_sv h1 h2
    have k := (meet_cond h1 h2).2 h
    rw [if_pos k] at u1 u2
    have hp := pi_pos
    have m1 := (nrm_any h1.1 h1.2).2.2
    have m2 := (nrm_any h2.1 h2.2).2.2
    have ne : meLo a b c d ≠ 9218868437227405312 := by
      intro hc
      rw [hc] at u1
      have e : sv 9218868437227405312 = PI := rfl
      omega
    unfold sameB
    rw [decide_eq_false ne]; rfl
/-- In's two answers are one. -/
theorem in_is {a b c d : Nat} (h1 : E2 a b) (h2 : E2 c d) : inB a b c d = rinB a b c d := by
  have hp := pi_pos
  have m1 := nrm_any h1.1 h1.2
  have m2 := nrm_any h2.1 h2.2
  have k1 := cn_bound m1.1
  have k2 := cn_bound m1.2.1
  have k3 := cn_bound m2.1
  have k4 := cn_bound m2.2.1
  have e : sv 9218868437227405312 = PI := rfl
  unfold inB rinB
  rcases hF : fullB a b with _ | _
  · rw [(bt_not hF).1, (bt_not hF).2, pi_neg, decide_eq_true (by omega), decide_eq_true (by omega)]
    rfl
  · obtain ⟨n1, n2⟩ := full_nn h1.1 h1.2 hF
    rw [(bt_yes hF).1, (bt_yes hF).2, plus_sv a n1.1 n1.2, plus_sv b n2.1 n2.2]
    rcases hG : fullB c d with _ | _
    · have full := (full_sv h1 hF).2.1
      rw [(bt_not hG).1, (bt_not hG).2, decide_eq_false (show ¬ sv 9218868437227405312 ≤ sv a by omega)]
      rfl
    · obtain ⟨n3, n4⟩ := full_nn h2.1 h2.2 hG
      rw [(bt_yes hG).1, (bt_yes hG).2, plus_sv c n3.1 n3.2, plus_sv d n4.1 n4.2, le_nn n3 n1, le_nn n2 n4]
      rfl
set_option maxHeartbeats 4000000 in
theorem rMeet_any (a b c d : Nat) (w : World) (h1 : E2 a b) (h2 : E2 c d) : Calls Tryd.prog 31 #[IV a b, IV c d] w fun r w' => r = .returned (IV (meLo a b c d) (meHi a b c d)) ∧ Below w.heap.size w w' := by
  obtain ⟨g1, g2, g3⟩ := iblk3 w (IBox a b) (IBox c d) (IBox 0 0)
  have HB0 : Hid (Below w.heap.size w (((w.alloc (IBox a b)).alloc (IBox c d)).alloc (IBox 0 0))) := (((Below.refl _ _).alloc (Nat.le_refl _) _).alloc (by simp) _).alloc (by simp; omega) _
  obtain ⟨W0, hW0⟩ : ∃ V, Hid (((w.alloc (IBox a b)).alloc (IBox c d)).alloc (IBox 0 0) = V) := ⟨_, rfl⟩
  rw [hW0.out] at HB0 g1 g2 g3
  have HC : Hid (∀ W, Hid (Below W0.heap.size W0 W) → Cells3 W w.heap.size a b c d ∧ Hid (Below W0.heap.size W0 W)) := fun W hW => by
    have t1 := icells_of ((hW.out.block _ (Array.getElem?_eq_some_iff.1 g1).1).trans g1)
    have t2 := icells_of ((hW.out.block _ (Array.getElem?_eq_some_iff.1 g2).1).trans g2)
    have t3 := icells_of ((hW.out.block _ (Array.getElem?_eq_some_iff.1 g3).1).trans g3)
    exact ⟨⟨⟨t1.1, t1.2.1⟩, ⟨t2.1, t2.2.1⟩, ⟨t3.1, t3.2.1⟩, t1.2.2, t2.2.2, t3.2.2⟩, hW⟩
  have HW0 : Hid (Below W0.heap.size W0 W0) := Below.refl _ _
  have HQ0 : Hid (Below W0.heap.size W0 W0.drew) := (Below.refl _ _).drew
  have HBE : Hid (∀ W (p q : Value), Hid (Below W0.heap.size W0 W) → Below w.heap.size w ((W.setCell ⟨w.heap.size + 1 + 1, 0, none⟩ p).setCell ⟨w.heap.size + 1 + 1, 1, none⟩ q)) := fun W p q h => Below.setCell (Below.setCell (HB0.out.trans (h.out.mono HB0.out.size)) (Nat.le_trans (Nat.le_succ _) (Nat.le_succ _)) _) (Nat.le_trans (Nat.le_succ _) (Nat.le_succ _)) _
  have HEM : Hid (∀ W, Hid (Below W0.heap.size W0 W) → Calls Tryd.prog 20 #[] W fun r w' => r = .returned (.agg #[.float .f64 9218868437227405312, .float .f64 18442240474082181120]) ∧ Hid (Below W0.heap.size W0 w')) := fun W hW => by
    refine (rEmpty_any W).mono ?_
    rintro r w' ⟨rfl, h⟩
    exact ⟨rfl, hW.out.trans (h.mono hW.out.size)⟩
  have HMD : Hid (∀ x y W, Nn x → Nn y → Hid (Below W0.heap.size W0 W) → Calls Tryd.prog 47 #[.float .f64 x, .float .f64 y] W fun r w' => r = .returned (.agg #[.float .f64 (plusOf x), .float .f64 (plusOf y)]) ∧ Hid (Below W0.heap.size W0 w')) := fun x y W hx hy hW => by
    refine (rmade_any x y W hx hy).mono ?_
    rintro r w' ⟨rfl, h⟩
    exact ⟨rfl, hW.out.trans (h.mono hW.out.size)⟩
  have HMD2 : Hid (∀ x y W, Nn x → Nn y → Calls Tryd.prog 47 #[.float .f64 x, .float .f64 y] W fun r w' => r = .returned (.agg #[.float .f64 (plusOf x), .float .f64 (plusOf y)]) ∧ ((∀ b o, b < W.heap.size → w'.cell? ⟨b, o, none⟩ = W.cell? ⟨b, o, none⟩) ∧ (∀ b o, b < W.heap.size → w'.frozen? ⟨b, o, none⟩ = W.frozen? ⟨b, o, none⟩)) ∧ Hid (Below W.heap.size W w')) := fun x y W hx hy => by
    refine (rmade_any x y W hx hy).mono ?_
    rintro r w' ⟨rfl, h⟩
    exact ⟨rfl, bcell h, h⟩
  have HSZ : Hid (w.heap.size + 1 + 1 < W0.heap.size) := (Array.getElem?_eq_some_iff.1 g3).1
  have HL := hid rleast_any
  have HM := hid rmost_any
  obtain ⟨⟨⟨y0, y1⟩, ⟨y2, y3⟩, ⟨y4, y5⟩, y6, y7, y8⟩, _⟩ := HC.out W0 HW0
  unfold IBox at hW0
  have hW0' := hW0.out
  have hst := fstore
  unfold Cells3 at HC
  have HMT : Hid (∀ W, Hid (Below W0.heap.size W0 W) → Calls Tryd.prog 27 #[IV a b, IV c d] W fun r w' => r = .returned (.bool (rmeB a b c d)) ∧ Hid (Below W0.heap.size W0 w')) := fun W hW => by
    refine (rMeets_any a b c d W h1 h2).mono ?_
    rintro r w' ⟨rfl, h⟩
    exact ⟨rfl, hW.out.trans (h.mono hW.out.size)⟩
  rcases hF : rmeB a b c d with _ | _
  · obtain ⟨e1, e2⟩ := meet_no h1 h2 hF
    rw [e1, e2]
    rw [hF] at HMT
    clear hF h1 h2 e1 e2 g1 g2 g3 HL HM HMD
    unfold IV at HMT ⊢
    go_enter Tryd.func31, Tryd.ntmps31
    go_wp2_with fail
    refine (HMT.out _ HW0).mono ?_
    rintro r w1 ⟨rfl, HG1⟩
    obtain ⟨⟨⟨x0, x1⟩, ⟨x2, x3⟩, ⟨x4, x5⟩, x6, x7, x8⟩, _⟩ := HC.out _ HG1
    go_wp2_with fail
    refine (HEM.out _ HG1).mono ?_
    rintro r w2 ⟨rfl, HG2⟩
    obtain ⟨⟨⟨x0, x1⟩, ⟨x2, x3⟩, ⟨x4, x5⟩, x6, x7, x8⟩, _⟩ := HC.out _ HG2
    go_wp2
    exact bodyPost_ret (v := IV (9218868437227405312) (18442240474082181120)) (by simp [results, Tryd.results31, go_sem, x4, x5, IV]) rfl ⟨rfl, HBE.out _ _ _ HG2⟩
  · obtain ⟨e1, e2⟩ := meet_yes h1 h2 hF
    obtain ⟨kF, kG⟩ := meet_full hF
    obtain ⟨n1, n2⟩ := full_nn h1.1 h1.2 kF
    obtain ⟨n3, n4⟩ := full_nn h2.1 h2.2 kG
    have n5 := most_nn n1 n3
    have n6 := least_nn n2 n4
    rw [e1, e2]
    rw [hF] at HMT
    clear hF kF kG h1 h2 e1 e2 g1 g2 g3 HEM
    unfold IV at HMT ⊢
    go_enter Tryd.func31, Tryd.ntmps31
    go_wp2_with fail
    refine (HMT.out _ HW0).mono ?_
    rintro r w3 ⟨rfl, HG3⟩
    obtain ⟨⟨⟨x0, x1⟩, ⟨x2, x3⟩, ⟨x4, x5⟩, x6, x7, x8⟩, _⟩ := HC.out _ HG3
    go_wp2_with fail
    have hlt : w.heap.size + 1 + 1 < w3.heap.size := Nat.lt_of_lt_of_le HSZ.out HG3.out.size
    have hl1 : w.heap.size + 1 < w3.heap.size := by omega
    have hl0 : w.heap.size < w3.heap.size := by omega
    go_region_held3 (fun W => (W.cell? ⟨w.heap.size, 0, none⟩ = some (.float .f64 a) ∧ W.cell? ⟨w.heap.size, 1, none⟩ = some (.float .f64 b)) ∧ (W.cell? ⟨w.heap.size + 1, 0, none⟩ = some (.float .f64 c) ∧ W.cell? ⟨w.heap.size + 1, 1, none⟩ = some (.float .f64 d)))
      (first | (with_reducible exact ⟨⟨j0, j1⟩, j2, j3⟩) | (simp [go_sem, *]; done))
      (first
        | (go_at_call 49; refine (HL.out _ _ _).mono ?_; rintro r w8 ⟨rfl, rfl⟩)
        | (go_at_call 50; refine (HM.out _ _ _).mono ?_; rintro r w8 ⟨rfl, rfl⟩)
        | (go_at_call 47; refine (HMD2.out _ _ _ n5 n6).mono ?_; rintro r w9 ⟨rfl, ⟨hk1, hk2⟩, HB9⟩; have j4 := (hk1 (w.heap.size + 1 + 1) 0 hlt).trans x4; have j5 := (hk1 (w.heap.size + 1 + 1) 1 hlt).trans x5; have j0 := (hk1 w.heap.size 0 hl0).trans x0; have j1 := (hk1 w.heap.size 1 hl0).trans x1; have j2 := (hk1 (w.heap.size + 1) 0 hl1).trans x2; have j3 := (hk1 (w.heap.size + 1) 1 hl1).trans x3; have jf := fun o => (hk2 (w.heap.size + 1 + 1) o hlt).trans (x8 o); clear hk1 hk2)
        | fail)
    go_wp2
    exact bodyPost_ret (v := IV (plusOf (mostN a c)) (plusOf (leastN b d))) (by simp [results, Tryd.results31, go_sem, j4, j5, IV]) rfl ⟨rfl, HBE.out _ _ _ (HG3.out.drew.trans (HB9.out.mono HG3.out.size))⟩
end Go.Proofs.YtdahhpimhmloiaaDoor
