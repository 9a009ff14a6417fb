
/- The document's exact numbers by their values: Neg, Mul, Add, Cmp. -/
import Derived.Test.YtilffgmekeeohaaDoorP38
namespace Go.Proofs.YtilffgmekeeohaaDoor
open Go.RowKit Go.IntWalk

theorem xNeg_val (p bd : Nat) (e B z : Int) (w : World) (h : ExV w p e B z bd) (hbd : bd ≤ 400000) :
    Calls Tryd.prog 14 #[.agg #[.pointer (some ⟨p, 0, none⟩), .int .i64 e]] w fun r w' => ∃ q, r = .returned (.agg #[.pointer (some ⟨q, 0, none⟩), .int .i64 e]) ∧ ExV w' q e B (-z) bd ∧ Below w.heap.size w w' := by
  obtain ⟨v, k, h1, h2, h3⟩ := h
  refine (xNeg_core p bd v e w h1 (by omega)).mono ?_
  rintro r w' ⟨q, rfl, hq, hn, hb⟩
  exact ⟨q, rfl, ⟨-v, k, hn, h2, by rw [h3, Int.neg_mul]⟩, hb⟩
theorem xAdd_val (p1 p2 b1 b2 : Nat) (e1 e2 B z1 z2 : Int) (w : World) (h1 : ExV w p1 e1 B z1 b1) (h2 : ExV w p2 e2 B z2 b2) (hb1 : b1 ≤ 300000) (hb2 : b2 ≤ 300000) (hu1 : e1 ≤ B + 100000) (hu2 : e2 ≤ B + 100000) :
    Calls Tryd.prog 13 #[.agg #[.pointer (some ⟨p1, 0, none⟩), .int .i64 e1], .agg #[.pointer (some ⟨p2, 0, none⟩), .int .i64 e2]] w fun r w' => ∃ q e, r = .returned (.agg #[.pointer (some ⟨q, 0, none⟩), .int .i64 e]) ∧ (B ≤ e ∧ e ≤ max e1 e2) ∧ ExV w' q e B (z1 + z2) (max b1 b2 + 4000) ∧ Below w.heap.size w w' := by
  obtain ⟨v1, k1, f1, f2, f3⟩ := h1
  obtain ⟨v2, k2, g1, g2, g3⟩ := h2
  by_cases c1 : v1 = 0
  · subst c1
    have hp2 := g1.lt
    refine (xAdd_left p1 p2 b1 e1 e2 _ w f1 rfl).mono ?_
    rintro r w' ⟨rfl, W0, hB, hs, hx, rfl⟩
    refine ⟨p2, e2, rfl, by omega, ⟨v2, k2, ?_, g2, by rw [f3, g3, Int.zero_mul, Int.zero_add]⟩, Below.setCell (Below.setCell hB (by simp) _) (by simp) _⟩
    exact ((g1.below hB).stored (by omega) hx _ _).more (by omega)
  · by_cases c2 : v2 = 0
    · subst c2
      have hp1 := f1.lt
      refine (xAdd_right p1 p2 b1 b2 v1 e1 e2 _ w f1 g1 c1 rfl).mono ?_
      rintro r w' ⟨rfl, W0, hB, hs, hx, rfl⟩
      refine ⟨p1, e1, rfl, by omega, ⟨v1, k1, ?_, f2, by rw [f3, g3, Int.zero_mul, Int.add_zero]⟩, Below.setCell (Below.setCell hB (by simp) _) (by simp) _⟩
      exact ((f1.below hB).stored (by omega) hx _ _).more (by omega)
    · obtain ⟨e, he⟩ : ∃ e, min e1 e2 = e := ⟨_, rfl⟩
      obtain ⟨n1, hn1⟩ := Int.eq_ofNat_of_zero_le (show 0 ≤ e1 - e by omega)
      obtain ⟨n2, hn2⟩ := Int.eq_ofNat_of_zero_le (show 0 ≤ e2 - e by omega)
      obtain ⟨k, hk⟩ := Int.eq_ofNat_of_zero_le (show 0 ≤ e - B by omega)
      refine (xAdd_two p1 p2 b1 b2 n1 n2 v1 v2 e1 e2 e w f1 g1 (by omega) (by omega) c1 c2 he hn1 hn2 (by omega) (by omega)).mono ?_
      rintro r w' ⟨q, rfl, hq, hn, hb⟩
      refine ⟨q, e, rfl, by omega, ⟨_, k, hn.more (by omega), by omega, ?_⟩, hb⟩
      rw [f3, g3, Int.add_mul, Int.mul_assoc, Int.mul_assoc, ← Int.pow_add, ← Int.pow_add, show k1 = n1 + k by omega, show k2 = n2 + k by omega]
theorem xsgn (v : Int) (k : Nat) : sgnZ (v * 2 ^ k) = sgnZ v := by
  have hp : (0 : Int) < 2 ^ k := Int.pow_pos (by decide)
  unfold sgnZ
  rcases Int.lt_trichotomy v 0 with h | h | h
  · have h2 : v * 2 ^ k < 0 := Int.mul_neg_of_neg_of_pos h hp
    rw [if_neg (by omega), if_pos h2, if_neg (by omega), if_pos h]
  · rw [h, Int.zero_mul]
  · have h2 : 0 < v * 2 ^ k := Int.mul_pos h hp
    rw [if_neg (by omega), if_neg (by omega), if_neg (by omega), if_neg (by omega)]
set_option maxRecDepth 4000 in
set_option maxHeartbeats 1000000 in
theorem xCmp_val (p1 p2 b1 b2 : Nat) (e1 e2 B z1 z2 : Int) (w : World) (h1 : ExV w p1 e1 B z1 b1) (h2 : ExV w p2 e2 B z2 b2) (hb1 : b1 ≤ 300000) (hb2 : b2 ≤ 300000) (hu1 : e1 ≤ B + 100000) (hu2 : e2 ≤ B + 100000) :
    Calls Tryd.prog 15 #[.agg #[.pointer (some ⟨p1, 0, none⟩), .int .i64 e1], .agg #[.pointer (some ⟨p2, 0, none⟩), .int .i64 e2]] w fun r w' => r = .returned (.int .i64 (sgnZ (z1 - z2))) ∧ Below w.heap.size w w' := by
  obtain ⟨W0, hW0⟩ : ∃ V, Hid ((w.alloc (XBox (some ⟨p1, 0, none⟩) e1)).alloc (XBox (some ⟨p2, 0, none⟩) e2) = V) := ⟨_, rfl⟩
  obtain ⟨g1, g2⟩ := two_blk w (XBox (some ⟨p1, 0, none⟩) e1) (XBox (some ⟨p2, 0, none⟩) e2)
  have HB0 : Hid (Below w.heap.size w W0) := by
    rw [← hW0.out]
    exact ((Below.refl _ _).alloc (Nat.le_refl _) _).alloc (by simp) _
  rw [hW0.out] at g1 g2
  have HK : Hid (∀ W, Hid (Below W0.heap.size W0 W) → ((W.cell? ⟨w.heap.size, 0, none⟩ = some (.pointer (some ⟨p1, 0, none⟩)) ∧ W.cell? ⟨w.heap.size, 1, none⟩ = some (.int .i64 e1)) ∧ (W.cell? ⟨w.heap.size + 1, 0, none⟩ = some (.pointer (some ⟨p2, 0, none⟩)) ∧ W.cell? ⟨w.heap.size + 1, 1, none⟩ = some (.int .i64 e2))) ∧ Hid (Below W0.heap.size W0 W)) := fun W hW => by
    have t1 := xcells_of ((hW.out.block _ (Array.getElem?_eq_some_iff.1 g1).1).trans g1)
    have t2 := xcells_of ((hW.out.block _ (Array.getElem?_eq_some_iff.1 g2).1).trans g2)
    exact ⟨⟨⟨t1.1, t1.2.1⟩, ⟨t2.1, t2.2.1⟩⟩, hW⟩
  have HNG : Hid (∀ W, Hid (Below W0.heap.size W0 W) → Calls Tryd.prog 14 #[.agg #[.pointer (some ⟨p2, 0, none⟩), .int .i64 e2]] W fun r w' => ∃ q, r = .returned (.agg #[.pointer (some ⟨q, 0, none⟩), .int .i64 e2]) ∧ Hid (ExV w' q e2 B (-z2) b2) ∧ Hid (Below W0.heap.size W0 w')) := fun W hW => by
    refine (xNeg_val p2 b2 e2 B z2 W ((h2.below HB0.out).below hW.out) (by omega)).mono ?_
    rintro r w' ⟨q, rfl, hx, hb⟩
    exact ⟨q, rfl, hx, hW.out.trans (hb.mono hW.out.size)⟩
  have HAD : Hid (∀ W q, Hid (Below W0.heap.size W0 W) → Hid (ExV W q e2 B (-z2) b2) → Calls Tryd.prog 13 #[.agg #[.pointer (some ⟨p1, 0, none⟩), .int .i64 e1], .agg #[.pointer (some ⟨q, 0, none⟩), .int .i64 e2]] W fun r w' => ∃ q e, r = .returned (.agg #[.pointer (some ⟨q, 0, none⟩), .int .i64 e]) ∧ Hid (ExV w' q e B (z1 + -z2) (max b1 b2 + 4000)) ∧ Hid (Below W0.heap.size W0 w')) := fun W q hW hq => by
    refine (xAdd_val p1 q b1 b2 e1 e2 B z1 (-z2) W ((h1.below HB0.out).below hW.out) hq.out hb1 hb2 hu1 hu2).mono ?_
    rintro r w' ⟨q', e', rfl, _, hx, hb⟩
    exact ⟨q', e', rfl, hx, hW.out.trans (hb.mono hW.out.size)⟩
  have HSG : Hid (∀ W q e, Hid (ExV W q e B (z1 + -z2) (max b1 b2 + 4000)) → Calls Tryd.prog 33 #[.pointer (some ⟨q, 0, none⟩)] W fun r w' => r = .returned (.int .i64 (sgnZ (z1 - z2))) ∧ w' = W) := fun W q e hq => by
    obtain ⟨v, k, f1, f2, f3⟩ := hq.out
    have := NSign q v _ W f1
    rw [← xsgn v k, ← f3, ← Int.sub_eq_add_neg] at this
    exact this
  have hfl := xfield
  obtain ⟨⟨y00, y01⟩, ⟨y10, y11⟩⟩ := (HK.out _ (Below.refl _ _)).1
  unfold XBox at hW0
  have hW0' := hW0.out
  clear h1 h2 g1 g2
  go_enter Tryd.func15, Tryd.ntmps15
  go_wp2_with fail
  have HQ0 : Hid (Below W0.heap.size W0 W0.drew) := (Below.refl _ _).drew
  go_region_held3 (fun W => ((W.cell? ⟨w.heap.size, 0, none⟩ = some (.pointer (some ⟨p1, 0, none⟩)) ∧ W.cell? ⟨w.heap.size, 1, none⟩ = some (.int .i64 e1)) ∧ (W.cell? ⟨w.heap.size + 1, 0, none⟩ = some (.pointer (some ⟨p2, 0, none⟩)) ∧ W.cell? ⟨w.heap.size + 1, 1, none⟩ = some (.int .i64 e2))) ∧ Hid (Below W0.heap.size W0 W))
    ((refine HK.out _ ?_; first | with_reducible assumption | with_reducible exact HQ0))
    (first
      | (go_at_call 14; refine (HNG.out _ (And.right (by assumption))).mono ?_; rintro r w3 ⟨q3, rfl, HX3, HB3⟩)
      | (go_at_call 13; refine (HAD.out _ _ (And.right (by assumption)) HX3).mono ?_; rintro r w4 ⟨q4, e4, rfl, HX4, HB4⟩)
      | (go_at_call 33; refine (HSG.out _ _ _ HX4).mono ?_; rintro r w5 ⟨rfl, rfl⟩)
      | fail)
  go_wp2
  go_ret
  exact ⟨rfl, HB0.out.trans (HB4.out.mono HB0.out.size)⟩
end Go.Proofs.YtilffgmekeeohaaDoor
