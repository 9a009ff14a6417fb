
/- The document's exact numbers by their values: Neg, Mul, Add, Cmp. -/
import Derived.Test.YtijadahpddmhjaaGreatDoorP35
import Derived.Test.YtijadahpddmhjaaGreatDoorP31
namespace Go.Proofs.YtijadahpddmhjaaGreatDoor
open Go.RowKit Go.IntWalk

theorem xNeg_val (p bd : Nat) (e B z : Int) (w : World) (h : ExV w p e B z bd) (hbd : bd ≤ 400000) :
    Calls Tryz.prog 39 #[.agg #[.pointer (some ⟨p, 0, none⟩), .int .i64 e]] w fun r w' => ∃ q, r = .returned (.agg #[.pointer (some ⟨q, 0, none⟩), .int .i64 e]) ∧ ExV w' q e B (-z) bd ∧ Below w.heap.size w w' := by
  obtain ⟨v, k, h1, h2, h3⟩ := h
  refine (xNeg_core p bd v e w h1 (by omega)).mono ?_
  rintro r w' ⟨q, rfl, hq, hn, hb⟩
  exact ⟨q, rfl, ⟨-v, k, hn, h2, by rw [h3, Int.neg_mul]⟩, hb⟩
theorem xMul_val (p1 p2 b1 b2 : Nat) (e1 e2 B1 B2 z1 z2 : Int) (w : World) (h1 : ExV w p1 e1 B1 z1 b1) (h2 : ExV w p2 e2 B2 z2 b2) (hb1 : b1 ≤ 400000) (hb2 : b2 ≤ 400000) (hl : -1000000 ≤ B1 + B2) (hu : e1 + e2 ≤ 1000000) :
    Calls Tryz.prog 20 #[.agg #[.pointer (some ⟨p1, 0, none⟩), .int .i64 e1], .agg #[.pointer (some ⟨p2, 0, none⟩), .int .i64 e2]] w fun r w' => ∃ q, r = .returned (.agg #[.pointer (some ⟨q, 0, none⟩), .int .i64 (e1 + e2)]) ∧ ExV w' q (e1 + e2) (B1 + B2) (z1 * z2) (b1 + b2) ∧ Below w.heap.size w w' := by
  obtain ⟨v1, k1, f1, f2, f3⟩ := h1
  obtain ⟨v2, k2, g1, g2, g3⟩ := h2
  refine (xMul_core p1 p2 b1 b2 v1 v2 e1 e2 (e1 + e2) w f1 g1 hb1 hb2 rfl (by omega) hu).mono ?_
  rintro r w' ⟨q, rfl, hq, hn, hb⟩
  refine ⟨q, rfl, ⟨v1 * v2, k1 + k2, hn, by omega, ?_⟩, hb⟩
  rw [f3, g3, Int.pow_add, Int.mul_assoc, Int.mul_assoc, Int.mul_left_comm (2 ^ k1)]
theorem xAdd_val (p1 p2 b1 b2 : Nat) (e1 e2 B z1 z2 : Int) (w : World) (h1 : ExV w p1 e1 B z1 b1) (h2 : ExV w p2 e2 B z2 b2) (hb1 : b1 ≤ 300000) (hb2 : b2 ≤ 300000) (hu1 : e1 ≤ B + 100000) (hu2 : e2 ≤ B + 100000) :
    Calls Tryz.prog 38 #[.agg #[.pointer (some ⟨p1, 0, none⟩), .int .i64 e1], .agg #[.pointer (some ⟨p2, 0, none⟩), .int .i64 e2]] w fun r w' => ∃ q e, r = .returned (.agg #[.pointer (some ⟨q, 0, none⟩), .int .i64 e]) ∧ (B ≤ e ∧ e ≤ max e1 e2) ∧ ExV w' q e B (z1 + z2) (max b1 b2 + 4000) ∧ Below w.heap.size w w' := by
  obtain ⟨v1, k1, f1, f2, f3⟩ := h1
  obtain ⟨v2, k2, g1, g2, g3⟩ := h2
  by_cases c1 : v1 = 0
  · subst c1
    have hp2 := g1.lt
    refine (xAdd_left p1 p2 b1 e1 e2 _ w f1 rfl).mono ?_
    rintro r w' ⟨rfl, W0, hB, hs, hx, rfl⟩
    refine ⟨p2, e2, rfl, by omega, ⟨v2, k2, ?_, g2, by rw [f3, g3, Int.zero_mul, Int.zero_add]⟩, Below.setCell (Below.setCell hB (by simp) _) (by simp) _⟩
    exact ((g1.below hB).stored (by omega) hx _ _).more (by omega)
  · by_cases c2 : v2 = 0
    · subst c2
      have hp1 := f1.lt
      refine (xAdd_right p1 p2 b1 b2 v1 e1 e2 _ w f1 g1 c1 rfl).mono ?_
      rintro r w' ⟨rfl, W0, hB, hs, hx, rfl⟩
      refine ⟨p1, e1, rfl, by omega, ⟨v1, k1, ?_, f2, by rw [f3, g3, Int.zero_mul, Int.add_zero]⟩, Below.setCell (Below.setCell hB (by simp) _) (by simp) _⟩
      exact ((f1.below hB).stored (by omega) hx _ _).more (by omega)
    · obtain ⟨e, he⟩ : ∃ e, min e1 e2 = e := ⟨_, rfl⟩
      obtain ⟨n1, hn1⟩ := Int.eq_ofNat_of_zero_le (show 0 ≤ e1 - e by omega)
      obtain ⟨n2, hn2⟩ := Int.eq_ofNat_of_zero_le (show 0 ≤ e2 - e by omega)
      obtain ⟨k, hk⟩ := Int.eq_ofNat_of_zero_le (show 0 ≤ e - B by omega)
      refine (xAdd_two p1 p2 b1 b2 n1 n2 v1 v2 e1 e2 e w f1 g1 (by omega) (by omega) c1 c2 he hn1 hn2 (by omega) (by omega)).mono ?_
      rintro r w' ⟨q, rfl, hq, hn, hb⟩
      refine ⟨q, e, rfl, by omega, ⟨_, k, hn.more (by omega), by omega, ?_⟩, hb⟩
      rw [f3, g3, Int.add_mul, Int.mul_assoc, Int.mul_assoc, ← Int.pow_add, ← Int.pow_add, show k1 = n1 + k by omega, show k2 = n2 + k by omega]
theorem xsgn (v : Int) (k : Nat) : sgnZ (v * 2 ^ k) = sgnZ v := by
  have hp : (0 : Int) < 2 ^ k := Int.pow_pos (by decide)
  unfold sgnZ
  rcases Int.lt_trichotomy v 0 with h | h | h
  · have h2 : v * 2 ^ k < 0 := Int.mul_neg_of_neg_of_pos h hp
    rw [if_neg (by omega), if_pos h2, if_neg (by omega), if_pos h]
  · rw [h, Int.zero_mul]
  · have h2 : 0 < v * 2 ^ k := Int.mul_pos h hp
    rw [if_neg (by omega), if_neg (by omega), if_neg (by omega), if_neg (by omega)]
set_option maxRecDepth 4000 in
set_option maxHeartbeats 1000000 in
theorem xCmp_val (p1 p2 b1 b2 : Nat) (e1 e2 B z1 z2 : Int) (w : World) (h1 : ExV w p1 e1 B z1 b1) (h2 : ExV w p2 e2 B z2 b2) (hb1 : b1 ≤ 300000) (hb2 : b2 ≤ 300000) (hu1 : e1 ≤ B + 100000) (hu2 : e2 ≤ B + 100000) :
    Calls Tryz.prog 22 #[.agg #[.pointer (some ⟨p1, 0, none⟩), .int .i64 e1], .agg #[.pointer (some ⟨p2, 0, none⟩), .int .i64 e2]] w fun r w' => r = .returned (.int .i64 (sgnZ (z1 - z2))) ∧ Below w.heap.size w w' := by
  obtain ⟨W0, hW0⟩ : ∃ V, Hid ((w.alloc (XBox (some ⟨p1, 0, none⟩) e1)).alloc (XBox (some ⟨p2, 0, none⟩) e2) = V) := ⟨_, rfl⟩
  obtain ⟨g1, g2⟩ := two_blk w (XBox (some ⟨p1, 0, none⟩) e1) (XBox (some ⟨p2, 0, none⟩) e2)
  have HB0 : Hid (Below w.heap.size w W0) := by
    rw [← hW0.out]
    exact ((Below.refl _ _).alloc (Nat.le_refl _) _).alloc (by simp) _
  rw [hW0.out] at g1 g2
  have HK : Hid (∀ W, Hid (Below W0.heap.size W0 W) → ((W.cell? ⟨w.heap.size, 0, none⟩ = some (.pointer (some ⟨p1, 0, none⟩)) ∧ W.cell? ⟨w.heap.size, 1, none⟩ = some (.int .i64 e1)) ∧ (W.cell? ⟨w.heap.size + 1, 0, none⟩ = some (.pointer (some ⟨p2, 0, none⟩)) ∧ W.cell? ⟨w.heap.size + 1, 1, none⟩ = some (.int .i64 e2))) ∧ Hid (Below W0.heap.size W0 W)) := fun W hW => by
    have t1 := xcells_of ((hW.out.block _ (Array.getElem?_eq_some_iff.1 g1).1).trans g1)
    have t2 := xcells_of ((hW.out.block _ (Array.getElem?_eq_some_iff.1 g2).1).trans g2)
    exact ⟨⟨⟨t1.1, t1.2.1⟩, ⟨t2.1, t2.2.1⟩⟩, hW⟩
  have HNG : Hid (∀ W, Hid (Below W0.heap.size W0 W) → Calls Tryz.prog 39 #[.agg #[.pointer (some ⟨p2, 0, none⟩), .int .i64 e2]] W fun r w' => ∃ q, r = .returned (.agg #[.pointer (some ⟨q, 0, none⟩), .int .i64 e2]) ∧ Hid (ExV w' q e2 B (-z2) b2) ∧ Hid (Below W0.heap.size W0 w')) := fun W hW => by
    refine (xNeg_val p2 b2 e2 B z2 W ((h2.below HB0.out).below hW.out) (by omega)).mono ?_
    rintro r w' ⟨q, rfl, hx, hb⟩
    exact ⟨q, rfl, hx, hW.out.trans (hb.mono hW.out.size)⟩
  have HAD : Hid (∀ W q, Hid (Below W0.heap.size W0 W) → Hid (ExV W q e2 B (-z2) b2) → Calls Tryz.prog 38 #[.agg #[.pointer (some ⟨p1, 0, none⟩), .int .i64 e1], .agg #[.pointer (some ⟨q, 0, none⟩), .int .i64 e2]] W fun r w' => ∃ q e, r = .returned (.agg #[.pointer (some ⟨q, 0, none⟩), .int .i64 e]) ∧ Hid (ExV w' q e B (z1 + -z2) (max b1 b2 + 4000)) ∧ Hid (Below W0.heap.size W0 w')) := fun W q hW hq => by
    refine (xAdd_val p1 q b1 b2 e1 e2 B z1 (-z2) W ((h1.below HB0.out).below hW.out) hq.out hb1 hb2 hu1 hu2).mono ?_
    rintro r w' ⟨q', e', rfl, _, hx, hb⟩
    exact ⟨q', e', rfl, hx, hW.out.trans (hb.mono hW.out.size)⟩
  have HSG : Hid (∀ W q e, Hid (ExV W q e B (z1 + -z2) (max b1 b2 + 4000)) → Calls Tryz.prog 24 #[.pointer (some ⟨q, 0, none⟩)] W fun r w' => r = .returned (.int .i64 (sgnZ (z1 - z2))) ∧ w' = W) := fun W q e hq => by
    obtain ⟨v, k, f1, f2, f3⟩ := hq.out
    have := NSign q v _ W f1
    rw [← xsgn v k, ← f3, ← Int.sub_eq_add_neg] at this
    exact this
  have hfl := xfield
  obtain ⟨⟨y00, y01⟩, ⟨y10, y11⟩⟩ := (HK.out _ (Below.refl _ _)).1
  unfold XBox at hW0
  have hW0' := hW0.out
  clear h1 h2 g1 g2
  go_enter Tryz.func22, Tryz.ntmps22
  go_wp2_with fail
  have HQ0 : Hid (Below W0.heap.size W0 W0.drew) := (Below.refl _ _).drew
  go_region_held3 (fun W => ((W.cell? ⟨w.heap.size, 0, none⟩ = some (.pointer (some ⟨p1, 0, none⟩)) ∧ W.cell? ⟨w.heap.size, 1, none⟩ = some (.int .i64 e1)) ∧ (W.cell? ⟨w.heap.size + 1, 0, none⟩ = some (.pointer (some ⟨p2, 0, none⟩)) ∧ W.cell? ⟨w.heap.size + 1, 1, none⟩ = some (.int .i64 e2))) ∧ Hid (Below W0.heap.size W0 W))
    ((refine HK.out _ ?_; first | with_reducible assumption | with_reducible exact HQ0))
    (first
      | (go_at_call 39; refine (HNG.out _ (And.right (by assumption))).mono ?_; rintro r w3 ⟨q3, rfl, HX3, HB3⟩)
      | (go_at_call 38; refine (HAD.out _ _ (And.right (by assumption)) HX3).mono ?_; rintro r w4 ⟨q4, e4, rfl, HX4, HB4⟩)
      | (go_at_call 24; refine (HSG.out _ _ _ HX4).mono ?_; rintro r w5 ⟨rfl, rfl⟩)
      | fail)
  go_wp2
  go_ret
  exact ⟨rfl, HB0.out.trans (HB4.out.mono HB0.out.size)⟩
end Go.Proofs.YtijadahpddmhjaaGreatDoor

namespace Go.Proofs.YtijadahpddmhjaaGreatDoor
open Go.RowKit Go.IntWalk

/-- The words from a place on. -/
def seg (b : Nat) (o : Nat → Nat) : Nat → Nat := fun j => o (b + j)
def digN (V t : Nat) : Nat := V / 4294967296 ^ t % 4294967296
/-- What holds ahead of the t-th round of put. -/
def PutI (o0 o : Nat → Nat) (b q s V c U t : Nat) : Prop :=
  natF (seg b o) 134 + 4294967296 ^ (q + t) * (c + U) = natF (seg b o0) 134 + 4294967296 ^ q * (V % 4294967296 ^ t * 2 ^ s) ∧ c ≤ 1 ∧ U < 2 ^ s ∧ (∀ j, o j < 4294967296) ∧ ∀ j, (j < b ∨ b + 134 ≤ j) → o j = o0 j
theorem PutI.zero (o : Nat → Nat) (b q s V : Nat) (ho : ∀ j, o j < 4294967296) : PutI o o b q s V 0 0 0 := by
  refine ⟨?_, by decide, Nat.two_pow_pos s, ho, fun _ _ => rfl⟩
  rw [Nat.pow_zero, Nat.mod_one, Nat.zero_mul, Nat.mul_zero, Nat.mul_zero]
theorem seg_set (b : Nat) (o : Nat → Nat) (i v : Nat) : seg b (fun j => if j = b + i then v else o j) = fun j => if j = i then v else seg b o j := by
  funext j
  show (if b + j = b + i then v else o (b + j)) = if j = i then v else o (b + j)
  by_cases h : j = i
  · rw [if_pos (by omega), if_pos h]
  · rw [if_neg (by omega), if_neg h]
theorem PutI.step {o0 o : Nat → Nat} {b q s V c U t : Nat} (h : PutI o0 o b q s V c U t) (hs : s < 32) (ht : q + t < 134) :
    PutI o0 (fun j => if j = b + (q + t) then (c + (o (b + (q + t)) + (U + digN V t * 2 ^ s) % 4294967296)) % 4294967296 else o j) b q s V ((c + (o (b + (q + t)) + (U + digN V t * 2 ^ s) % 4294967296)) / 4294967296) ((U + digN V t * 2 ^ s) / 4294967296) (t + 1) ∧ U + digN V t * 2 ^ s < 18446744073709551616 := by
  obtain ⟨h1, h2, h3, h4, h5⟩ := h
  have hd : digN V t < 4294967296 := Nat.mod_lt _ (by decide)
  have hx := h4 (b + (q + t))
  have hp := Nat.two_pow_pos s
  have h32 : (2 : Nat) ^ s ≤ 2 ^ 32 := Nat.pow_le_pow_right (by decide) (by omega)
  have e32 : (2 : Nat) ^ 32 = 4294967296 := by decide
  have hT : U + digN V t * 2 ^ s < 4294967296 * 2 ^ s := by
    have : (digN V t + 1) * 2 ^ s ≤ 4294967296 * 2 ^ s := Nat.mul_le_mul_right _ hd
    rw [Nat.add_mul, Nat.one_mul] at this
    omega
  have hT2 : U + digN V t * 2 ^ s < 18446744073709551616 := by
    have : 4294967296 * 2 ^ s ≤ 4294967296 * 4294967296 := Nat.mul_le_mul_left _ (by omega)
    omega
  have hmod : V % 4294967296 ^ (t + 1) = V % 4294967296 ^ t + 4294967296 ^ t * digN V t := by
    unfold digN
    rw [Nat.pow_succ, Nat.mod_mul]
  obtain ⟨T, hTT⟩ : ∃ T, U + digN V t * 2 ^ s = T := ⟨_, rfl⟩
  obtain ⟨x, hxx⟩ : ∃ x, o (b + (q + t)) = x := ⟨_, rfl⟩
  rw [hTT] at hT hT2 ⊢
  rw [hxx] at hx ⊢
  refine ⟨⟨?_, by omega, ?_, fun j => ?_, fun j hj => ?_⟩, hT2⟩
  · rw [seg_set]
    have e1 := natF_set (seg b o) 134 (q + t) ((c + (x + T % 4294967296)) % 4294967296) ht
    have e2 : seg b o (q + t) = x := hxx
    rw [e2] at e1
    have e3 : 4294967296 ^ q * (4294967296 ^ t * digN V t * 2 ^ s) = 4294967296 ^ (q + t) * (digN V t * 2 ^ s) := by
      rw [Nat.mul_assoc, ← Nat.mul_assoc, ← Nat.pow_add]
    have hr : 4294967296 ^ q * (V % 4294967296 ^ (t + 1) * 2 ^ s) = 4294967296 ^ q * (V % 4294967296 ^ t * 2 ^ s) + 4294967296 ^ (q + t) * (digN V t * 2 ^ s) := by rw [hmod, Nat.add_mul, Nat.mul_add, e3]
    have e4 : q + (t + 1) = q + t + 1 := by omega
    rw [hr, e4, Nat.pow_succ]
    have d1 := Nat.div_add_mod (c + (x + T % 4294967296)) 4294967296
    have d2 := Nat.div_add_mod T 4294967296
    obtain ⟨P, hP⟩ : ∃ P, 4294967296 ^ (q + t) = P := ⟨_, rfl⟩
    obtain ⟨F, hF⟩ : ∃ F, natF (seg b o) 134 = F := ⟨_, rfl⟩
    obtain ⟨F', hF'⟩ : ∃ F', natF (fun j => if j = q + t then (c + (x + T % 4294967296)) % 4294967296 else seg b o j) 134 = F' := ⟨_, rfl⟩
    obtain ⟨Z, hZ⟩ : ∃ Z, 4294967296 ^ q * (V % 4294967296 ^ t * 2 ^ s) = Z := ⟨_, rfl⟩
    obtain ⟨D, hD⟩ : ∃ D, digN V t * 2 ^ s = D := ⟨_, rfl⟩
    rw [hP, hF, hF'] at e1
    rw [hP, hF, hZ] at h1
    rw [hF', hP, hZ, hD]
    rw [hD] at hTT
    obtain ⟨R, hR⟩ : ∃ R, (c + (x + T % 4294967296)) % 4294967296 = R := ⟨_, rfl⟩
    obtain ⟨Q, hQ⟩ : ∃ Q, (c + (x + T % 4294967296)) / 4294967296 = Q := ⟨_, rfl⟩
    obtain ⟨l, hl⟩ : ∃ l, T % 4294967296 = l := ⟨_, rfl⟩
    obtain ⟨k, hk⟩ : ∃ k, T / 4294967296 = k := ⟨_, rfl⟩
    rw [hR, hQ, hl] at d1
    rw [hR] at e1
    rw [hl, hk] at d2
    rw [hQ, hk]
    have m1 : P * (4294967296 * Q + R) = P * (c + (x + l)) := by rw [d1]
    have m2 : P * (4294967296 * k + l) = P * T := by rw [d2]
    have m3 : P * T = P * U + P * D := by rw [← hTT, Nat.mul_add]
    rw [Nat.mul_add, Nat.mul_add, Nat.mul_add, ← Nat.mul_assoc] at m1
    rw [Nat.mul_add, ← Nat.mul_assoc] at m2
    rw [Nat.mul_add] at h1 ⊢
    omega
  · rw [Nat.div_lt_iff_lt_mul (by decide), Nat.mul_comm (2 ^ s)]
    exact hT
  · show (if j = b + (q + t) then _ else o j) < _
    split
    · exact Nat.mod_lt _ (by decide)
    · exact h4 j
  · show (if j = b + (q + t) then _ else o j) = _
    rw [if_neg (by omega)]
    exact h5 j hj
/-- What put has done, when nothing is carried any more. -/
theorem PutI.done {o0 o : Nat → Nat} {b q s V t : Nat} (h : PutI o0 o b q s V 0 0 t) (hV : V < 340282366920938463463374607431768211456) (ht : 4 ≤ t) : natF (seg b o) 134 = natF (seg b o0) 134 + V * 2 ^ (32 * q + s) ∧ (∀ j, o j < 4294967296) ∧ ∀ j, (j < b ∨ b + 134 ≤ j) → o j = o0 j := by
  obtain ⟨h1, _, _, h4, h5⟩ := h
  have hp : (340282366920938463463374607431768211456 : Nat) ≤ 4294967296 ^ t := by
    have : (4294967296 : Nat) ^ 4 ≤ 4294967296 ^ t := Nat.pow_le_pow_right (by decide) ht
    have e : (4294967296 : Nat) ^ 4 = 340282366920938463463374607431768211456 := by decide
    omega
  rw [Nat.mod_eq_of_lt (Nat.lt_of_lt_of_le hV hp), Nat.add_zero, Nat.mul_zero, Nat.add_zero, pow32, Nat.mul_left_comm, ← Nat.pow_add] at h1
  exact ⟨h1, h4, h5⟩
theorem PutI.last {o0 o : Nat → Nat} {b q s V c U t : Nat} (h : PutI o0 o b q s V c U t) (ht : q + t = 134) (hlt : natF (seg b o0) 134 + V * 2 ^ (32 * q + s) < 4294967296 ^ 134) : natF (seg b o) 134 = natF (seg b o0) 134 + V * 2 ^ (32 * q + s) ∧ (∀ j, o j < 4294967296) ∧ ∀ j, (j < b ∨ b + 134 ≤ j) → o j = o0 j := by
  obtain ⟨h1, _, _, h4, h5⟩ := h
  have e0 : V * 2 ^ (32 * q + s) = 4294967296 ^ q * (V * 2 ^ s) := by rw [pow32, Nat.mul_left_comm, ← Nat.pow_add]
  have hVt : V < 4294967296 ^ t := by
    apply Classical.byContradiction
    intro hc
    have a1 : 4294967296 ^ t ≤ V := by omega
    have a2 : 4294967296 ^ q * 4294967296 ^ t ≤ 4294967296 ^ q * (V * 2 ^ s) := Nat.mul_le_mul_left _ (Nat.le_trans a1 (Nat.le_mul_of_pos_right _ (Nat.two_pow_pos s)))
    rw [← Nat.pow_add, ht] at a2
    omega
  rw [Nat.mod_eq_of_lt hVt, ht, ← e0] at h1
  have hcu : c + U = 0 := by
    apply Classical.byContradiction
    intro hc
    have : 4294967296 ^ 134 * 1 ≤ 4294967296 ^ 134 * (c + U) := Nat.mul_le_mul_left _ (by omega)
    omega
  rw [hcu, Nat.mul_zero, Nat.add_zero] at h1
  exact ⟨h1, h4, h5⟩
end Go.Proofs.YtijadahpddmhjaaGreatDoor
