
/- Proved: for all bits of two numbers the law EftProducts answers true: where both have an amount of at most 2^995 and their exact product is at most 2^1021 and a whole number of steps of 2^-1074, what eft's Prod answers is, added up exactly, that product, and Fused answers the same two numbers; chapter 4's first examples hold. Its condition: the library's two tables of trailing zeros start as the program's text lays them, to which the card ties them. -/
import Derived.Test.YtijadahpddmhjaaGreatDoorP47
import Derived.Test.YtijadahpddmhjaaGreatDoorP49
import Derived.Test.YtijadahpddmhjaaGreatDoorTie
import Derived.Test.YtijadahpddmhjaaGreatDoorCards
import Derived.SevenTiedAt
namespace Go.Proofs.YtijadahpddmhjaaGreatDoor
open Go.ChangeShapes Go.WideShapes Go.ChangeAt Go.RowKit Go.IntWalk

theorem nv_995 : nv 9088264048033660928 = 33554432 * 2 ^ kG := by decide +kernel
theorem sv_995 {x : Nat} (h : x % 9223372036854775808 ≤ 9088264048033660928) : (sv x).natAbs ≤ 33554432 * 2 ^ kG := by
  rw [← nv_995]
  have := nv_le h
  unfold sv
  split <;> omega
theorem split_call (a : Nat) (ha : a < 18446744073709551616) (ka : a % 9223372036854775808 ≤ 9088264048033660928) :
    ∃ h l H, (∀ W, Calls Tryz.prog 11 #[.float .f64 a] W fun r w' => r = .returned (.tuple #[.float .f64 h, .float .f64 l]) ∧ Below W.heap.size W w') ∧ Fin64 h H ∧ Fin64 l (sv a - H) ∧ Halves (sv a) H := by
  have fa : Fin64 a (sv a) := ⟨ha, by omega, rfl⟩
  obtain ⟨c, d, h, l, H, h1, h2, h3, h4, ⟨s1, s2, s3⟩, ⟨r1, r2, r3⟩, hv⟩ := split_vals a _ fa (sv_995 ka)
  refine ⟨h, l, H, fun W => ?_, ⟨s1, s2, s3⟩, ⟨r1, r2, r3⟩, hv⟩
  have := Split_at a c d h l W h1 h2 h3 h4 s1 r1
  rw [canon_fin s2, canon_fin r2] at this
  exact this
/-- All that Prod, Fused and the sum of it answer. -/
theorem prod_all (a b : Nat) (ha : a < 18446744073709551616) (hb : b < 18446744073709551616) (ka : a % 9223372036854775808 ≤ 9088264048033660928) (kb : b % 9223372036854775808 ≤ 9088264048033660928) (P : Int) (e : sv a * sv b = P * ((2 ^ kH : Nat) : Int)) (hP : P.natAbs ≤ 2251799813685248 * 2 ^ kG) :
    ∃ p r h, (∀ W, Calls Tryz.prog 13 #[.float .f64 a, .float .f64 b] W fun z w' => z = .returned (.tuple #[.float .f64 p, .float .f64 r]) ∧ Below W.heap.size W w')
      ∧ (∀ W, Calls Tryz.prog 15 #[.float .f64 a, .float .f64 b] W fun z w' => z = .returned (.tuple #[.float .f64 p, .float .f64 h]) ∧ Below W.heap.size W w')
      ∧ (∀ W, Calls Tryz.prog 26 #[.float .f64 p] W fun r w' => r = .returned (.bool true) ∧ w' = W)
      ∧ (∀ W, Calls Tryz.prog 26 #[.float .f64 r] W fun r w' => r = .returned (.bool true) ∧ w' = W)
      ∧ (∀ W, Calls Tryz.prog 27 #[.float .f64 p, .float .f64 r] W fun z w' => ∃ q e, z = .returned (.agg #[.pointer (some ⟨q, 0, none⟩), .int .i64 e]) ∧ (-1074 ≤ e ∧ e ≤ 2000) ∧ ExV w' q e (-1074) P 4002 ∧ Below W.heap.size W w')
      ∧ FloatKind.f64.format.order p p = some .eq ∧ FloatKind.f64.format.order r h = some .eq ∧ p < 18446744073709551616 := by
  have fa : Fin64 a (sv a) := ⟨ha, by omega, rfl⟩
  have fb : Fin64 b (sv b) := ⟨hb, by omega, rfl⟩
  obtain ⟨h, l, H, cA, vh, vl, hA⟩ := split_call a ha ka
  obtain ⟨i, k, I, cB, vi, vk, hB⟩ := split_call b hb kb
  obtain ⟨p, q1, q2, q3, q4, q5, q6, q7, r, m0, m1, m2, m3, m4, m5, m6, m7, m8, ⟨p1, p2, p3⟩, ⟨r1, r2, r3⟩, hF, hE⟩ := prod_core a b h l i k _ _ H I P fa fb vh vl vi vk hA hB e hP
  have fp : Fin64 (flipOf p) (-rz P) := ⟨flip_lt p1, by rw [(flip_md p p1).1]; exact p2, by rw [sv_flip p p1, p3]⟩
  obtain ⟨u, u1, ⟨u2, u3, u4⟩⟩ := fin_fma a b (flipOf p) _ _ _ P fa fb fp e (by rw [← Int.sub_eq_add_neg]; exact hE)
  rw [← Int.sub_eq_add_neg, rz_exact hF] at u4
  refine ⟨p, r, u, ?_, ?_, ?_, ?_, ?_, ?_, ?_, p1⟩
  · intro W
    have := Prod_at a b p h l i k q1 q2 q3 q4 q5 q6 q7 r W m0 cA cB m1 m2 m3 m4 m5 m6 m7 m8 p1 r1
    rw [canon_fin p2, canon_fin r2] at this
    exact this
  · intro W
    exact Fused_at a b p u W ha hb p1 (by omega) (by omega) p2 m0 u1
  · intro W
    have := rfin4 p W p1
    rw [decide_eq_true p2] at this
    exact this
  · intro W
    have := rfin4 r W r1
    rw [decide_eq_true r2] at this
    exact this
  · intro W
    have := lsum_fin p r W p1 r1 p2 r2
    rw [p3, r3, show rz P + (P - rz P) = P by omega] at this
    exact this
  · exact order_same _ _ p1 p1 p2 p2 rfl
  · exact order_same _ _ r1 u2 r2 u3 (by rw [r3, u4])
def kP : Nat := 3169
theorem kP_is : kP = 3169 := rfl
theorem sgn_pos (z : Int) : sgnZ z ≤ 0 ↔ z ≤ 0 := by
  unfold sgnZ
  rcases Int.lt_trichotomy z 0 with h | h | h <;> split <;> (try split) <;> omega
theorem small_P {z P : Int} (e : z = P * ((2 ^ kH : Nat) : Int)) (h : (z.natAbs : Int) - ((2 ^ kP : Nat) : Int) ≤ 0) : P.natAbs ≤ 2251799813685248 * 2 ^ kG := by
  have e2 : z.natAbs = P.natAbs * 2 ^ kH := by rw [e, abs_sc]
  have e3 : 2 ^ kP = (2251799813685248 * 2 ^ kG) * 2 ^ kH := by
    rw [show (2251799813685248 : Nat) = 2 ^ 51 by decide, ← Nat.pow_add, ← Nat.pow_add]
    congr 1
  have h2 : P.natAbs * 2 ^ kH ≤ (2251799813685248 * 2 ^ kG) * 2 ^ kH := by rw [← e2, ← e3]; omega
  exact Nat.le_of_mul_le_mul_right h2 (Nat.two_pow_pos _)
theorem xfieldE (q : Option Addr) (e : Int) (w : World) : (Instr.field 34 (.agg #[.pointer q, .int .i64 e]) 1).run Tryz.prog w = .ok (.int .i64 e) w := by kernel_rfl
theorem sgn_gt {z : Int} (h : 0 < z) : sgnZ z = 1 := by
  unfold sgnZ
  split
  · omega
  · split <;> omega
theorem sgn_ne {z : Int} (h : z ≠ 0) : sgnZ z = 1 ∨ sgnZ z = -1 := by
  unfold sgnZ
  split
  · omega
  · split <;> omega
set_option maxRecDepth 4000 in
set_option maxHeartbeats 4000000 in
theorem way_far (a b : Nat) (Z : Int) (w : World) (HZ : Hid (sv a * sv b = Z)) (HA : Hid (Calls Tryz.prog 17 #[] w fun r w' => r = .returned (.bool true) ∧ Below w.heap.size w w'))
    (HBA : Hid (∀ W : World, Calls Tryz.prog 18 #[.float .f64 a, .int .i64 995] W fun r w' => r = .returned (.bool true) ∧ w' = W))
    (HBB : Hid (∀ W : World, Calls Tryz.prog 18 #[.float .f64 b, .int .i64 995] W fun r w' => r = .returned (.bool true) ∧ w' = W))
    (HO1 : Hid (∀ W : World, Calls Tryz.prog 19 #[.float .f64 a] W fun r w' => ∃ p e, r = .returned (.agg #[.pointer (some ⟨p, 0, none⟩), .int .i64 e]) ∧ (-1074 ≤ e ∧ e ≤ 2000) ∧ ExV w' p e (-1074) (sv a) 2 ∧ Below W.heap.size W w'))
    (HO2 : Hid (∀ W : World, Calls Tryz.prog 19 #[.float .f64 b] W fun r w' => ∃ p e, r = .returned (.agg #[.pointer (some ⟨p, 0, none⟩), .int .i64 e]) ∧ (-1074 ≤ e ∧ e ≤ 2000) ∧ ExV w' p e (-1074) (sv b) 2 ∧ Below W.heap.size W w'))
    (K : Int) (HPOW : Hid (∀ W : World, Calls Tryz.prog 23 #[.int .i64 1021] W fun r w' => ∃ q, r = .returned (.agg #[.pointer (some ⟨q, 0, none⟩), .int .i64 1021]) ∧ ExV w' q 1021 (-2148) K 2 ∧ Below W.heap.size W w')) (C : Int) (hC : C = 1) (HC : Hid (sgnZ ((Z.natAbs : Int) - K) = C))
    : Calls Tryz.prog 4 #[.int .u64 a, .int .u64 b] w fun r w' => r = .returned (.bool true) ∧ Below w.heap.size w w' := by
  have hfl := xfieldE
  have hfl0 := xfield
  subst hC
  go_enter Tryz.func4, Tryz.ntmps4
  go_wp2_with fail
  refine HA.out.mono ?_
  rintro r w1 ⟨rfl, hb1⟩
  have HB1 := hid hb1
  clear hb1
  go_wp2_with (first | (go_at_call 5; refine (lawf4 _ _).mono ?_; rintro r w9 ⟨rfl, rfl⟩))
  refine (HBA.out _).mono ?_
  rintro r w2 ⟨rfl, rfl⟩
  go_wp2_with fail
  refine (HBB.out _).mono ?_
  rintro r w2 ⟨rfl, rfl⟩
  go_wp2_with fail
  refine (HO1.out _).mono ?_
  rintro r w3 ⟨p1, e1, rfl, ⟨b1, b1'⟩, hx1, hb3⟩
  have HX1 := hid hx1
  have HB3 := hid (HB1.out.trans (hb3.mono HB1.out.size))
  clear hx1 hb3
  go_wp2_with fail
  refine (HO2.out _).mono ?_
  rintro r w4 ⟨p2, e2, rfl, ⟨b2, b2'⟩, hx2, hb4⟩
  have HX1 := hid (HX1.out.below hb4)
  have HX2 := hid hx2
  have HB4 := hid (HB3.out.trans (hb4.mono HB3.out.size))
  clear hx2 hb4
  go_wp2_with fail
  refine (xMul_val p1 p2 _ _ e1 e2 _ _ _ _ _ HX1.out HX2.out (by decide) (by decide) (by decide) (by omega)).mono ?_
  obtain ⟨E, hE⟩ : ∃ E, Hid (e1 + e2 = E) := ⟨_, rfl⟩
  have hE1 : -2148 ≤ E := by rw [← hE.out]; omega
  have hE2 : E ≤ 5000 := by rw [← hE.out]; omega
  rw [hE.out, HZ.out]
  rintro r w5 ⟨q, rfl, hx5, hb5⟩
  have HB5 := hid (HB4.out.trans (hb5.mono HB4.out.size))
  obtain ⟨V, hV⟩ : ∃ V, Hid (w5.alloc (XBox (some ⟨q, 0, none⟩) E) = V) := ⟨_, rfl⟩
  have HBV : Hid (Below w.heap.size w V) := by rw [← hV.out]; exact HB5.out.alloc HB5.out.size _
  have HXV : Hid (ExV V q E (-2148) Z 4) := hx5.below (by rw [← hV.out]; exact (Below.refl _ _).alloc (Nat.le_refl _) _)
  have HG : Hid (∀ W, Below V.heap.size V W → W.cell? ⟨w5.heap.size, 0, none⟩ = some (.pointer (some ⟨q, 0, none⟩)) ∧ W.cell? ⟨w5.heap.size, 1, none⟩ = some (.int .i64 E) ∧ ExV W q E (-2148) Z 4 ∧ Below w.heap.size w W) := fun W hW => by
    have h1 : W.heap[w5.heap.size]? = some (XBox (some ⟨q, 0, none⟩) E) := by
      rw [hW.block _ (by rw [← hV.out]; simp), ← hV.out]
      exact new_blk _ _ _ rfl
    obtain ⟨z0, z1, _⟩ := xcells_of (show W.heap[w5.heap.size]? = some (.cells #[.pointer (some ⟨q, 0, none⟩), .int .i64 E] 34) from h1)
    exact ⟨z0, z1, HXV.out.below hW, HBV.out.trans (hW.mono HBV.out.size)⟩
  obtain ⟨z0, z1, _, _⟩ := HG.out V (Below.refl _ _)
  unfold XBox at hV
  have hV' := hV.out
  clear hx5 hb5 b1 b1' b2 b2' HX1 HX2
  go_wp2_with fail
  refine (xAbs_val q _ E _ Z _ HXV.out (by decide)).mono ?_
  rintro r w6 ⟨q6, rfl, hx6, hb6⟩
  have HX6 := hid hx6
  have HV6 := hid hb6
  clear hx6 hb6 z0 z1
  go_wp2_with fail
  refine (HPOW.out _).mono ?_
  rintro r w7 ⟨q7, rfl, hn7, hb7⟩
  have HX7 := hid hn7
  have HX6 := hid (HX6.out.below hb7)
  have HV7 := hid (HV6.out.trans (hb7.mono HV6.out.size))
  clear hn7 hb7
  go_wp2_with fail
  refine (xCmp_val q6 q7 _ _ E 1021 _ _ _ _ HX6.out HX7.out (by decide) (by decide) (by omega) (by decide)).mono ?_
  rw [HC.out]
  rintro r w8 ⟨rfl, hb8⟩
  have HV8 := hid (HV7.out.trans (hb8.mono HV7.out.size))
  obtain ⟨z0, z1, hx8, hb8'⟩ := HG.out _ HV8.out
  have HX8 := hid hx8
  have HB8 := hid hb8'
  clear hb8 hb8' hx8 HX6 HX7
  go_wp2
  go_ret
  exact ⟨rfl, HB8.out⟩
set_option maxRecDepth 4000 in
set_option maxHeartbeats 4000000 in
theorem way_nil (a b : Nat) (Z : Int) (w : World) (HZ : Hid (sv a * sv b = Z)) (HA : Hid (Calls Tryz.prog 17 #[] w fun r w' => r = .returned (.bool true) ∧ Below w.heap.size w w'))
    (HBA : Hid (∀ W : World, Calls Tryz.prog 18 #[.float .f64 a, .int .i64 995] W fun r w' => r = .returned (.bool true) ∧ w' = W))
    (HBB : Hid (∀ W : World, Calls Tryz.prog 18 #[.float .f64 b, .int .i64 995] W fun r w' => r = .returned (.bool true) ∧ w' = W))
    (HO1 : Hid (∀ W : World, Calls Tryz.prog 19 #[.float .f64 a] W fun r w' => ∃ p e, r = .returned (.agg #[.pointer (some ⟨p, 0, none⟩), .int .i64 e]) ∧ (-1074 ≤ e ∧ e ≤ 2000) ∧ ExV w' p e (-1074) (sv a) 2 ∧ Below W.heap.size W w'))
    (HO2 : Hid (∀ W : World, Calls Tryz.prog 19 #[.float .f64 b] W fun r w' => ∃ p e, r = .returned (.agg #[.pointer (some ⟨p, 0, none⟩), .int .i64 e]) ∧ (-1074 ≤ e ∧ e ≤ 2000) ∧ ExV w' p e (-1074) (sv b) 2 ∧ Below W.heap.size W w'))
    (K : Int) (HPOW : Hid (∀ W : World, Calls Tryz.prog 23 #[.int .i64 1021] W fun r w' => ∃ q, r = .returned (.agg #[.pointer (some ⟨q, 0, none⟩), .int .i64 1021]) ∧ ExV w' q 1021 (-2148) K 2 ∧ Below W.heap.size W w')) (C : Int) (hC : C ≤ 0) (HC : Hid (sgnZ ((Z.natAbs : Int) - K) = C))
    (S : Int) (hS : S = 0) (HSZ : Hid (sgnZ Z = S))
    (p u h : Nat) (HPR : Hid (∀ W, Calls Tryz.prog 13 #[.float .f64 a, .float .f64 b] W fun z w' => z = .returned (.tuple #[.float .f64 p, .float .f64 u]) ∧ Below W.heap.size W w'))
    (HFU : Hid (∀ W, Calls Tryz.prog 15 #[.float .f64 a, .float .f64 b] W fun z w' => z = .returned (.tuple #[.float .f64 p, .float .f64 h]) ∧ Below W.heap.size W w'))
    (HF1 : Hid (∀ W, Calls Tryz.prog 26 #[.float .f64 p] W fun r w' => r = .returned (.bool true) ∧ w' = W))
    (HF2 : Hid (∀ W, Calls Tryz.prog 26 #[.float .f64 u] W fun r w' => r = .returned (.bool true) ∧ w' = W))
    (HS1 : Hid (∀ W, Calls Tryz.prog 27 #[.float .f64 p, .float .f64 u] W fun z w' => ∃ q e, z = .returned (.agg #[.pointer (some ⟨q, 0, none⟩), .int .i64 e]) ∧ (-1074 ≤ e ∧ e ≤ 2000) ∧ ExV w' q e (-2148) Z 4002 ∧ Below W.heap.size W w'))
    (HQ1 : Hid (FloatKind.f64.format.order p p = some .eq)) (HQ2 : Hid (FloatKind.f64.format.order u h = some .eq))
    : Calls Tryz.prog 4 #[.int .u64 a, .int .u64 b] w fun r w' => r = .returned (.bool true) ∧ Below w.heap.size w w' := by
  have hfl := xfieldE
  have hfl0 := xfield
  have h1 := f64bits
  subst hS
  go_enter Tryz.func4, Tryz.ntmps4
  go_wp2_with fail
  refine HA.out.mono ?_
  rintro r w1 ⟨rfl, hb1⟩
  have HB1 := hid hb1
  clear hb1
  go_wp2_with (first | (go_at_call 5; refine (lawf4 _ _).mono ?_; rintro r w9 ⟨rfl, rfl⟩))
  refine (HBA.out _).mono ?_
  rintro r w2 ⟨rfl, rfl⟩
  go_wp2_with fail
  refine (HBB.out _).mono ?_
  rintro r w2 ⟨rfl, rfl⟩
  go_wp2_with fail
  refine (HO1.out _).mono ?_
  rintro r w3 ⟨p1, e1, rfl, ⟨b1, b1'⟩, hx1, hb3⟩
  have HX1 := hid hx1
  have HB3 := hid (HB1.out.trans (hb3.mono HB1.out.size))
  clear hx1 hb3
  go_wp2_with fail
  refine (HO2.out _).mono ?_
  rintro r w4 ⟨p2, e2, rfl, ⟨b2, b2'⟩, hx2, hb4⟩
  have HX1 := hid (HX1.out.below hb4)
  have HX2 := hid hx2
  have HB4 := hid (HB3.out.trans (hb4.mono HB3.out.size))
  clear hx2 hb4
  go_wp2_with fail
  refine (xMul_val p1 p2 _ _ e1 e2 _ _ _ _ _ HX1.out HX2.out (by decide) (by decide) (by decide) (by omega)).mono ?_
  obtain ⟨E, hE⟩ : ∃ E, Hid (e1 + e2 = E) := ⟨_, rfl⟩
  have hE1 : -2148 ≤ E := by rw [← hE.out]; omega
  have hE2 : E ≤ 5000 := by rw [← hE.out]; omega
  rw [hE.out, HZ.out]
  rintro r w5 ⟨q, rfl, hx5, hb5⟩
  have HB5 := hid (HB4.out.trans (hb5.mono HB4.out.size))
  obtain ⟨V, hV⟩ : ∃ V, Hid (w5.alloc (XBox (some ⟨q, 0, none⟩) E) = V) := ⟨_, rfl⟩
  have HBV : Hid (Below w.heap.size w V) := by rw [← hV.out]; exact HB5.out.alloc HB5.out.size _
  have HXV : Hid (ExV V q E (-2148) Z 4) := hx5.below (by rw [← hV.out]; exact (Below.refl _ _).alloc (Nat.le_refl _) _)
  have HG : Hid (∀ W, Below V.heap.size V W → W.cell? ⟨w5.heap.size, 0, none⟩ = some (.pointer (some ⟨q, 0, none⟩)) ∧ W.cell? ⟨w5.heap.size, 1, none⟩ = some (.int .i64 E) ∧ ExV W q E (-2148) Z 4 ∧ Below w.heap.size w W) := fun W hW => by
    have h1 : W.heap[w5.heap.size]? = some (XBox (some ⟨q, 0, none⟩) E) := by
      rw [hW.block _ (by rw [← hV.out]; simp), ← hV.out]
      exact new_blk _ _ _ rfl
    obtain ⟨z0, z1, _⟩ := xcells_of (show W.heap[w5.heap.size]? = some (.cells #[.pointer (some ⟨q, 0, none⟩), .int .i64 E] 34) from h1)
    exact ⟨z0, z1, HXV.out.below hW, HBV.out.trans (hW.mono HBV.out.size)⟩
  obtain ⟨z0, z1, _, _⟩ := HG.out V (Below.refl _ _)
  unfold XBox at hV
  have hV' := hV.out
  clear hx5 hb5 b1 b1' b2 b2' HX1 HX2
  go_wp2_with fail
  refine (xAbs_val q _ E _ Z _ HXV.out (by decide)).mono ?_
  rintro r w6 ⟨q6, rfl, hx6, hb6⟩
  have HX6 := hid hx6
  have HV6 := hid hb6
  clear hx6 hb6 z0 z1
  go_wp2_with fail
  refine (HPOW.out _).mono ?_
  rintro r w7 ⟨q7, rfl, hn7, hb7⟩
  have HX7 := hid hn7
  have HX6 := hid (HX6.out.below hb7)
  have HV7 := hid (HV6.out.trans (hb7.mono HV6.out.size))
  clear hn7 hb7
  go_wp2_with fail
  refine (xCmp_val q6 q7 _ _ E 1021 _ _ _ _ HX6.out HX7.out (by decide) (by decide) (by omega) (by decide)).mono ?_
  rw [HC.out]
  rintro r w8 ⟨rfl, hb8⟩
  have HV8 := hid (HV7.out.trans (hb8.mono HV7.out.size))
  obtain ⟨z0, z1, hx8, hb8'⟩ := HG.out _ HV8.out
  have HX8 := hid hx8
  have HB8 := hid hb8'
  clear hb8 hb8' hx8 HX6 HX7
  obtain ⟨v, k, nv1, nv2, nv3⟩ := HX8.out
  have HNV := hid nv1
  have hsv : sgnZ v = sgnZ Z := by rw [nv3, xsgn]
  clear nv1 nv2 nv3
  go_wp2_with fail
  refine (NSign q v 4 _ HNV.out).mono ?_
  rw [hsv, HSZ.out]
  rintro r w9 ⟨rfl, rfl⟩
  go_wp2_with fail
  refine (HPR.out _).mono ?_
  rintro r w11 ⟨rfl, hb11⟩
  have HV11 := hid (HV8.out.trans (hb11.mono HV8.out.size))
  clear hb11 z0 z1
  go_wp2_with fail
  refine (HFU.out _).mono ?_
  rintro r w12 ⟨rfl, hb12⟩
  have HV12 := hid (HV11.out.trans (hb12.mono HV11.out.size))
  clear hb12
  have HKS : Hid (∀ W, Hid (Below V.heap.size V W) → (fun W => (W.cell? ⟨w5.heap.size, 0, none⟩ = some (.pointer (some ⟨q, 0, none⟩)) ∧ W.cell? ⟨w5.heap.size, 1, none⟩ = some (.int .i64 E)) ∧ Hid (Below V.heap.size V W)) W) := fun W hW => ⟨⟨(HG.out W hW.out).1, (HG.out W hW.out).2.1⟩, hW⟩
  have HQ0 : Hid (Below V.heap.size V w12.drew) := HV12.out.drew
  go_wp2_with fail
  refine wp_region_held_drew (S := (fun W => (W.cell? ⟨w5.heap.size, 0, none⟩ = some (.pointer (some ⟨q, 0, none⟩)) ∧ W.cell? ⟨w5.heap.size, 1, none⟩ = some (.int .i64 E)) ∧ Hid (Below V.heap.size V W))) (by kernel_rfl) (HKS.out _ HQ0) (fun hHeld => ?_)
  refine take_at 0 60 (.float .f64 p) rfl rfl (by kernel_rfl) (by kernel_rfl) (by kernel_rfl) (fun _ _ _ h => h) (Or.inl ⟨by rfl, fun w hSw => by (try dsimp only at hSw); go_simp⟩) (by assumption) ?_
  simp only [Act.put, List.setIfInBounds_toArray, List.set_cons_zero, List.set_cons_succ]
  refine wpAnyH_ready (rs := [1]) (by kernel_rfl) (by simp) ?_
  refine AllReadyH.cons (o := _) rfl (fun K hK => ?_) AllReadyH.nil
  go_simp
  refine (HF1.out _).mono ?_
  rintro z v1 ⟨rfl, rfl⟩
  go_wp2_with fail
  refine hK.out _ _ (HKS.out _ HQ0) (fun hHeld1 => ?_)
  clear hK K
  try simp only [Act.put, List.setIfInBounds_toArray, List.set_cons_zero, List.set_cons_succ]
  refine take_at 2 62 (.bool true) rfl rfl (by kernel_rfl) (by kernel_rfl) (by kernel_rfl) (fun _ _ _ h => h) (Or.inl ⟨by rfl, fun w hSw => by (try dsimp only at hSw); go_simp⟩) (by assumption) ?_
  simp only [Act.put, List.setIfInBounds_toArray, List.set_cons_zero, List.set_cons_succ]
  refine take_at 3 63 (.float .f64 u) rfl rfl (by kernel_rfl) (by kernel_rfl) (by kernel_rfl) (fun _ _ _ h => h) (Or.inl ⟨by rfl, fun w hSw => by (try dsimp only at hSw); go_simp⟩) (by assumption) ?_
  simp only [Act.put, List.setIfInBounds_toArray, List.set_cons_zero, List.set_cons_succ]
  refine wpAnyH_ready (rs := [4]) (by kernel_rfl) (by simp) ?_
  refine AllReadyH.cons (o := _) rfl (fun K hK => ?_) AllReadyH.nil
  go_simp
  refine (HF2.out _).mono ?_
  rintro z v2 ⟨rfl, rfl⟩
  go_wp2_with fail
  refine hK.out _ _ (HKS.out _ HQ0) (fun hHeld2 => ?_)
  clear hK K
  try simp only [Act.put, List.setIfInBounds_toArray, List.set_cons_zero, List.set_cons_succ]
  refine take_at 5 65 (.bool true) rfl rfl (by kernel_rfl) (by kernel_rfl) (by kernel_rfl) (fun _ _ _ h => h) (Or.inl ⟨by rfl, fun w hSw => by (try dsimp only at hSw); go_simp⟩) (by assumption) ?_
  simp only [Act.put, List.setIfInBounds_toArray, List.set_cons_zero, List.set_cons_succ]
  refine take_at 6 66 (.bool true) rfl rfl (by kernel_rfl) (by kernel_rfl) (by kernel_rfl) (fun _ _ _ h => h) (Or.inl ⟨by rfl, fun w hSw => by (try dsimp only at hSw); go_simp⟩) (by assumption) ?_
  simp only [Act.put, List.setIfInBounds_toArray, List.set_cons_zero, List.set_cons_succ]
  refine take_at 7 67 (.float .f64 p) rfl rfl (by kernel_rfl) (by kernel_rfl) (by kernel_rfl) (fun _ _ _ h => h) (Or.inl ⟨by rfl, fun w hSw => by (try dsimp only at hSw); go_simp⟩) (by assumption) ?_
  simp only [Act.put, List.setIfInBounds_toArray, List.set_cons_zero, List.set_cons_succ]
  refine take_at 8 68 (.float .f64 u) rfl rfl (by kernel_rfl) (by kernel_rfl) (by kernel_rfl) (fun _ _ _ h => h) (Or.inl ⟨by rfl, fun w hSw => by (try dsimp only at hSw); go_simp⟩) (by assumption) ?_
  simp only [Act.put, List.setIfInBounds_toArray, List.set_cons_zero, List.set_cons_succ]
  refine take_at 10 70 (.agg #[.pointer (some ⟨q, 0, none⟩), .int .i64 E]) rfl rfl (by kernel_rfl) (by kernel_rfl) (by kernel_rfl) (fun _ _ _ h => h) (Or.inl ⟨by rfl, fun w hSw => by (try dsimp only at hSw); go_simp⟩) (by assumption) ?_
  simp only [Act.put, List.setIfInBounds_toArray, List.set_cons_zero, List.set_cons_succ]
  refine wpAnyH_ready (rs := [9]) (by kernel_rfl) (by simp) ?_
  refine AllReadyH.cons (o := _) rfl (fun K hK => ?_) AllReadyH.nil
  go_simp
  refine (HS1.out _).mono ?_
  rintro z v3 ⟨q14, e14, rfl, ⟨b14, b14'⟩, hx14, hb14⟩
  have HV14 : Hid (Below V.heap.size V v3) := HQ0.out.trans (hb14.mono HQ0.out.size)
  have HX14 := hid hx14
  clear hx14 hb14
  go_wp2_with fail
  refine hK.out _ _ (HKS.out _ HV14) (fun hHeld3 => ?_)
  clear hK K
  try simp only [Act.put, List.setIfInBounds_toArray, List.set_cons_zero, List.set_cons_succ]
  refine wpAnyH_ready (rs := [11]) (by kernel_rfl) (by simp) ?_
  refine AllReadyH.cons (o := _) rfl (fun K hK => ?_) AllReadyH.nil
  go_simp
  refine (xCmp_val q14 q _ _ e14 E _ _ _ _ HX14.out (HG.out _ HV14.out).2.2.1 (by decide) (by decide) (by omega) (by omega)).mono ?_
  rw [Int.sub_self, show sgnZ 0 = 0 from rfl]
  rintro z v4 ⟨rfl, hb16⟩
  have HV16 : Hid (Below V.heap.size V v4) := HV14.out.trans (hb16.mono HV14.out.size)
  clear hb16
  go_wp2_with fail
  refine hK.out _ _ (HKS.out _ HV16) (fun hHeld4 => ?_)
  clear hK K
  try simp only [Act.put, List.setIfInBounds_toArray, List.set_cons_zero, List.set_cons_succ]
  refine take_at 12 72 (.bool true) rfl rfl (by kernel_rfl) (by kernel_rfl) (by kernel_rfl) (fun _ _ _ h => h) (Or.inl ⟨by rfl, fun w hSw => by (try dsimp only at hSw); go_simp⟩) (by assumption) ?_
  simp only [Act.put, List.setIfInBounds_toArray, List.set_cons_zero, List.set_cons_succ]
  refine take_at 13 73 (.bool true) rfl rfl (by kernel_rfl) (by kernel_rfl) (by kernel_rfl) (fun _ _ _ h => h) (Or.inl ⟨by rfl, fun w hSw => by (try dsimp only at hSw); go_simp⟩) (by assumption) ?_
  simp only [Act.put, List.setIfInBounds_toArray, List.set_cons_zero, List.set_cons_succ]
  refine take_at 14 74 (.bool true) rfl rfl (by kernel_rfl) (by kernel_rfl) (by kernel_rfl) (fun _ _ _ h => h) (Or.inl ⟨by rfl, fun w hSw => by (try dsimp only at hSw); go_simp⟩) (by assumption) ?_
  simp only [Act.put, List.setIfInBounds_toArray, List.set_cons_zero, List.set_cons_succ]
  refine take_at 15 75 (.float .f64 p) rfl rfl (by kernel_rfl) (by kernel_rfl) (by kernel_rfl) (fun _ _ _ h => h) (Or.inl ⟨by rfl, fun w hSw => by (try dsimp only at hSw); go_simp⟩) (by assumption) ?_
  simp only [Act.put, List.setIfInBounds_toArray, List.set_cons_zero, List.set_cons_succ]
  refine take_at 16 76 (.float .f64 p) rfl rfl (by kernel_rfl) (by kernel_rfl) (by kernel_rfl) (fun _ _ _ h => h) (Or.inl ⟨by rfl, fun w hSw => by (try dsimp only at hSw); go_simp⟩) (by assumption) ?_
  simp only [Act.put, List.setIfInBounds_toArray, List.set_cons_zero, List.set_cons_succ]
  refine wpAnyH_ready (rs := [17]) (by kernel_rfl) (by simp) ?_
  refine AllReadyH.cons (o := _) rfl (fun K hK => ?_) AllReadyH.nil
  go_simp
  refine (alike_any _ _ _ HQ1.out).mono ?_
  rintro z v5 ⟨rfl, rfl⟩
  go_wp2_with fail
  refine hK.out _ _ (HKS.out _ HV16) (fun hHeld5 => ?_)
  clear hK K
  try simp only [Act.put, List.setIfInBounds_toArray, List.set_cons_zero, List.set_cons_succ]
  refine take_at 18 78 (.bool true) rfl rfl (by kernel_rfl) (by kernel_rfl) (by kernel_rfl) (fun _ _ _ h => h) (Or.inl ⟨by rfl, fun w hSw => by (try dsimp only at hSw); go_simp⟩) (by assumption) ?_
  simp only [Act.put, List.setIfInBounds_toArray, List.set_cons_zero, List.set_cons_succ]
  refine take_at 19 79 (.bool true) rfl rfl (by kernel_rfl) (by kernel_rfl) (by kernel_rfl) (fun _ _ _ h => h) (Or.inl ⟨by rfl, fun w hSw => by (try dsimp only at hSw); go_simp⟩) (by assumption) ?_
  simp only [Act.put, List.setIfInBounds_toArray, List.set_cons_zero, List.set_cons_succ]
  refine take_at 20 80 (.float .f64 u) rfl rfl (by kernel_rfl) (by kernel_rfl) (by kernel_rfl) (fun _ _ _ h => h) (Or.inl ⟨by rfl, fun w hSw => by (try dsimp only at hSw); go_simp⟩) (by assumption) ?_
  simp only [Act.put, List.setIfInBounds_toArray, List.set_cons_zero, List.set_cons_succ]
  refine take_at 21 81 (.float .f64 h) rfl rfl (by kernel_rfl) (by kernel_rfl) (by kernel_rfl) (fun _ _ _ h => h) (Or.inl ⟨by rfl, fun w hSw => by (try dsimp only at hSw); go_simp⟩) (by assumption) ?_
  simp only [Act.put, List.setIfInBounds_toArray, List.set_cons_zero, List.set_cons_succ]
  refine wpAnyH_ready (rs := [22]) (by kernel_rfl) (by simp) ?_
  refine AllReadyH.cons (o := _) rfl (fun K hK => ?_) AllReadyH.nil
  go_simp
  refine (alike_any _ _ _ HQ2.out).mono ?_
  rintro z v6 ⟨rfl, rfl⟩
  go_wp2_with fail
  refine hK.out _ _ (HKS.out _ HV16) (fun hHeld6 => ?_)
  clear hK K
  try simp only [Act.put, List.setIfInBounds_toArray, List.set_cons_zero, List.set_cons_succ]
  refine take_at 23 83 (.bool true) rfl rfl (by kernel_rfl) (by kernel_rfl) (by kernel_rfl) (fun _ _ _ h => h) (Or.inl ⟨by rfl, fun w hSw => by (try dsimp only at hSw); go_simp⟩) (by assumption) ?_
  simp only [Act.put, List.setIfInBounds_toArray, List.set_cons_zero, List.set_cons_succ]
  refine take_at 24 84 (.bool true) rfl rfl (by kernel_rfl) (by kernel_rfl) (by kernel_rfl) (fun _ _ _ h => h) (Or.inl ⟨by rfl, fun w hSw => by (try dsimp only at hSw); go_simp⟩) (by assumption) ?_
  simp only [Act.put, List.setIfInBounds_toArray, List.set_cons_zero, List.set_cons_succ]
  refine take_at 25 85 (.float .f64 p) rfl rfl (by kernel_rfl) (by kernel_rfl) (by kernel_rfl) (fun _ _ _ h => h) (Or.inl ⟨by rfl, fun w hSw => by (try dsimp only at hSw); go_simp⟩) (by assumption) ?_
  simp only [Act.put, List.setIfInBounds_toArray, List.set_cons_zero, List.set_cons_succ]
  refine take_at 27 87 (.float .f64 p) rfl rfl (by kernel_rfl) (by kernel_rfl) (by kernel_rfl) (fun _ _ _ h => h) (Or.inl ⟨by rfl, fun w hSw => by (try dsimp only at hSw); go_simp⟩) (by assumption) ?_
  simp only [Act.put, List.setIfInBounds_toArray, List.set_cons_zero, List.set_cons_succ]
  refine wpAnyH_ready (rs := [26]) (by kernel_rfl) (by simp) ?_
  refine AllReadyH.cons (o := _) rfl (fun K hK => ?_) AllReadyH.nil
  go_simp
  go_wp2_with fail
  refine hK.out _ _ (HKS.out _ HV16) (fun hHeld7 => ?_)
  clear hK K
  try simp only [Act.put, List.setIfInBounds_toArray, List.set_cons_zero, List.set_cons_succ]
  refine wpAnyH_ready (rs := [28]) (by kernel_rfl) (by simp) ?_
  refine AllReadyH.cons (o := _) rfl (fun K hK => ?_) AllReadyH.nil
  go_simp
  go_wp2_with fail
  refine hK.out _ _ (HKS.out _ HV16) (fun hHeld8 => ?_)
  clear hK K
  try simp only [Act.put, List.setIfInBounds_toArray, List.set_cons_zero, List.set_cons_succ]
  refine take_at 29 89 (.bool true) rfl rfl (by kernel_rfl) (by kernel_rfl) (by kernel_rfl) (fun _ _ _ h => h) (Or.inl ⟨by rfl, fun w hSw => by (try dsimp only at hSw); go_simp⟩) (by assumption) ?_
  simp only [Act.put, List.setIfInBounds_toArray, List.set_cons_zero, List.set_cons_succ]
  refine take_at 30 90 (.bool true) rfl rfl (by kernel_rfl) (by kernel_rfl) (by kernel_rfl) (fun _ _ _ h => h) (Or.inl ⟨by rfl, fun w hSw => by (try dsimp only at hSw); go_simp⟩) (by assumption) ?_
  simp only [Act.put, List.setIfInBounds_toArray, List.set_cons_zero, List.set_cons_succ]
  refine take_at 31 4 (.bool true) rfl rfl (by kernel_rfl) (by kernel_rfl) (by kernel_rfl) (fun _ _ _ h => h) (Or.inl ⟨by rfl, fun w hSw => by (try dsimp only at hSw); go_simp⟩) (by assumption) ?_
  simp only [Act.put, List.setIfInBounds_toArray, List.set_cons_zero, List.set_cons_succ]
  refine wpAnyH_done (by kernel_rfl) ?_ _
  go_wp2
  go_ret
  exact ⟨rfl, (HG.out _ HV16.out).2.2.2⟩
set_option maxRecDepth 4000 in
set_option maxHeartbeats 4000000 in
theorem way_fine (a b : Nat) (Z : Int) (w : World) (HZ : Hid (sv a * sv b = Z)) (HA : Hid (Calls Tryz.prog 17 #[] w fun r w' => r = .returned (.bool true) ∧ Below w.heap.size w w'))
    (HT : Hid (∀ W, Below w.heap.size w W → Tab32 W ∧ 1 < W.heap.size))
    (HBA : Hid (∀ W : World, Calls Tryz.prog 18 #[.float .f64 a, .int .i64 995] W fun r w' => r = .returned (.bool true) ∧ w' = W))
    (HBB : Hid (∀ W : World, Calls Tryz.prog 18 #[.float .f64 b, .int .i64 995] W fun r w' => r = .returned (.bool true) ∧ w' = W))
    (HO1 : Hid (∀ W : World, Calls Tryz.prog 19 #[.float .f64 a] W fun r w' => ∃ p e, r = .returned (.agg #[.pointer (some ⟨p, 0, none⟩), .int .i64 e]) ∧ (-1074 ≤ e ∧ e ≤ 2000) ∧ ExV w' p e (-1074) (sv a) 2 ∧ Below W.heap.size W w'))
    (HO2 : Hid (∀ W : World, Calls Tryz.prog 19 #[.float .f64 b] W fun r w' => ∃ p e, r = .returned (.agg #[.pointer (some ⟨p, 0, none⟩), .int .i64 e]) ∧ (-1074 ≤ e ∧ e ≤ 2000) ∧ ExV w' p e (-1074) (sv b) 2 ∧ Below W.heap.size W w'))
    (K : Int) (HPOW : Hid (∀ W : World, Calls Tryz.prog 23 #[.int .i64 1021] W fun r w' => ∃ q, r = .returned (.agg #[.pointer (some ⟨q, 0, none⟩), .int .i64 1021]) ∧ ExV w' q 1021 (-2148) K 2 ∧ Below W.heap.size W w')) (C : Int) (hC : C ≤ 0) (HC : Hid (sgnZ ((Z.natAbs : Int) - K) = C))
    (S : Int) (hS : S ≠ 0) (HSZ : Hid (sgnZ Z = S))
    (HOD : Hid (∀ W q e bd, OddV W q e (-2148) Z bd → e < -1074))
    : Calls Tryz.prog 4 #[.int .u64 a, .int .u64 b] w fun r w' => r = .returned (.bool true) ∧ Below w.heap.size w w' := by
  have hfl := xfieldE
  have hfl0 := xfield
  have hS2 : (S != 0) = true := by simpa using hS
  go_enter Tryz.func4, Tryz.ntmps4
  go_wp2_with fail
  refine HA.out.mono ?_
  rintro r w1 ⟨rfl, hb1⟩
  have HB1 := hid hb1
  clear hb1
  go_wp2_with (first | (go_at_call 5; refine (lawf4 _ _).mono ?_; rintro r w9 ⟨rfl, rfl⟩))
  refine (HBA.out _).mono ?_
  rintro r w2 ⟨rfl, rfl⟩
  go_wp2_with fail
  refine (HBB.out _).mono ?_
  rintro r w2 ⟨rfl, rfl⟩
  go_wp2_with fail
  refine (HO1.out _).mono ?_
  rintro r w3 ⟨p1, e1, rfl, ⟨b1, b1'⟩, hx1, hb3⟩
  have HX1 := hid hx1
  have HB3 := hid (HB1.out.trans (hb3.mono HB1.out.size))
  clear hx1 hb3
  go_wp2_with fail
  refine (HO2.out _).mono ?_
  rintro r w4 ⟨p2, e2, rfl, ⟨b2, b2'⟩, hx2, hb4⟩
  have HX1 := hid (HX1.out.below hb4)
  have HX2 := hid hx2
  have HB4 := hid (HB3.out.trans (hb4.mono HB3.out.size))
  clear hx2 hb4
  go_wp2_with fail
  refine (xMul_val p1 p2 _ _ e1 e2 _ _ _ _ _ HX1.out HX2.out (by decide) (by decide) (by decide) (by omega)).mono ?_
  obtain ⟨E, hE⟩ : ∃ E, Hid (e1 + e2 = E) := ⟨_, rfl⟩
  have hE1 : -2148 ≤ E := by rw [← hE.out]; omega
  have hE2 : E ≤ 5000 := by rw [← hE.out]; omega
  rw [hE.out, HZ.out]
  rintro r w5 ⟨q, rfl, hx5, hb5⟩
  have HB5 := hid (HB4.out.trans (hb5.mono HB4.out.size))
  obtain ⟨V, hV⟩ : ∃ V, Hid (w5.alloc (XBox (some ⟨q, 0, none⟩) E) = V) := ⟨_, rfl⟩
  have HBV : Hid (Below w.heap.size w V) := by rw [← hV.out]; exact HB5.out.alloc HB5.out.size _
  have HXV : Hid (ExV V q E (-2148) Z 4) := hx5.below (by rw [← hV.out]; exact (Below.refl _ _).alloc (Nat.le_refl _) _)
  have HG : Hid (∀ W, Below V.heap.size V W → W.cell? ⟨w5.heap.size, 0, none⟩ = some (.pointer (some ⟨q, 0, none⟩)) ∧ W.cell? ⟨w5.heap.size, 1, none⟩ = some (.int .i64 E) ∧ ExV W q E (-2148) Z 4 ∧ Below w.heap.size w W) := fun W hW => by
    have h1 : W.heap[w5.heap.size]? = some (XBox (some ⟨q, 0, none⟩) E) := by
      rw [hW.block _ (by rw [← hV.out]; simp), ← hV.out]
      exact new_blk _ _ _ rfl
    obtain ⟨z0, z1, _⟩ := xcells_of (show W.heap[w5.heap.size]? = some (.cells #[.pointer (some ⟨q, 0, none⟩), .int .i64 E] 34) from h1)
    exact ⟨z0, z1, HXV.out.below hW, HBV.out.trans (hW.mono HBV.out.size)⟩
  obtain ⟨z0, z1, _, _⟩ := HG.out V (Below.refl _ _)
  unfold XBox at hV
  have hV' := hV.out
  clear hx5 hb5 b1 b1' b2 b2' HX1 HX2
  go_wp2_with fail
  refine (xAbs_val q _ E _ Z _ HXV.out (by decide)).mono ?_
  rintro r w6 ⟨q6, rfl, hx6, hb6⟩
  have HX6 := hid hx6
  have HV6 := hid hb6
  clear hx6 hb6 z0 z1
  go_wp2_with fail
  refine (HPOW.out _).mono ?_
  rintro r w7 ⟨q7, rfl, hn7, hb7⟩
  have HX7 := hid hn7
  have HX6 := hid (HX6.out.below hb7)
  have HV7 := hid (HV6.out.trans (hb7.mono HV6.out.size))
  clear hn7 hb7
  go_wp2_with fail
  refine (xCmp_val q6 q7 _ _ E 1021 _ _ _ _ HX6.out HX7.out (by decide) (by decide) (by omega) (by decide)).mono ?_
  rw [HC.out]
  rintro r w8 ⟨rfl, hb8⟩
  have HV8 := hid (HV7.out.trans (hb8.mono HV7.out.size))
  obtain ⟨z0, z1, hx8, hb8'⟩ := HG.out _ HV8.out
  have HX8 := hid hx8
  have HB8 := hid hb8'
  clear hb8 hb8' hx8 HX6 HX7
  obtain ⟨v, k, nv1, nv2, nv3⟩ := HX8.out
  have HNV := hid nv1
  have hsv : sgnZ v = sgnZ Z := by rw [nv3, xsgn]
  clear nv1 nv2 nv3
  go_wp2_with fail
  refine (NSign q v 4 _ HNV.out).mono ?_
  rw [hsv, HSZ.out]
  rintro r w9 ⟨rfl, rfl⟩
  go_wp2_with fail
  refine (xOdd_val q _ E _ _ _ HX8.out (by decide) (by omega) (by omega) (HT.out _ HB8.out).1 (HT.out _ HB8.out).2).mono ?_
  rintro r w10 ⟨q10, e10, rfl, ho10, _, hb10⟩
  have HV10 := hid (HV8.out.trans (hb10.mono HV8.out.size))
  have he10 := HOD.out _ _ _ _ ho10
  clear hb10 ho10 z0 z1
  obtain ⟨z0, z1, hx10, hb10'⟩ := HG.out _ HV10.out
  have HX10 := hid hx10
  have HB10 := hid hb10'
  clear hx10 hb10'
  go_wp2
  go_ret
  exact ⟨rfl, HB10.out⟩
set_option maxRecDepth 4000 in
set_option maxHeartbeats 4000000 in
theorem way_good (a b : Nat) (Z : Int) (w : World) (HZ : Hid (sv a * sv b = Z)) (HA : Hid (Calls Tryz.prog 17 #[] w fun r w' => r = .returned (.bool true) ∧ Below w.heap.size w w'))
    (HT : Hid (∀ W, Below w.heap.size w W → Tab32 W ∧ 1 < W.heap.size))
    (HBA : Hid (∀ W : World, Calls Tryz.prog 18 #[.float .f64 a, .int .i64 995] W fun r w' => r = .returned (.bool true) ∧ w' = W))
    (HBB : Hid (∀ W : World, Calls Tryz.prog 18 #[.float .f64 b, .int .i64 995] W fun r w' => r = .returned (.bool true) ∧ w' = W))
    (HO1 : Hid (∀ W : World, Calls Tryz.prog 19 #[.float .f64 a] W fun r w' => ∃ p e, r = .returned (.agg #[.pointer (some ⟨p, 0, none⟩), .int .i64 e]) ∧ (-1074 ≤ e ∧ e ≤ 2000) ∧ ExV w' p e (-1074) (sv a) 2 ∧ Below W.heap.size W w'))
    (HO2 : Hid (∀ W : World, Calls Tryz.prog 19 #[.float .f64 b] W fun r w' => ∃ p e, r = .returned (.agg #[.pointer (some ⟨p, 0, none⟩), .int .i64 e]) ∧ (-1074 ≤ e ∧ e ≤ 2000) ∧ ExV w' p e (-1074) (sv b) 2 ∧ Below W.heap.size W w'))
    (K : Int) (HPOW : Hid (∀ W : World, Calls Tryz.prog 23 #[.int .i64 1021] W fun r w' => ∃ q, r = .returned (.agg #[.pointer (some ⟨q, 0, none⟩), .int .i64 1021]) ∧ ExV w' q 1021 (-2148) K 2 ∧ Below W.heap.size W w')) (C : Int) (hC : C ≤ 0) (HC : Hid (sgnZ ((Z.natAbs : Int) - K) = C))
    (S : Int) (hS : S ≠ 0) (HSZ : Hid (sgnZ Z = S))
    (HOD : Hid (∀ W q e bd, OddV W q e (-2148) Z bd → -1074 ≤ e))
    (p u h : Nat) (HPR : Hid (∀ W, Calls Tryz.prog 13 #[.float .f64 a, .float .f64 b] W fun z w' => z = .returned (.tuple #[.float .f64 p, .float .f64 u]) ∧ Below W.heap.size W w'))
    (HFU : Hid (∀ W, Calls Tryz.prog 15 #[.float .f64 a, .float .f64 b] W fun z w' => z = .returned (.tuple #[.float .f64 p, .float .f64 h]) ∧ Below W.heap.size W w'))
    (HF1 : Hid (∀ W, Calls Tryz.prog 26 #[.float .f64 p] W fun r w' => r = .returned (.bool true) ∧ w' = W))
    (HF2 : Hid (∀ W, Calls Tryz.prog 26 #[.float .f64 u] W fun r w' => r = .returned (.bool true) ∧ w' = W))
    (HS1 : Hid (∀ W, Calls Tryz.prog 27 #[.float .f64 p, .float .f64 u] W fun z w' => ∃ q e, z = .returned (.agg #[.pointer (some ⟨q, 0, none⟩), .int .i64 e]) ∧ (-1074 ≤ e ∧ e ≤ 2000) ∧ ExV w' q e (-2148) Z 4002 ∧ Below W.heap.size W w'))
    (HQ1 : Hid (FloatKind.f64.format.order p p = some .eq)) (HQ2 : Hid (FloatKind.f64.format.order u h = some .eq))
    : Calls Tryz.prog 4 #[.int .u64 a, .int .u64 b] w fun r w' => r = .returned (.bool true) ∧ Below w.heap.size w w' := by
  have hfl := xfieldE
  have hfl0 := xfield
  have h1 := f64bits
  go_enter Tryz.func4, Tryz.ntmps4
  go_wp2_with fail
  refine HA.out.mono ?_
  rintro r w1 ⟨rfl, hb1⟩
  have HB1 := hid hb1
  clear hb1
  go_wp2_with (first | (go_at_call 5; refine (lawf4 _ _).mono ?_; rintro r w9 ⟨rfl, rfl⟩))
  refine (HBA.out _).mono ?_
  rintro r w2 ⟨rfl, rfl⟩
  go_wp2_with fail
  refine (HBB.out _).mono ?_
  rintro r w2 ⟨rfl, rfl⟩
  go_wp2_with fail
  refine (HO1.out _).mono ?_
  rintro r w3 ⟨p1, e1, rfl, ⟨b1, b1'⟩, hx1, hb3⟩
  have HX1 := hid hx1
  have HB3 := hid (HB1.out.trans (hb3.mono HB1.out.size))
  clear hx1 hb3
  go_wp2_with fail
  refine (HO2.out _).mono ?_
  rintro r w4 ⟨p2, e2, rfl, ⟨b2, b2'⟩, hx2, hb4⟩
  have HX1 := hid (HX1.out.below hb4)
  have HX2 := hid hx2
  have HB4 := hid (HB3.out.trans (hb4.mono HB3.out.size))
  clear hx2 hb4
  go_wp2_with fail
  refine (xMul_val p1 p2 _ _ e1 e2 _ _ _ _ _ HX1.out HX2.out (by decide) (by decide) (by decide) (by omega)).mono ?_
  obtain ⟨E, hE⟩ : ∃ E, Hid (e1 + e2 = E) := ⟨_, rfl⟩
  have hE1 : -2148 ≤ E := by rw [← hE.out]; omega
  have hE2 : E ≤ 5000 := by rw [← hE.out]; omega
  rw [hE.out, HZ.out]
  rintro r w5 ⟨q, rfl, hx5, hb5⟩
  have HB5 := hid (HB4.out.trans (hb5.mono HB4.out.size))
  obtain ⟨V, hV⟩ : ∃ V, Hid (w5.alloc (XBox (some ⟨q, 0, none⟩) E) = V) := ⟨_, rfl⟩
  have HBV : Hid (Below w.heap.size w V) := by rw [← hV.out]; exact HB5.out.alloc HB5.out.size _
  have HXV : Hid (ExV V q E (-2148) Z 4) := hx5.below (by rw [← hV.out]; exact (Below.refl _ _).alloc (Nat.le_refl _) _)
  have HG : Hid (∀ W, Below V.heap.size V W → W.cell? ⟨w5.heap.size, 0, none⟩ = some (.pointer (some ⟨q, 0, none⟩)) ∧ W.cell? ⟨w5.heap.size, 1, none⟩ = some (.int .i64 E) ∧ ExV W q E (-2148) Z 4 ∧ Below w.heap.size w W) := fun W hW => by
    have h1 : W.heap[w5.heap.size]? = some (XBox (some ⟨q, 0, none⟩) E) := by
      rw [hW.block _ (by rw [← hV.out]; simp), ← hV.out]
      exact new_blk _ _ _ rfl
    obtain ⟨z0, z1, _⟩ := xcells_of (show W.heap[w5.heap.size]? = some (.cells #[.pointer (some ⟨q, 0, none⟩), .int .i64 E] 34) from h1)
    exact ⟨z0, z1, HXV.out.below hW, HBV.out.trans (hW.mono HBV.out.size)⟩
  obtain ⟨z0, z1, _, _⟩ := HG.out V (Below.refl _ _)
  unfold XBox at hV
  have hV' := hV.out
  clear hx5 hb5 b1 b1' b2 b2' HX1 HX2
  go_wp2_with fail
  refine (xAbs_val q _ E _ Z _ HXV.out (by decide)).mono ?_
  rintro r w6 ⟨q6, rfl, hx6, hb6⟩
  have HX6 := hid hx6
  have HV6 := hid hb6
  clear hx6 hb6 z0 z1
  go_wp2_with fail
  refine (HPOW.out _).mono ?_
  rintro r w7 ⟨q7, rfl, hn7, hb7⟩
  have HX7 := hid hn7
  have HX6 := hid (HX6.out.below hb7)
  have HV7 := hid (HV6.out.trans (hb7.mono HV6.out.size))
  clear hn7 hb7
  go_wp2_with fail
  refine (xCmp_val q6 q7 _ _ E 1021 _ _ _ _ HX6.out HX7.out (by decide) (by decide) (by omega) (by decide)).mono ?_
  rw [HC.out]
  rintro r w8 ⟨rfl, hb8⟩
  have HV8 := hid (HV7.out.trans (hb8.mono HV7.out.size))
  obtain ⟨z0, z1, hx8, hb8'⟩ := HG.out _ HV8.out
  have HX8 := hid hx8
  have HB8 := hid hb8'
  clear hb8 hb8' hx8 HX6 HX7
  obtain ⟨v, k, nv1, nv2, nv3⟩ := HX8.out
  have HNV := hid nv1
  have hsv : sgnZ v = sgnZ Z := by rw [nv3, xsgn]
  clear nv1 nv2 nv3
  go_wp2_with fail
  refine (NSign q v 4 _ HNV.out).mono ?_
  rw [hsv, HSZ.out]
  rintro r w9 ⟨rfl, rfl⟩
  go_wp2_with fail
  refine (xOdd_val q _ E _ _ _ HX8.out (by decide) (by omega) (by omega) (HT.out _ HB8.out).1 (HT.out _ HB8.out).2).mono ?_
  rintro r w10 ⟨q10, e10, rfl, ho10, _, hb10⟩
  have HV10 := hid (HV8.out.trans (hb10.mono HV8.out.size))
  have he10 := HOD.out _ _ _ _ ho10
  clear hb10 ho10 z0 z1
  obtain ⟨z0, z1, hx10, hb10'⟩ := HG.out _ HV10.out
  have HX10 := hid hx10
  have HB10 := hid hb10'
  clear hx10 hb10'
  go_wp2_with fail
  refine (HPR.out _).mono ?_
  rintro r w11 ⟨rfl, hb11⟩
  have HV11 := hid (HV10.out.trans (hb11.mono HV10.out.size))
  clear hb11 z0 z1
  go_wp2_with fail
  refine (HFU.out _).mono ?_
  rintro r w12 ⟨rfl, hb12⟩
  have HV12 := hid (HV11.out.trans (hb12.mono HV11.out.size))
  clear hb12
  have HKS : Hid (∀ W, Hid (Below V.heap.size V W) → (fun W => (W.cell? ⟨w5.heap.size, 0, none⟩ = some (.pointer (some ⟨q, 0, none⟩)) ∧ W.cell? ⟨w5.heap.size, 1, none⟩ = some (.int .i64 E)) ∧ Hid (Below V.heap.size V W)) W) := fun W hW => ⟨⟨(HG.out W hW.out).1, (HG.out W hW.out).2.1⟩, hW⟩
  have HQ0 : Hid (Below V.heap.size V w12.drew) := HV12.out.drew
  go_wp2_with fail
  refine wp_region_held_drew (S := (fun W => (W.cell? ⟨w5.heap.size, 0, none⟩ = some (.pointer (some ⟨q, 0, none⟩)) ∧ W.cell? ⟨w5.heap.size, 1, none⟩ = some (.int .i64 E)) ∧ Hid (Below V.heap.size V W))) (by kernel_rfl) (HKS.out _ HQ0) (fun hHeld => ?_)
  refine take_at 0 60 (.float .f64 p) rfl rfl (by kernel_rfl) (by kernel_rfl) (by kernel_rfl) (fun _ _ _ h => h) (Or.inl ⟨by rfl, fun w hSw => by (try dsimp only at hSw); go_simp⟩) (by assumption) ?_
  simp only [Act.put, List.setIfInBounds_toArray, List.set_cons_zero, List.set_cons_succ]
  refine wpAnyH_ready (rs := [1]) (by kernel_rfl) (by simp) ?_
  refine AllReadyH.cons (o := _) rfl (fun K hK => ?_) AllReadyH.nil
  go_simp
  refine (HF1.out _).mono ?_
  rintro z v1 ⟨rfl, rfl⟩
  go_wp2_with fail
  refine hK.out _ _ (HKS.out _ HQ0) (fun hHeld1 => ?_)
  clear hK K
  try simp only [Act.put, List.setIfInBounds_toArray, List.set_cons_zero, List.set_cons_succ]
  refine take_at 2 62 (.bool true) rfl rfl (by kernel_rfl) (by kernel_rfl) (by kernel_rfl) (fun _ _ _ h => h) (Or.inl ⟨by rfl, fun w hSw => by (try dsimp only at hSw); go_simp⟩) (by assumption) ?_
  simp only [Act.put, List.setIfInBounds_toArray, List.set_cons_zero, List.set_cons_succ]
  refine take_at 3 63 (.float .f64 u) rfl rfl (by kernel_rfl) (by kernel_rfl) (by kernel_rfl) (fun _ _ _ h => h) (Or.inl ⟨by rfl, fun w hSw => by (try dsimp only at hSw); go_simp⟩) (by assumption) ?_
  simp only [Act.put, List.setIfInBounds_toArray, List.set_cons_zero, List.set_cons_succ]
  refine wpAnyH_ready (rs := [4]) (by kernel_rfl) (by simp) ?_
  refine AllReadyH.cons (o := _) rfl (fun K hK => ?_) AllReadyH.nil
  go_simp
  refine (HF2.out _).mono ?_
  rintro z v2 ⟨rfl, rfl⟩
  go_wp2_with fail
  refine hK.out _ _ (HKS.out _ HQ0) (fun hHeld2 => ?_)
  clear hK K
  try simp only [Act.put, List.setIfInBounds_toArray, List.set_cons_zero, List.set_cons_succ]
  refine take_at 5 65 (.bool true) rfl rfl (by kernel_rfl) (by kernel_rfl) (by kernel_rfl) (fun _ _ _ h => h) (Or.inl ⟨by rfl, fun w hSw => by (try dsimp only at hSw); go_simp⟩) (by assumption) ?_
  simp only [Act.put, List.setIfInBounds_toArray, List.set_cons_zero, List.set_cons_succ]
  refine take_at 6 66 (.bool true) rfl rfl (by kernel_rfl) (by kernel_rfl) (by kernel_rfl) (fun _ _ _ h => h) (Or.inl ⟨by rfl, fun w hSw => by (try dsimp only at hSw); go_simp⟩) (by assumption) ?_
  simp only [Act.put, List.setIfInBounds_toArray, List.set_cons_zero, List.set_cons_succ]
  refine take_at 7 67 (.float .f64 p) rfl rfl (by kernel_rfl) (by kernel_rfl) (by kernel_rfl) (fun _ _ _ h => h) (Or.inl ⟨by rfl, fun w hSw => by (try dsimp only at hSw); go_simp⟩) (by assumption) ?_
  simp only [Act.put, List.setIfInBounds_toArray, List.set_cons_zero, List.set_cons_succ]
  refine take_at 8 68 (.float .f64 u) rfl rfl (by kernel_rfl) (by kernel_rfl) (by kernel_rfl) (fun _ _ _ h => h) (Or.inl ⟨by rfl, fun w hSw => by (try dsimp only at hSw); go_simp⟩) (by assumption) ?_
  simp only [Act.put, List.setIfInBounds_toArray, List.set_cons_zero, List.set_cons_succ]
  refine take_at 10 70 (.agg #[.pointer (some ⟨q, 0, none⟩), .int .i64 E]) rfl rfl (by kernel_rfl) (by kernel_rfl) (by kernel_rfl) (fun _ _ _ h => h) (Or.inl ⟨by rfl, fun w hSw => by (try dsimp only at hSw); go_simp⟩) (by assumption) ?_
  simp only [Act.put, List.setIfInBounds_toArray, List.set_cons_zero, List.set_cons_succ]
  refine wpAnyH_ready (rs := [9]) (by kernel_rfl) (by simp) ?_
  refine AllReadyH.cons (o := _) rfl (fun K hK => ?_) AllReadyH.nil
  go_simp
  refine (HS1.out _).mono ?_
  rintro z v3 ⟨q14, e14, rfl, ⟨b14, b14'⟩, hx14, hb14⟩
  have HV14 : Hid (Below V.heap.size V v3) := HQ0.out.trans (hb14.mono HQ0.out.size)
  have HX14 := hid hx14
  clear hx14 hb14
  go_wp2_with fail
  refine hK.out _ _ (HKS.out _ HV14) (fun hHeld3 => ?_)
  clear hK K
  try simp only [Act.put, List.setIfInBounds_toArray, List.set_cons_zero, List.set_cons_succ]
  refine wpAnyH_ready (rs := [11]) (by kernel_rfl) (by simp) ?_
  refine AllReadyH.cons (o := _) rfl (fun K hK => ?_) AllReadyH.nil
  go_simp
  refine (xCmp_val q14 q _ _ e14 E _ _ _ _ HX14.out (HG.out _ HV14.out).2.2.1 (by decide) (by decide) (by omega) (by omega)).mono ?_
  rw [Int.sub_self, show sgnZ 0 = 0 from rfl]
  rintro z v4 ⟨rfl, hb16⟩
  have HV16 : Hid (Below V.heap.size V v4) := HV14.out.trans (hb16.mono HV14.out.size)
  clear hb16
  go_wp2_with fail
  refine hK.out _ _ (HKS.out _ HV16) (fun hHeld4 => ?_)
  clear hK K
  try simp only [Act.put, List.setIfInBounds_toArray, List.set_cons_zero, List.set_cons_succ]
  refine take_at 12 72 (.bool true) rfl rfl (by kernel_rfl) (by kernel_rfl) (by kernel_rfl) (fun _ _ _ h => h) (Or.inl ⟨by rfl, fun w hSw => by (try dsimp only at hSw); go_simp⟩) (by assumption) ?_
  simp only [Act.put, List.setIfInBounds_toArray, List.set_cons_zero, List.set_cons_succ]
  refine take_at 13 73 (.bool true) rfl rfl (by kernel_rfl) (by kernel_rfl) (by kernel_rfl) (fun _ _ _ h => h) (Or.inl ⟨by rfl, fun w hSw => by (try dsimp only at hSw); go_simp⟩) (by assumption) ?_
  simp only [Act.put, List.setIfInBounds_toArray, List.set_cons_zero, List.set_cons_succ]
  refine take_at 14 74 (.bool true) rfl rfl (by kernel_rfl) (by kernel_rfl) (by kernel_rfl) (fun _ _ _ h => h) (Or.inl ⟨by rfl, fun w hSw => by (try dsimp only at hSw); go_simp⟩) (by assumption) ?_
  simp only [Act.put, List.setIfInBounds_toArray, List.set_cons_zero, List.set_cons_succ]
  refine take_at 15 75 (.float .f64 p) rfl rfl (by kernel_rfl) (by kernel_rfl) (by kernel_rfl) (fun _ _ _ h => h) (Or.inl ⟨by rfl, fun w hSw => by (try dsimp only at hSw); go_simp⟩) (by assumption) ?_
  simp only [Act.put, List.setIfInBounds_toArray, List.set_cons_zero, List.set_cons_succ]
  refine take_at 16 76 (.float .f64 p) rfl rfl (by kernel_rfl) (by kernel_rfl) (by kernel_rfl) (fun _ _ _ h => h) (Or.inl ⟨by rfl, fun w hSw => by (try dsimp only at hSw); go_simp⟩) (by assumption) ?_
  simp only [Act.put, List.setIfInBounds_toArray, List.set_cons_zero, List.set_cons_succ]
  refine wpAnyH_ready (rs := [17]) (by kernel_rfl) (by simp) ?_
  refine AllReadyH.cons (o := _) rfl (fun K hK => ?_) AllReadyH.nil
  go_simp
  refine (alike_any _ _ _ HQ1.out).mono ?_
  rintro z v5 ⟨rfl, rfl⟩
  go_wp2_with fail
  refine hK.out _ _ (HKS.out _ HV16) (fun hHeld5 => ?_)
  clear hK K
  try simp only [Act.put, List.setIfInBounds_toArray, List.set_cons_zero, List.set_cons_succ]
  refine take_at 18 78 (.bool true) rfl rfl (by kernel_rfl) (by kernel_rfl) (by kernel_rfl) (fun _ _ _ h => h) (Or.inl ⟨by rfl, fun w hSw => by (try dsimp only at hSw); go_simp⟩) (by assumption) ?_
  simp only [Act.put, List.setIfInBounds_toArray, List.set_cons_zero, List.set_cons_succ]
  refine take_at 19 79 (.bool true) rfl rfl (by kernel_rfl) (by kernel_rfl) (by kernel_rfl) (fun _ _ _ h => h) (Or.inl ⟨by rfl, fun w hSw => by (try dsimp only at hSw); go_simp⟩) (by assumption) ?_
  simp only [Act.put, List.setIfInBounds_toArray, List.set_cons_zero, List.set_cons_succ]
  refine take_at 20 80 (.float .f64 u) rfl rfl (by kernel_rfl) (by kernel_rfl) (by kernel_rfl) (fun _ _ _ h => h) (Or.inl ⟨by rfl, fun w hSw => by (try dsimp only at hSw); go_simp⟩) (by assumption) ?_
  simp only [Act.put, List.setIfInBounds_toArray, List.set_cons_zero, List.set_cons_succ]
  refine take_at 21 81 (.float .f64 h) rfl rfl (by kernel_rfl) (by kernel_rfl) (by kernel_rfl) (fun _ _ _ h => h) (Or.inl ⟨by rfl, fun w hSw => by (try dsimp only at hSw); go_simp⟩) (by assumption) ?_
  simp only [Act.put, List.setIfInBounds_toArray, List.set_cons_zero, List.set_cons_succ]
  refine wpAnyH_ready (rs := [22]) (by kernel_rfl) (by simp) ?_
  refine AllReadyH.cons (o := _) rfl (fun K hK => ?_) AllReadyH.nil
  go_simp
  refine (alike_any _ _ _ HQ2.out).mono ?_
  rintro z v6 ⟨rfl, rfl⟩
  go_wp2_with fail
  refine hK.out _ _ (HKS.out _ HV16) (fun hHeld6 => ?_)
  clear hK K
  try simp only [Act.put, List.setIfInBounds_toArray, List.set_cons_zero, List.set_cons_succ]
  refine take_at 23 83 (.bool true) rfl rfl (by kernel_rfl) (by kernel_rfl) (by kernel_rfl) (fun _ _ _ h => h) (Or.inl ⟨by rfl, fun w hSw => by (try dsimp only at hSw); go_simp⟩) (by assumption) ?_
  simp only [Act.put, List.setIfInBounds_toArray, List.set_cons_zero, List.set_cons_succ]
  refine take_at 24 84 (.bool true) rfl rfl (by kernel_rfl) (by kernel_rfl) (by kernel_rfl) (fun _ _ _ h => h) (Or.inl ⟨by rfl, fun w hSw => by (try dsimp only at hSw); go_simp⟩) (by assumption) ?_
  simp only [Act.put, List.setIfInBounds_toArray, List.set_cons_zero, List.set_cons_succ]
  refine take_at 25 85 (.float .f64 p) rfl rfl (by kernel_rfl) (by kernel_rfl) (by kernel_rfl) (fun _ _ _ h => h) (Or.inl ⟨by rfl, fun w hSw => by (try dsimp only at hSw); go_simp⟩) (by assumption) ?_
  simp only [Act.put, List.setIfInBounds_toArray, List.set_cons_zero, List.set_cons_succ]
  refine take_at 27 87 (.float .f64 p) rfl rfl (by kernel_rfl) (by kernel_rfl) (by kernel_rfl) (fun _ _ _ h => h) (Or.inl ⟨by rfl, fun w hSw => by (try dsimp only at hSw); go_simp⟩) (by assumption) ?_
  simp only [Act.put, List.setIfInBounds_toArray, List.set_cons_zero, List.set_cons_succ]
  refine wpAnyH_ready (rs := [26]) (by kernel_rfl) (by simp) ?_
  refine AllReadyH.cons (o := _) rfl (fun K hK => ?_) AllReadyH.nil
  go_simp
  go_wp2_with fail
  refine hK.out _ _ (HKS.out _ HV16) (fun hHeld7 => ?_)
  clear hK K
  try simp only [Act.put, List.setIfInBounds_toArray, List.set_cons_zero, List.set_cons_succ]
  refine wpAnyH_ready (rs := [28]) (by kernel_rfl) (by simp) ?_
  refine AllReadyH.cons (o := _) rfl (fun K hK => ?_) AllReadyH.nil
  go_simp
  go_wp2_with fail
  refine hK.out _ _ (HKS.out _ HV16) (fun hHeld8 => ?_)
  clear hK K
  try simp only [Act.put, List.setIfInBounds_toArray, List.set_cons_zero, List.set_cons_succ]
  refine take_at 29 89 (.bool true) rfl rfl (by kernel_rfl) (by kernel_rfl) (by kernel_rfl) (fun _ _ _ h => h) (Or.inl ⟨by rfl, fun w hSw => by (try dsimp only at hSw); go_simp⟩) (by assumption) ?_
  simp only [Act.put, List.setIfInBounds_toArray, List.set_cons_zero, List.set_cons_succ]
  refine take_at 30 90 (.bool true) rfl rfl (by kernel_rfl) (by kernel_rfl) (by kernel_rfl) (fun _ _ _ h => h) (Or.inl ⟨by rfl, fun w hSw => by (try dsimp only at hSw); go_simp⟩) (by assumption) ?_
  simp only [Act.put, List.setIfInBounds_toArray, List.set_cons_zero, List.set_cons_succ]
  refine take_at 31 4 (.bool true) rfl rfl (by kernel_rfl) (by kernel_rfl) (by kernel_rfl) (fun _ _ _ h => h) (Or.inl ⟨by rfl, fun w hSw => by (try dsimp only at hSw); go_simp⟩) (by assumption) ?_
  simp only [Act.put, List.setIfInBounds_toArray, List.set_cons_zero, List.set_cons_succ]
  refine wpAnyH_done (by kernel_rfl) ?_ _
  go_wp2
  go_ret
  exact ⟨rfl, (HG.out _ HV16.out).2.2.2⟩
set_option maxHeartbeats 1000000 in
theorem products_law (a b : Nat) (w : World) (ha : a < 18446744073709551616) (hb : b < 18446744073709551616) (hT : Tab w) (hg : 2 < w.heap.size) (hT3 : Tab32 w) (hs : 1 < w.heap.size) :
    Calls Tryz.prog 4 #[.int .u64 a, .int .u64 b] w fun r w' => r = .returned (.bool true) ∧ Below w.heap.size w w' := by
  have HA : Hid (Calls Tryz.prog 17 #[] w fun r w' => r = .returned (.bool true) ∧ Below w.heap.size w w') := awake4_any w hT hg hT3 hs
  have HT : Hid (∀ W, Below w.heap.size w W → Tab32 W ∧ 1 < W.heap.size) := fun W hW => ⟨hT3.below hs hW, Nat.lt_of_lt_of_le hs hW.size⟩
  have HBA := hid (fun (W : World) => below_995 a W ha)
  have HBB := hid (fun (W : World) => below_995 b W hb)
  clear hT hg hT3 hs
  by_cases ka : a % 9223372036854775808 ≤ 9088264048033660928
  case neg =>
    rw [decide_eq_false ka] at HBA
    clear ka ha
    go_enter Tryz.func4, Tryz.ntmps4
    go_wp2_with fail
    refine HA.out.mono ?_
    rintro r w1 ⟨rfl, hb1⟩
    have HB1 := hid hb1
    clear hb1
    go_wp2_with (first | (go_at_call 5; refine (lawf4 _ _).mono ?_; rintro r w9 ⟨rfl, rfl⟩))
    refine (HBA.out _).mono ?_
    rintro r w2 ⟨rfl, rfl⟩
    go_wp2
    go_ret
    exact ⟨rfl, HB1.out⟩
  by_cases kb : b % 9223372036854775808 ≤ 9088264048033660928
  case neg =>
    rw [decide_eq_true ka] at HBA
    rw [decide_eq_false kb] at HBB
    clear ka kb ha hb
    go_enter Tryz.func4, Tryz.ntmps4
    go_wp2_with fail
    refine HA.out.mono ?_
    rintro r w1 ⟨rfl, hb1⟩
    have HB1 := hid hb1
    clear hb1
    go_wp2_with (first | (go_at_call 5; refine (lawf4 _ _).mono ?_; rintro r w9 ⟨rfl, rfl⟩))
    refine (HBA.out _).mono ?_
    rintro r w2 ⟨rfl, rfl⟩
    go_wp2_with fail
    refine (HBB.out _).mono ?_
    rintro r w2 ⟨rfl, rfl⟩
    go_wp2
    go_ret
    exact ⟨rfl, HB1.out⟩
  have HPA := hid (fun (P : Int) e hP => prod_all a b ha hb ka kb P e hP)
  rw [decide_eq_true ka] at HBA
  rw [decide_eq_true kb] at HBB
  have HO1 := hid (fun (W : World) => xOf_fin a W ha (by omega))
  have HO2 := hid (fun (W : World) => xOf_fin b W hb (by omega))
  clear ha hb ka kb
  obtain ⟨Z, hZ⟩ : ∃ Z, Hid (sv a * sv b = Z) := ⟨_, rfl⟩
  have HPOW : Hid (∀ W : World, Calls Tryz.prog 23 #[.int .i64 1021] W fun r w' => ∃ q, r = .returned (.agg #[.pointer (some ⟨q, 0, none⟩), .int .i64 1021]) ∧ ExV w' q 1021 (-2148) ((2 ^ kP : Nat) : Int) 2 ∧ Below W.heap.size W w') := fun W => by
    refine (xPower_any 1021 W).mono ?_
    rintro r w' ⟨q, rfl, h1, h2⟩
    exact ⟨q, rfl, ⟨1, kP, h1, by rw [kP_is]; rfl, by rw [Int.one_mul, Int.natCast_pow]; rfl⟩, h2⟩
  have rebase : ∀ (P : Int) (p u : Nat), P * ((2 ^ kH : Nat) : Int) = Z → (∀ W, Calls Tryz.prog 27 #[.float .f64 p, .float .f64 u] W fun z w' => ∃ q e, z = .returned (.agg #[.pointer (some ⟨q, 0, none⟩), .int .i64 e]) ∧ (-1074 ≤ e ∧ e ≤ 2000) ∧ ExV w' q e (-1074) P 4002 ∧ Below W.heap.size W w') → Hid (∀ W, Calls Tryz.prog 27 #[.float .f64 p, .float .f64 u] W fun z w' => ∃ q e, z = .returned (.agg #[.pointer (some ⟨q, 0, none⟩), .int .i64 e]) ∧ (-1074 ≤ e ∧ e ≤ 2000) ∧ ExV w' q e (-2148) Z 4002 ∧ Below W.heap.size W w') := fun P p u hPZ h W => by
    refine (h W).mono ?_
    rintro z w' ⟨q, e, rfl, h1, h2, h3⟩
    have h4 := h2.base kH
    rw [hPZ, show (-1074 : Int) - ((kH : Nat) : Int) = -2148 by rw [kH_is]; rfl] at h4
    exact ⟨q, e, rfl, h1, h4, h3⟩
  by_cases c : 0 < (Z.natAbs : Int) - ((2 ^ kP : Nat) : Int)
  · exact way_far a b Z w hZ HA HBA HBB HO1 HO2 _ HPOW 1 rfl (sgn_gt c)
  have hc : sgnZ ((Z.natAbs : Int) - ((2 ^ kP : Nat) : Int)) ≤ 0 := (sgn_pos _).2 (by omega)
  by_cases c0 : Z = 0
  · obtain ⟨p, u, h, c1, c2, c3, c4, c5, c6, c7, c8⟩ := HPA.out 0 (by rw [hZ.out, c0, Int.zero_mul]) (by simp)
    exact way_nil a b Z w hZ HA HBA HBB HO1 HO2 _ HPOW _ hc rfl 0 rfl (by show sgnZ Z = 0; rw [c0]; rfl) p u h c1 c2 c3 c4 (rebase 0 p u (by rw [c0, Int.zero_mul]) c5) c6 c7
  have hS : sgnZ Z ≠ 0 := by rcases sgn_ne c0 with h | h <;> omega
  by_cases cd : ((2 ^ kH : Nat) : Int) ∣ Z
  · obtain ⟨P, hP⟩ := id cd
    have hP' : Z = P * ((2 ^ kH : Nat) : Int) := by rw [hP, Int.mul_comm]
    obtain ⟨p, u, h, c1, c2, c3, c4, c5, c6, c7, c8⟩ := HPA.out P (hZ.out.trans hP') (small_P hP' (by omega))
    refine way_good a b Z w hZ HA HT HBA HBB HO1 HO2 _ HPOW _ hc rfl _ hS rfl ?_ p u h c1 c2 c3 c4 (rebase P p u hP'.symm c5) c6 c7
    rintro W q e bd (⟨h0, _⟩ | ⟨v, k, k1, _, k3, k4⟩)
    · exact absurd h0 c0
    · have := odd_under k1 k4 cd
      have := kH_is
      omega
  · refine way_fine a b Z w hZ HA HT HBA HBB HO1 HO2 _ HPOW _ hc rfl _ hS rfl ?_
    rintro W q e bd (⟨h0, _⟩ | ⟨v, k, k1, _, k3, k4⟩)
    · exact absurd h0 c0
    · have hk : k < kH := by
        apply Classical.byContradiction
        intro h
        obtain ⟨j, rfl⟩ : ∃ j, k = kH + j := ⟨k - kH, by omega⟩
        refine cd ⟨v * 2 ^ j, ?_⟩
        rw [k4, Int.pow_add, Int.natCast_pow, Int.mul_left_comm]
        rfl
      have := kH_is
      omega

set_option maxRecDepth 100000 in
theorem eftProducts_lifted (os : Os) (started : os.Started) (H : Type) (enc : TypeId × Value → H) :
    ReturnsInHanded {} Tryz.checked os 4 .any (fun w args => (Rows.eftProductsSpec.pre enc Tryz.prog Tryz.f4 [] false w args ∧ laidMetH Tryz.prog [("math/bits.deBruijn32tab", Rows.laid_math_bits_deBruijn32tab), ("math/bits.deBruijn64tab", Rows.laid_math_bits_deBruijn64tab)] w) ∧ sizedMet enc Tryz.prog Tryz.f4 (OpenSpec.ofChange Rows.eftProductsSpec) false w args)
      (Rows.eftProductsSpec.post enc Tryz.prog Tryz.f4 false true false false) := by
  refine returnsInHanded_of_change_and (C := Tryz.checked) (X := fun w _ => laidMetH Tryz.prog [("math/bits.deBruijn32tab", Rows.laid_math_bits_deBruijn32tab), ("math/bits.deBruijn64tab", Rows.laid_math_bits_deBruijn64tab)] w) (fun _ _ _ hh h => h.of_heap hh) own started (by kernel_rfl) Tryz.func4
    (ChangeSpec.witness_shaped (enc := enc) (C := Tryz.checked) (os := os) (X := fun w _ => laidMetH Tryz.prog [("math/bits.deBruijn32tab", Rows.laid_math_bits_deBruijn32tab), ("math/bits.deBruijn64tab", Rows.laid_math_bits_deBruijn64tab)] w) false (World.doorLaid Tryz.prog 400 os) #[.int .u64 0, .int .u64 0] 8 rfl (World.shaped_of_RefB (by kernel_rfl) (by kernel_rfl)) (by kernel_rfl) (by kernel_rfl) (by kernel_rfl) (door_met2 os _)) ?_
  intro W base args ds gs before hval0 hW _ _ hL _
  have hval : ∀ (j : Nat) t v, Tryz.f4.params[j]? = some t → args[j]? = some v → Value.okWide Tryz.prog W .any base t v := hval0
  have hW' := hW
  obtain ⟨p, q, hA0, hV, rfl, hfz, hnd⟩ := hW
  have hA : DataW.TrodAll enc Tryz.prog W 0 (fun _ => true) true Tryz.f4.params.toList args.toList ds p := hA0
  rw [Tryz.params4] at hA hval
  obtain ⟨v0, vs0, d0, ds0, p0, q0, hargs, rfl, rfl, h0, r0⟩ := trodAll_cons hA
  obtain ⟨v1, vs1, d1, ds1, p1, q1, rfl, rfl, rfl, h1, r1⟩ := trodAll_cons r0
  obtain ⟨rfl, rfl, rfl⟩ := trodAll_nil r1
  obtain rfl : args = #[v0, v1] := by cases args; simp_all
  obtain ⟨rfl, rfl⟩ := trodVars_none hV
  obtain ⟨a0, rfl, rfl, rfl, w0⟩ := open_int Tryz.underlying22 (hval 0 22 v0 rfl rfl) h0
  obtain ⟨n0, rfl⟩ := Int.eq_ofNat_of_zero_le (bounds_u64 w0).1
  have l0 : n0 < 18446744073709551616 := by have := (bounds_u64 w0).2; omega
  obtain ⟨a1, rfl, rfl, rfl, w1⟩ := open_int Tryz.underlying22 (hval 1 22 v1 rfl rfl) h1
  obtain ⟨n1, rfl⟩ := Int.eq_ofNat_of_zero_le (bounds_u64 w1).1
  have l1 : n1 < 18446744073709551616 := by have := (bounds_u64 w1).2; omega
  obtain ⟨⟨hT, hs⟩, hT3, hs3⟩ := tab_of_laid2 hL
  clear hA0 hval0
  simp only [List.append_nil] at hW'
  refine (products_law n0 n1 W l0 l1 hT hs hT3 hs3).mono fun e W' ⟨he, bel⟩ => ?_
  subst he
  exact ⟨_, rfl, _, _, _, [], [], [], hW', trodAll_mk1 (shut_bool Tryz.underlying4 _), (trodAll_cons_mk (shut_int Tryz.underlying22 w0) (trodAll_cons_mk (shut_int Tryz.underlying22 w1) trodAll_mk0)), rfl, bel.frame _, fun h => by cases h⟩

theorem eftProducts_row : Rows.EftProductsSaid :=
  OpenClaim.holds_of_wide 4 Tryz.f4 rfl rfl rfl rfl rfl rfl rfl ⟨rfl, rfl, rfl, rfl, rfl⟩ rfl rfl rfl rfl rfl (by kernel_rfl) Tryz.func4 (by kernel_rfl)
    (of_decide_eq_true (by kernel_rfl)) (by unfold Func.isWrapper; first | (rw [if_pos (by decide +kernel)]; kernel_rfl) | (rw [if_neg (by decide +kernel)]; exact ⟨rfl, rfl⟩))
    (fun os started H enc _ => eftProducts_lifted os started H enc)

theorem eftProducts_card : Rows.EftProductsCardSaid :=
  Claim7.holds_tied_plain_at .later [] [.data, .data] true (true, "db7ffa6a92a1840e917dc45ead396bd10d2b37db7c9678f9e5a55b8a566db5b4") false
    eftProducts_row (fun _ h => by cases h) (by kernel_rfl) (fun _ h => by cases h) eftProducts_row_tie rfl ⟨rfl, rfl⟩ (by kernel_rfl) rfl
    (fun f fn hf hfn => by
      obtain rfl : f = 4 := Option.some.inj ((show Tryz.prog.funcNamed "binnacle/binnaclelaw04.EftProducts" = some 4 by kernel_rfl).symm.trans hf) |>.symm
      obtain rfl : fn = Tryz.f4 := (Option.some.inj (Tryz.func4.symm.trans hfn)).symm
      exact ⟨by kernel_rfl, fun j t ht => by
        rw [Tryz.params4] at ht
        have hm : t ∈ [22, 22] := by simpa using Array.mem_of_getElem? ht
        have hall : ([22, 22].all fun u => !Tryz.prog.wantsStandIn u) = true := by kernel_rfl
        exact (show Tryz.prog.wantsStandIn t = false by simpa using List.all_eq_true.1 hall t hm)⟩)
    (by kernel_rfl)
#print axioms eftProducts_card
end Go.Proofs.YtijadahpddmhjaaGreatDoor
