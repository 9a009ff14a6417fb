
/- The document's Turn is eft's. (Written by mkegc.py.) -/
import Derived.Test.YteidllapjokhlaaDoorP46
import Derived.Test.YteidllapjokhlaaDoorP3
import Derived.Test.YteidllapjokhlaaDoorP10
namespace Go.Proofs.YteidllapjokhlaaDoor
open Go.RowKit Go.IntWalk

theorem turn_id (P Q R S T U : Int) : (R - P) * (U - Q) - (S - Q) * (T - P) = P * S - P * U + R * U - R * Q + T * Q - T * S := by
  rw [Int.sub_mul, Int.sub_mul, Int.mul_sub, Int.mul_sub, Int.mul_sub, Int.mul_sub, Int.mul_comm S T, Int.mul_comm S P, Int.mul_comm Q T, Int.mul_comm Q P]
  omega
set_option maxRecDepth 4000 in
set_option maxHeartbeats 2000000 in
theorem rTurn_any (p q r s t u : Nat) (w : World) (hp : p < 18446744073709551616) (hq : q < 18446744073709551616) (hr : r < 18446744073709551616) (hs : s < 18446744073709551616) (ht : t < 18446744073709551616) (hu : u < 18446744073709551616) :
    Calls Tryd.prog 12 #[.float .f64 p, .float .f64 q, .float .f64 r, .float .f64 s, .float .f64 t, .float .f64 u] w fun z w' => z = .returned (.tuple #[.int .i64 (turnS p q r s t u), .int .i64 (turnE p q r s t u)]) ∧ Below w.heap.size w w' := by
  have HAF : Hid (∀ T, Calls Tryd.prog 31 #[.slice (some ⟨w.heap.size, 0, none⟩) 6 6] (w.alloc (.cells #[.float .f64 p, .float .f64 q, .float .f64 r, .float .f64 s, .float .f64 t, .float .f64 u] T)) fun z w' => z = .returned (.bool (turnF p q r s t u)) ∧ w' = w.alloc (.cells #[.float .f64 p, .float .f64 q, .float .f64 r, .float .f64 s, .float .f64 t, .float .f64 u] T)) := fun T => by
    have hn := numsL (w.alloc (.cells #[.float .f64 p, .float .f64 q, .float .f64 r, .float .f64 s, .float .f64 t, .float .f64 u] T)) w.heap.size [p, q, r, s, t, u] T (new_blk _ _ _ rfl)
    have := rallfin_any [p, q, r, s, t, u] w.heap.size 0 6 _ hn.2 (bitl_of (by simp [hp, hq, hr, hs, ht, hu])) (by simp)
    have e : allFin [p, q, r, s, t, u] = turnF p q r s t u := by
      rw [finL_all]
      simp only [List.all_cons, List.all_nil, Bool.and_true, turnF, Bool.and_assoc]
    rw [e] at this
    exact this
  by_cases hf : turnF p q r s t u = true
  · have e1 : turnS p q r s t u = sgnZ ((sv r - sv p) * (sv u - sv q) - (sv s - sv q) * (sv t - sv p)) := by unfold turnS; rw [if_pos hf, turn_id]; rfl
    have e2 : turnE p q r s t u = 0 := by unfold turnE; rw [if_pos hf]
    rw [e1, e2]
    rw [hf] at HAF
    unfold turnF at hf
    simp only [Bool.and_eq_true] at hf
    obtain ⟨⟨⟨⟨⟨fp, fq⟩, fr⟩, fs⟩, ft⟩, fu⟩ := hf
    have HM1 := hid (fun (W : World) => minus_fin r p W hr hp (finB_is r fr) (finB_is p fp))
    obtain ⟨D1, hD1⟩ : ∃ D, Hid (sv r - sv p = D) := ⟨_, rfl⟩
    rw [hD1.out] at HM1 ⊢
    have HM2 := hid (fun (W : World) => minus_fin u q W hu hq (finB_is u fu) (finB_is q fq))
    obtain ⟨D2, hD2⟩ : ∃ D, Hid (sv u - sv q = D) := ⟨_, rfl⟩
    rw [hD2.out] at HM2 ⊢
    have HM3 := hid (fun (W : World) => minus_fin s q W hs hq (finB_is s fs) (finB_is q fq))
    obtain ⟨D3, hD3⟩ : ∃ D, Hid (sv s - sv q = D) := ⟨_, rfl⟩
    rw [hD3.out] at HM3 ⊢
    have HM4 := hid (fun (W : World) => minus_fin t p W ht hp (finB_is t ft) (finB_is p fp))
    obtain ⟨D4, hD4⟩ : ∃ D, Hid (sv t - sv p = D) := ⟨_, rfl⟩
    rw [hD4.out] at HM4 ⊢
    clear hp hq hr hs ht hu fp fq fr fs ft fu e1 e2
    go_enter Tryd.func12, Tryd.ntmps12
    go_wp2_with fail
    refine (HAF.out _).mono ?_
    rintro z w0 ⟨rfl, hw0⟩
    have HB0 : Hid (Below w.heap.size w w0) := by rw [hw0]; exact (Below.refl _ _).alloc (Nat.le_refl _) _
    clear hw0
    go_wp2_with fail
    refine (HM1.out _).mono ?_
    rintro z w1 ⟨p1, e1, rfl, ⟨b1, b1'⟩, hx1, hb1⟩
    have HX1 := hid hx1
    have HB1 := hid (HB0.out.trans (hb1.mono HB0.out.size))
    clear hx1 hb1
    go_wp2_with fail
    refine (HM2.out _).mono ?_
    rintro z w2 ⟨p2, e2, rfl, ⟨b2, b2'⟩, hx2, hb2⟩
    have HX2 := hid hx2
    have HX1 := hid (HX1.out.below hb2)
    have HB2 := hid (HB1.out.trans (hb2.mono HB1.out.size))
    clear hx2 hb2
    go_wp2_with fail
    refine (xMul_val p1 p2 4002 4002 e1 e2 _ _ _ _ _ HX1.out HX2.out (by decide) (by decide) (by decide) (by omega)).mono ?_
    rintro z w3 ⟨p3, rfl, hx3, hb3⟩
    have HX3 := hid hx3
    have HB3 := hid (HB2.out.trans (hb3.mono HB2.out.size))
    clear hx3 hb3
    go_wp2_with fail
    refine (HM3.out _).mono ?_
    rintro z w4 ⟨p4, e4, rfl, ⟨b4, b4'⟩, hx4, hb4⟩
    have HX4 := hid hx4
    have HX3 := hid (HX3.out.below hb4)
    have HB4 := hid (HB3.out.trans (hb4.mono HB3.out.size))
    clear hx4 hb4
    go_wp2_with fail
    refine (HM4.out _).mono ?_
    rintro z w5 ⟨p5, e5, rfl, ⟨b5, b5'⟩, hx5, hb5⟩
    have HX5 := hid hx5
    have HX3 := hid (HX3.out.below hb5)
    have HX4 := hid (HX4.out.below hb5)
    have HB5 := hid (HB4.out.trans (hb5.mono HB4.out.size))
    clear hx5 hb5
    go_wp2_with fail
    refine (xMul_val p4 p5 4002 4002 e4 e5 _ _ _ _ _ HX4.out HX5.out (by decide) (by decide) (by decide) (by omega)).mono ?_
    rintro z w6 ⟨p6, rfl, hx6, hb6⟩
    have HX6 := hid hx6
    have HX3 := hid (HX3.out.below hb6)
    have HB6 := hid (HB5.out.trans (hb6.mono HB5.out.size))
    clear hx6 hb6
    go_wp2_with fail
    refine (xCmp_val p3 p6 8004 8004 (e1 + e2) (e4 + e5) _ _ _ _ HX3.out HX6.out (by decide) (by decide) (by omega) (by omega)).mono ?_
    rintro z w7 ⟨rfl, hb7⟩
    have HB7 := hid (HB6.out.trans (hb7.mono HB6.out.size))
    clear hb7
    go_wp2
    go_ret2
    exact ⟨rfl, HB7.out⟩
  · have hf : turnF p q r s t u = false := by simpa using hf
    have e1 : turnS p q r s t u = 0 := by unfold turnS; rw [hf]; rfl
    have e2 : turnE p q r s t u = 4 := by unfold turnE; rw [hf]; rfl
    rw [e1, e2]
    rw [hf] at HAF
    clear hp hq hr hs ht hu hf e1 e2
    go_enter Tryd.func12, Tryd.ntmps12
    go_wp2_with fail
    refine (HAF.out _).mono ?_
    rintro z w0 ⟨rfl, hw0⟩
    have HB0 : Hid (Below w.heap.size w w0) := by rw [hw0]; exact (Below.refl _ _).alloc (Nat.le_refl _) _
    clear hw0
    go_wp2
    go_ret2
    exact ⟨rfl, HB0.out⟩
end Go.Proofs.YteidllapjokhlaaDoor

namespace Go.Proofs.YteidllapjokhlaaDoor
open Go.RowKit Go.IntWalk

set_option maxHeartbeats 400000 in
theorem Canon_any (x : Nat) (w : World) (hx : x < 18446744073709551616) :
    Calls Tryd.prog 35 #[.float .f64 x] w fun r w' => r = .returned (.float .f64 (canonOf x)) ∧ Below w.heap.size w w' := by
  have h1 := f64bits
  have h2 := f64from
  go_enter Tryd.func35, Tryd.ntmps35
  go_wp2_with fail
  refine (layout64_any _).mono ?_
  rintro r w1 ⟨rfl, hb⟩
  go_wp2_with fail
  refine (canon_any x _ hx).mono ?_
  rintro r w2 ⟨rfl, hb2⟩
  go_wp2_with fail
  go_ret
  exact ⟨rfl, bl_then hb hb2⟩
theorem f_add {x y z : Nat} (h : FloatKind.f64.format.add x y = some z) (w : World) : (binOp .add 27 (.float .f64 x) (.float .f64 y)).run Tryd.prog w = .ok (.float .f64 z) w := run_float_arith w .add _ .f64 x y z h
theorem f_sub {x y z : Nat} (h : FloatKind.f64.format.sub x y = some z) (w : World) : (binOp .sub 27 (.float .f64 x) (.float .f64 y)).run Tryd.prog w = .ok (.float .f64 z) w := run_float_arith w .sub _ .f64 x y z h
theorem f_mul {x y z : Nat} (h : FloatKind.f64.format.mul x y = some z) (w : World) : (binOp .mul 27 (.float .f64 x) (.float .f64 y)).run Tryd.prog w = .ok (.float .f64 z) w := run_float_arith w .mul _ .f64 x y z h
set_option maxHeartbeats 1000000 in
theorem Two_at (a b s t e1 e2 e3 e : Nat) (w : World) (h1 : FloatKind.f64.format.add a b = some s) (h2 : FloatKind.f64.format.sub s a = some t) (h3 : FloatKind.f64.format.sub s t = some e1) (h4 : FloatKind.f64.format.sub a e1 = some e2) (h5 : FloatKind.f64.format.sub b t = some e3) (h6 : FloatKind.f64.format.add e2 e3 = some e) (hs : s < 18446744073709551616) (he : e < 18446744073709551616) :
    Calls Tryd.prog 14 #[.float .f64 a, .float .f64 b] w fun r w' => r = .returned (.tuple #[.float .f64 (canonOf s), .float .f64 (canonOf e)]) ∧ Below w.heap.size w w' := by
  have g1 := f_add h1
  have g2 := f_sub h2
  have g3 := f_sub h3
  have g4 := f_sub h4
  have g5 := f_sub h5
  have g6 := f_add h6
  have HC1 := hid (fun (W : World) => Canon_any s W hs)
  have HC2 := hid (fun (W : World) => Canon_any e W he)
  obtain ⟨S, hS⟩ : ∃ S, Hid (canonOf s = S) := ⟨_, rfl⟩
  obtain ⟨E, hE⟩ : ∃ E, Hid (canonOf e = E) := ⟨_, rfl⟩
  rw [hS.out] at HC1 ⊢
  rw [hE.out] at HC2 ⊢
  clear h1 h2 h3 h4 h5 h6 hs he
  go_enter Tryd.func14, Tryd.ntmps14
  go_wp2_with fail
  refine (HC1.out _).mono ?_
  rintro r w1 ⟨rfl, hb1⟩
  have HB1 := hid hb1
  clear hb1
  go_wp2_with fail
  refine (HC2.out _).mono ?_
  rintro r w2 ⟨rfl, hb2⟩
  have HB2 := hid (HB1.out.trans (hb2.mono HB1.out.size))
  clear hb2
  go_wp2
  go_ret2
  exact ⟨rfl, HB2.out⟩
set_option maxHeartbeats 1000000 in
theorem Split_at (a c d h l : Nat) (w : World) (h1 : FloatKind.f64.format.mul 4728779608772575232 a = some c) (h2 : FloatKind.f64.format.sub c a = some d) (h3 : FloatKind.f64.format.sub c d = some h) (h4 : FloatKind.f64.format.sub a h = some l) (hs : h < 18446744073709551616) (he : l < 18446744073709551616) :
    Calls Tryd.prog 21 #[.float .f64 a] w fun r w' => r = .returned (.tuple #[.float .f64 (canonOf h), .float .f64 (canonOf l)]) ∧ Below w.heap.size w w' := by
  have g1 := f_mul h1
  have g2 := f_sub h2
  have g3 := f_sub h3
  have g4 := f_sub h4
  have HC1 := hid (fun (W : World) => Canon_any h W hs)
  have HC2 := hid (fun (W : World) => Canon_any l W he)
  obtain ⟨S, hS⟩ : ∃ S, Hid (canonOf h = S) := ⟨_, rfl⟩
  obtain ⟨E, hE⟩ : ∃ E, Hid (canonOf l = E) := ⟨_, rfl⟩
  rw [hS.out] at HC1 ⊢
  rw [hE.out] at HC2 ⊢
  clear h1 h2 h3 h4 hs he
  go_enter Tryd.func21, Tryd.ntmps21
  go_wp2_with fail
  refine (HC1.out _).mono ?_
  rintro r w1 ⟨rfl, hb1⟩
  have HB1 := hid hb1
  clear hb1
  go_wp2_with fail
  refine (HC2.out _).mono ?_
  rintro r w2 ⟨rfl, hb2⟩
  have HB2 := hid (HB1.out.trans (hb2.mono HB1.out.size))
  clear hb2
  go_wp2
  go_ret2
  exact ⟨rfl, HB2.out⟩
set_option maxHeartbeats 1000000 in
theorem Prod_at (a b p h l i k q1 q2 q3 q4 q5 q6 q7 e : Nat) (w : World) (h1 : FloatKind.f64.format.mul a b = some p)
    (hA : ∀ W, Calls Tryd.prog 21 #[.float .f64 a] W fun r w' => r = .returned (.tuple #[.float .f64 h, .float .f64 l]) ∧ Below W.heap.size W w')
    (hB : ∀ W, Calls Tryd.prog 21 #[.float .f64 b] W fun r w' => r = .returned (.tuple #[.float .f64 i, .float .f64 k]) ∧ Below W.heap.size W w')
    (h2 : FloatKind.f64.format.mul l k = some q1) (h3 : FloatKind.f64.format.mul h i = some q2) (h4 : FloatKind.f64.format.sub p q2 = some q3) (h5 : FloatKind.f64.format.mul l i = some q4) (h6 : FloatKind.f64.format.sub q3 q4 = some q5) (h7 : FloatKind.f64.format.mul h k = some q6) (h8 : FloatKind.f64.format.sub q5 q6 = some q7) (h9 : FloatKind.f64.format.sub q1 q7 = some e) (hs : p < 18446744073709551616) (he : e < 18446744073709551616) :
    Calls Tryd.prog 25 #[.float .f64 a, .float .f64 b] w fun r w' => r = .returned (.tuple #[.float .f64 (canonOf p), .float .f64 (canonOf e)]) ∧ Below w.heap.size w w' := by
  have g1 := f_mul h1
  have g2 := f_mul h2
  have g3 := f_mul h3
  have g4 := f_sub h4
  have g5 := f_mul h5
  have g6 := f_sub h6
  have g7 := f_mul h7
  have g8 := f_sub h8
  have g9 := f_sub h9
  have HA := hid hA
  have HBB := hid hB
  have HC1 := hid (fun (W : World) => Canon_any p W hs)
  have HC2 := hid (fun (W : World) => Canon_any e W he)
  obtain ⟨S, hS⟩ : ∃ S, Hid (canonOf p = S) := ⟨_, rfl⟩
  obtain ⟨E, hE⟩ : ∃ E, Hid (canonOf e = E) := ⟨_, rfl⟩
  rw [hS.out] at HC1 ⊢
  rw [hE.out] at HC2 ⊢
  clear h1 h2 h3 h4 h5 h6 h7 h8 h9 hs he hA hB
  go_enter Tryd.func25, Tryd.ntmps25
  go_wp2_with fail
  refine (HA.out _).mono ?_
  rintro r w1 ⟨rfl, hb1⟩
  have HB1 := hid hb1
  clear hb1
  go_wp2_with fail
  refine (HBB.out _).mono ?_
  rintro r w2 ⟨rfl, hb2⟩
  have HB2 := hid (HB1.out.trans (hb2.mono HB1.out.size))
  clear hb2
  go_wp2_with fail
  refine (HC1.out _).mono ?_
  rintro r w3 ⟨rfl, hb3⟩
  have HB3 := hid (HB2.out.trans (hb3.mono HB2.out.size))
  clear hb3
  go_wp2_with fail
  refine (HC2.out _).mono ?_
  rintro r w4 ⟨rfl, hb4⟩
  have HB4 := hid (HB3.out.trans (hb4.mono HB3.out.size))
  clear hb4
  go_wp2
  go_ret2
  exact ⟨rfl, HB4.out⟩
end Go.Proofs.YteidllapjokhlaaDoor
