
/- What eft's Quick does, and the law's sum. -/
import Derived.Test.YteidllapjokhlaaDoorP46
import Derived.Test.YteidllapjokhlaaDoorP12
import Derived.Test.YteidllapjokhlaaDoorP11
import Derived.Test.YteidllapjokhlaaDoorP3
import Derived.WalkKit
namespace Go.Proofs.YteidllapjokhlaaDoor
open Go.RowKit Go.IntWalk

set_option maxHeartbeats 1000000 in
theorem Quick_at (a b s t e : Nat) (w : World) (h1 : FloatKind.f64.format.add a b = some s) (h2 : FloatKind.f64.format.sub s a = some t) (h5 : FloatKind.f64.format.sub b t = some e) (hs : s < 18446744073709551616) (he : e < 18446744073709551616) :
    Calls Tryd.prog 19 #[.float .f64 a, .float .f64 b] w fun r w' => r = .returned (.tuple #[.float .f64 (canonOf s), .float .f64 (canonOf e)]) ∧ Below w.heap.size w w' := by
  have g1 := f_add h1
  have g2 := f_sub h2
  have g5 := f_sub h5
  have HC1 := hid (fun (W : World) => Canon_any s W hs)
  have HC2 := hid (fun (W : World) => Canon_any e W he)
  obtain ⟨S, hS⟩ : ∃ S, Hid (canonOf s = S) := ⟨_, rfl⟩
  obtain ⟨E, hE⟩ : ∃ E, Hid (canonOf e = E) := ⟨_, rfl⟩
  rw [hS.out] at HC1 ⊢
  rw [hE.out] at HC2 ⊢
  clear h1 h2 h5 hs he
  go_enter Tryd.func19, Tryd.ntmps19
  go_wp2_with fail
  refine (HC1.out _).mono ?_
  rintro r w1 ⟨rfl, hb1⟩
  have HB1 := hid hb1
  clear hb1
  go_wp2_with fail
  refine (HC2.out _).mono ?_
  rintro r w2 ⟨rfl, hb2⟩
  have HB2 := hid (HB1.out.trans (hb2.mono HB1.out.size))
  clear hb2
  go_wp2
  go_ret2
  exact ⟨rfl, HB2.out⟩
set_option maxRecDepth 4000 in
set_option maxHeartbeats 1000000 in
theorem lsum_fin (a b : Nat) (w : World) (ha : a < 18446744073709551616) (hb : b < 18446744073709551616) (fa : a % 9223372036854775808 < 9218868437227405312) (fb : b % 9223372036854775808 < 9218868437227405312) :
    Calls Tryd.prog 16 #[.float .f64 a, .float .f64 b] w fun r w' => ∃ p e, r = .returned (.agg #[.pointer (some ⟨p, 0, none⟩), .int .i64 e]) ∧ (-1074 ≤ e ∧ e ≤ 2000) ∧ ExV w' p e (-1074) (sv a + sv b) 4002 ∧ Below w.heap.size w w' := by
  have HA := hid (fun (W : World) => xOf_fin a W ha fa)
  have HB := hid (fun (W : World) => xOf_fin b W hb fb)
  have HB0 : Hid (Below w.heap.size w (w.alloc (XBox none 0))) := (Below.refl _ _).alloc (Nat.le_refl _) _
  have HRB := hid (fun (W : World) (h : Below (w.alloc (XBox none 0)).heap.size (w.alloc (XBox none 0)) W) => rb_of h)
  obtain ⟨W0, hW0⟩ : ∃ V, Hid (w.alloc (XBox none 0) = V) := ⟨_, rfl⟩
  rw [hW0.out] at HB0 HRB
  unfold XBox at hW0
  have hW0' := hW0.out
  clear ha hb fa fb
  go_enter Tryd.func16, Tryd.ntmps16
  go_wp2_with fail
  refine (HA.out _).mono ?_
  rintro r w1 ⟨p1, e1, rfl, ⟨b1, b1'⟩, hx1, hb1⟩
  have HX1 := hid hx1
  have HB1 := hid hb1
  clear hx1 hb1
  go_wp2_with fail
  refine (HB.out _).mono ?_
  rintro r w2 ⟨p2, e2, rfl, ⟨b2, b2'⟩, hx2, hb2⟩
  have HX2 := hid hx2
  have HX1 := hid (HX1.out.below hb2)
  have HB2 := hid (HB1.out.trans (hb2.mono HB1.out.size))
  clear hx2 hb2
  go_wp2_with fail
  refine (xAdd_val p1 p2 2 2 e1 e2 _ _ _ _ HX1.out HX2.out (by decide) (by decide) (by omega) (by omega)).mono ?_
  rintro r w4 ⟨p4, e4, rfl, ⟨b4, b4'⟩, hx4, hb4⟩
  have HX4 := hid hx4
  have HB4 := hid (HB2.out.trans (hb4.mono HB2.out.size))
  have HR := hid (HRB.out _ HB4.out)
  obtain ⟨z0, z1, z2⟩ := xcells_of (show w4.heap[w.heap.size]? = some (.cells #[.pointer none, .int .i64 0] 40) from HR.out)
  have HE4 := hid (show -1074 ≤ e4 ∧ e4 ≤ 2000 by omega)
  have HBE : Hid (Below w.heap.size w w4) := HB0.out.trans (HB4.out.mono HB0.out.size)
  clear hx4 hb4
  go_wp2
  exact bodyPost_ret (v := .agg #[.pointer (some ⟨p4, 0, none⟩), .int .i64 e4]) (by simp [results, Tryd.results16, go_sem, z0, z1]) rfl ⟨p4, e4, rfl, HE4.out, HX4.out.stored HR.out _ _, Below.setCell (Below.setCell HBE.out (Nat.le_refl _) _) (Nat.le_refl _) _⟩
end Go.Proofs.YteidllapjokhlaaDoor

namespace Go.Proofs.YteidllapjokhlaaDoor
open Go.RowKit Go.IntWalk

theorem nv_1022 : nv 9209861237972664320 = 4503599627370496 * 2 ^ kG := by decide +kernel
theorem sv_1022 {x : Nat} (h : x % 9223372036854775808 ≤ 9209861237972664320) : (sv x).natAbs ≤ 4503599627370496 * 2 ^ kG := by
  rw [← nv_1022]
  have := nv_le h
  unfold sv
  split <;> omega
theorem canon_fin {x : Nat} (h : x % 9223372036854775808 < 9218868437227405312) : canonOf x = x := if_neg (by omega)
theorem nv_nought {r : Nat} (h : nv r = 0) : r = 0 := by
  by_cases c : r = 0
  · exact c
  · have := nv_lt (show 0 < r by omega); omega
theorem sv_nought {x : Nat} (h : sv x = 0) : x % 9223372036854775808 = 0 := by
  apply nv_nought
  unfold sv at h
  split at h <;> omega
theorem order_same (x y : Nat) (hx : x < 18446744073709551616) (hy : y < 18446744073709551616) (nx : x % 9223372036854775808 < 9218868437227405312) (ny : y % 9223372036854775808 < 9218868437227405312) (h : sv x = sv y) : FloatKind.f64.format.order x y = some .eq := by
  rw [order_eq x y hx hy (by omega) (by omega), cmp_eq h]
theorem order_diff (x y : Nat) (hx : x < 18446744073709551616) (hy : y < 18446744073709551616) (nx : x % 9223372036854775808 < 9218868437227405312) (ny : y % 9223372036854775808 < 9218868437227405312) (h : sv x ≠ sv y) : (FloatKind.f64.format.order x y != some .eq) = true := by
  rw [order_eq x y hx hy (by omega) (by omega)]
  rcases (by omega : sv x < sv y ∨ sv y < sv x) with c | c
  · rw [cmp_lt c]; rfl
  · rw [cmp_gt c]; rfl
theorem sv_abs (x y : Nat) (h : ¬ x % 9223372036854775808 < y % 9223372036854775808) : (sv y).natAbs ≤ (sv x).natAbs := by
  have := nv_le (Nat.le_of_not_lt h)
  unfold sv
  split <;> split <;> omega
theorem order_less (r c : Nat) (hr : r < 9218868437227405312) (hc : c < 9218868437227405312) : (FloatKind.f64.format.order r c == some .lt) = decide (r < c) := by
  rw [order_mag r c (by omega) (by omega)]
  by_cases h : r < c
  · rw [if_pos h, decide_eq_true h]; rfl
  · rw [if_neg h, decide_eq_false h]
    split <;> rfl
set_option maxHeartbeats 400000 in
theorem lawf4 (x : Nat) (w : World) : Calls Tryd.prog 9 #[.int .u64 x] w fun r w' => r = .returned (.float .f64 x) ∧ w' = w := by
  have h64 := f64from
  go_enter Tryd.func9, Tryd.ntmps9
  go_wp2
  go_ret
  exact ⟨rfl, rfl⟩
set_option maxHeartbeats 400000 in
theorem alike_any (x y : Nat) (w : World) (h : FloatKind.f64.format.order x y = some .eq) : Calls Tryd.prog 20 #[.float .f64 x, .float .f64 y] w fun r w' => r = .returned (.bool true) ∧ w' = w := by
  go_enter Tryd.func20, Tryd.ntmps20
  go_wp2
  go_ret
  exact ⟨rfl, rfl⟩
/-- All that Two, the sums of it and Quick answer. -/
theorem two_all (a b : Nat) (ha : a < 18446744073709551616) (hb : b < 18446744073709551616) (ka : a % 9223372036854775808 ≤ 9209861237972664320) (kb : b % 9223372036854775808 ≤ 9209861237972664320) :
    ∃ s e, (∀ W, Calls Tryd.prog 14 #[.float .f64 a, .float .f64 b] W fun r w' => r = .returned (.tuple #[.float .f64 s, .float .f64 e]) ∧ Below W.heap.size W w')
      ∧ (∀ W, Calls Tryd.prog 15 #[.float .f64 s] W fun r w' => r = .returned (.bool true) ∧ w' = W)
      ∧ (∀ W, Calls Tryd.prog 15 #[.float .f64 e] W fun r w' => r = .returned (.bool true) ∧ w' = W)
      ∧ (∀ W, Calls Tryd.prog 16 #[.float .f64 s, .float .f64 e] W fun r w' => ∃ p e, r = .returned (.agg #[.pointer (some ⟨p, 0, none⟩), .int .i64 e]) ∧ (-1074 ≤ e ∧ e ≤ 2000) ∧ ExV w' p e (-1074) (sv a + sv b) 4002 ∧ Below W.heap.size W w')
      ∧ FloatKind.f64.format.add a b = some s ∧ FloatKind.f64.format.order s s = some .eq
      ∧ (sv a = 0 ∨ ¬ a % 9223372036854775808 < b % 9223372036854775808 → ∃ q r, (∀ W, Calls Tryd.prog 19 #[.float .f64 a, .float .f64 b] W fun z w' => z = .returned (.tuple #[.float .f64 q, .float .f64 r]) ∧ Below W.heap.size W w')
        ∧ FloatKind.f64.format.order q s = some .eq ∧ FloatKind.f64.format.order r e = some .eq) := by
  have fa : Fin64 a (sv a) := ⟨ha, by omega, rfl⟩
  have fb : Fin64 b (sv b) := ⟨hb, by omega, rfl⟩
  obtain ⟨s, t, e1, e2, e3, e, h1, h2, h3, h4, h5, h6, ⟨s1, s2, s3⟩, ⟨r1, r2, r3⟩⟩ := two_vals a b _ _ fa fb (sv_1022 ka) (sv_1022 kb)
  refine ⟨s, e, ?_, ?_, ?_, ?_, h1, order_same s s s1 s1 s2 s2 rfl, ?_⟩
  · intro W
    have := Two_at a b s t e1 e2 e3 e W h1 h2 h3 h4 h5 h6 s1 r1
    rw [canon_fin s2, canon_fin r2] at this
    exact this
  · intro W
    have := rfin4 s W s1
    rw [decide_eq_true s2] at this
    exact this
  · intro W
    have := rfin4 e W r1
    rw [decide_eq_true r2] at this
    exact this
  · intro W
    have := lsum_fin s e W s1 r1 s2 r2
    rw [s3, r3, show rz (sv a + sv b) + (sv a + sv b - rz (sv a + sv b)) = sv a + sv b by omega] at this
    exact this
  · intro hq
    obtain ⟨s', t', e', k1, k2, k3, ⟨u1, u2, u3⟩, ⟨v1, v2, v3⟩⟩ := quick_vals a b _ _ fa fb (sv_1022 ka) (sv_1022 kb) (hq.imp id (sv_abs a b))
    refine ⟨s', e', ?_, order_same _ _ u1 s1 u2 s2 (by rw [u3, s3]), order_same _ _ v1 r1 v2 r2 (by rw [v3, r3])⟩
    intro W
    have := Quick_at a b s' t' e' W k1 k2 k3 u1 v1
    rw [canon_fin u2, canon_fin v2] at this
    exact this
end Go.Proofs.YteidllapjokhlaaDoor

namespace Go.Proofs.YteidllapjokhlaaDoor
open Go.RowKit Go.IntWalk

theorem info_f : (Tryd.prog.info? 27).map (fun i => (i.zero, i.size, i.bytes)) = some (some (.float .f64 0), 1, 8) := by kernel_rfl
/-- The numbers that a slice made here owns. -/
def Owns (w : World) (base : Nat) (v : Value) (xs : List Nat) : Prop := w.ownsRow base 27 1 v xs.length (xs.map (Value.float .f64))
set_option maxRecDepth 4000 in
set_option maxHeartbeats 1000000 in
theorem lay_one (x b base : Nat) (v : Value) (xs : List Nat) (w : World) (hx : x < 18446744073709551616) (h0 : x % 9223372036854775808 ≠ 0) (hown : Owns w base v xs) (hc : w.cell? ⟨b, 0, none⟩ = some (.float .f64 x)) (hb : base ≤ w.heap.size) (hn : xs.length ≤ 1000) :
    Calls Tryd.prog 48 #[v, .slice (some ⟨b, 0, none⟩) 1 1] w fun r w' => ∃ v', r = .returned v' ∧ Owns w' base v' (xs ++ [x]) ∧ Below base w w' := by
  have ho := order_zero x hx
  have ho2 : (FloatKind.f64.format.order x 0 != some .eq) = true := by rw [bne, ho, decide_eq_false h0]; rfl
  obtain ⟨i0, hi, hz0, hz1, hz2⟩ := info_parts info_f
  clear ho
  go_enter Tryd.func48, Tryd.ntmps48
  go_wp2_with fail
  go_loopw [0, 9] (fun u i wr => (i = .int .i64 0 ∧ u = v ∧ wr = w) ∨ (i = .int .i64 1 ∧ Hid (Owns wr base u (xs ++ [x])) ∧ Hid (Below base w wr))) (fun _ i _ => 1 - (intOf i).toNat)
  case atStart => exact Or.inl ⟨rfl, rfl, rfl⟩
  case round =>
    rcases hrel with ⟨rfl, rfl, rfl⟩ | ⟨rfl, HO, HB⟩
    · go_wp2_with (first
        | (at_builtin; (refine wpList_append_own _ rfl _ _ 50 rfl base 27 i0 (.float .f64 0) 1 8 Tryd.underlying50 hi hz0 hz1 hz2 rfl (by decide) _ _ _ rfl (hown.alloc _) ⟨wr.heap.size, 0, none⟩ 1 1 [.float .f64 x] rfl rfl ?c1 ?c2 ?c3 ?c4 ?c5 ?_)))
      case c1 =>
        intro j u hj
        match j, hj with
        | 0, hj => simp at hj; subst hj; simp [Addr.add]
      case c2 => intro u hu; simp at hu; subst hu; rfl
      case c3 => unfold maxLen; omega
      case c4 => omega
      case c5 => simp; omega
      intro v' w1 hown' hgrow _
      have HO : Hid (Owns w1 base v' (xs ++ [x])) := by
        show w1.ownsRow _ _ _ _ _ _
        rw [List.length_append, List.map_append]
        exact hown'
      have HB : Hid (Below base wr w1) := ((Below.refl base wr).alloc hb _).grown hgrow (by simp; omega) (fun k hk => (World.ownsRow.lt hown k hk).1)
      clear hown' hgrow hown hc
      go_wp2
      refine ⟨Or.inr ⟨by go_num, HO, HB⟩, ?_⟩
      simp [intOf]
    · go_wp2
      go_ret
      exact ⟨_, rfl, HO.out, HB.out⟩
end Go.Proofs.YteidllapjokhlaaDoor
