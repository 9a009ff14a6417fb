
/- The document's minus. -/
import Derived.Test.YteidllapjokhlaaDoorP36
import Derived.Test.YteidllapjokhlaaDoorP39
import Derived.Test.YteidllapjokhlaaDoorP43
import Derived.Test.YteidllapjokhlaaDoorP10
import Derived.Test.YteidllapjokhlaaDoorP11
namespace Go.Proofs.YteidllapjokhlaaDoor
open Go.RowKit Go.IntWalk

theorem NumAt.ne_x {W : World} {p b bd : Nat} {v e : Int} {q : Option Addr} (h : NumAt W p v bd) (hb : W.heap[b]? = some (XBox q e)) : p ≠ b := by
  intro c
  subst c
  obtain ⟨neg, L, _, _, a, cap, ho, _⟩ := h
  rw [ho] at hb
  unfold XBox at hb
  simp at hb
theorem ExV.stored {W : World} {p b bd : Nat} {e B z e0 : Int} {q : Option Addr} (h : ExV W p e B z bd) (hb : W.heap[b]? = some (XBox q e0)) (x y : Value) : ExV ((W.setCell ⟨b, 0, none⟩ x).setCell ⟨b, 1, none⟩ y) p e B z bd := by
  obtain ⟨v, k, f1, f2, f3⟩ := h
  exact ⟨v, k, f1.stored (f1.ne_x hb) hb x y, f2, f3⟩
theorem rb_of {w W : World} (h : Below (w.alloc (XBox none 0)).heap.size (w.alloc (XBox none 0)) W) : W.heap[w.heap.size]? = some (XBox none 0) := by
  rw [h.block _ (by simp)]
  exact new_blk _ _ _ rfl
set_option maxRecDepth 4000 in
set_option maxHeartbeats 1000000 in
theorem minus_fin (a b : Nat) (w : World) (ha : a < 18446744073709551616) (hb : b < 18446744073709551616) (fa : a % 9223372036854775808 < 9218868437227405312) (fb : b % 9223372036854775808 < 9218868437227405312) :
    Calls Tryd.prog 33 #[.float .f64 a, .float .f64 b] w fun r w' => ∃ p e, r = .returned (.agg #[.pointer (some ⟨p, 0, none⟩), .int .i64 e]) ∧ (-1074 ≤ e ∧ e ≤ 2000) ∧ ExV w' p e (-1074) (sv a - sv b) 4002 ∧ Below w.heap.size w w' := by
  have HA := hid (fun (W : World) => xOf_fin a W ha fa)
  have HB := hid (fun (W : World) => xOf_fin b W hb fb)
  have HB0 : Hid (Below w.heap.size w (w.alloc (XBox none 0))) := (Below.refl _ _).alloc (Nat.le_refl _) _
  have HRB := hid (fun (W : World) (h : Below (w.alloc (XBox none 0)).heap.size (w.alloc (XBox none 0)) W) => rb_of h)
  obtain ⟨W0, hW0⟩ : ∃ V, Hid (w.alloc (XBox none 0) = V) := ⟨_, rfl⟩
  rw [hW0.out] at HB0 HRB
  unfold XBox at hW0
  have hW0' := hW0.out
  clear ha hb fa fb
  go_enter Tryd.func33, Tryd.ntmps33
  go_wp2_with fail
  refine (HA.out _).mono ?_
  rintro r w1 ⟨p1, e1, rfl, ⟨b1, b1'⟩, hx1, hb1⟩
  have HX1 := hid hx1
  have HB1 := hid hb1
  clear hx1 hb1
  go_wp2_with fail
  refine (HB.out _).mono ?_
  rintro r w2 ⟨p2, e2, rfl, ⟨b2, b2'⟩, hx2, hb2⟩
  have HX2 := hid hx2
  have HX1 := hid (HX1.out.below hb2)
  have HB2 := hid (HB1.out.trans (hb2.mono HB1.out.size))
  clear hx2 hb2
  go_wp2_with fail
  refine (xNeg_val p2 2 e2 _ _ _ HX2.out (by decide)).mono ?_
  rintro r w3 ⟨p3, rfl, hx3, hb3⟩
  have HX3 := hid hx3
  have HX1 := hid (HX1.out.below hb3)
  have HB3 := hid (HB2.out.trans (hb3.mono HB2.out.size))
  clear hx3 hb3
  go_wp2_with fail
  refine (xAdd_val p1 p3 2 2 e1 e2 _ _ _ _ HX1.out HX3.out (by decide) (by decide) (by omega) (by omega)).mono ?_
  rintro r w4 ⟨p4, e4, rfl, ⟨b4, b4'⟩, hx4, hb4⟩
  have HX4 := hid hx4
  have HB4 := hid (HB3.out.trans (hb4.mono HB3.out.size))
  have HR := hid (HRB.out _ HB4.out)
  obtain ⟨z0, z1, z2⟩ := xcells_of (show w4.heap[w.heap.size]? = some (.cells #[.pointer none, .int .i64 0] 40) from HR.out)
  have HE4 := hid (show -1074 ≤ e4 ∧ e4 ≤ 2000 by omega)
  have HBE : Hid (Below w.heap.size w w4) := HB0.out.trans (HB4.out.mono HB0.out.size)
  clear hx4 hb4
  go_wp2
  exact bodyPost_ret (v := .agg #[.pointer (some ⟨p4, 0, none⟩), .int .i64 e4]) (by simp [results, Tryd.results33, go_sem, z0, z1]) rfl ⟨p4, e4, rfl, HE4.out, HX4.out.stored HR.out _ _, Below.setCell (Below.setCell HBE.out (Nat.le_refl _) _) (Nat.le_refl _) _⟩
end Go.Proofs.YteidllapjokhlaaDoor

namespace Go.Proofs.YteidllapjokhlaaDoor
open Go.RowKit Go.IntWalk

theorem ret_fl {a b : Nat} (h : a = b) : Ending.returned (.float .f64 a) = .returned (.float .f64 b) := by rw [h]
set_option maxHeartbeats 400000 in
theorem abs_fl (x : Nat) (w : World) (hx : x < 18446744073709551616) : Calls Tryd.prog 18 #[.float .f64 x] w fun r w' => r = .returned (.float .f64 (x % 9223372036854775808)) ∧ w' = w := by
  have h1 := f64bits
  have h2 := f64fromI3
  have H := hid (andNot_sign x hx)
  clear hx
  go_enter Tryd.func18, Tryd.ntmps18
  go_wp2
  go_ret
  exact ⟨ret_fl (by rw [H.out]; rfl), rfl⟩
theorem sv_mag (r : Nat) (h : r < 9223372036854775808) : sv r = (nv r : Int) := by
  unfold sv
  rw [if_neg (by omega), Nat.mod_eq_of_lt h]
theorem order_mag (r c : Nat) (hr : r ≤ 9218868437227405312) (hc : c ≤ 9218868437227405312) : FloatKind.f64.format.order r c = some (if r < c then .lt else if c < r then .gt else .eq) := by
  rw [order_eq r c (by omega) (by omega) (by omega) (by omega), sv_mag r (by omega), sv_mag c (by omega)]
  congr 1
  by_cases h1 : r < c
  · rw [if_pos h1]
    exact cmp_lt (by have := nv_lt h1; omega)
  · rw [if_neg h1]
    by_cases h2 : c < r
    · rw [if_pos h2]
      exact cmp_gt (by have := nv_lt h2; omega)
    · rw [if_neg h2]
      have : r = c := by omega
      rw [this]
      exact cmp_eq rfl
theorem order_max (r : Nat) : r < 9223372036854775808 → (FloatKind.f64.format.order r 9218868437227405311 == some .gt) = decide (r = 9218868437227405312) := by
  intro hr
  by_cases h : 9218868437227405312 < r
  · rw [order_nan_l r _ (by rw [Nat.mod_eq_of_lt hr]; exact h), decide_eq_false (by omega)]; rfl
  · rw [order_mag r _ (by omega) (by decide)]
    by_cases c : r = 9218868437227405312
    · rw [if_neg (by omega), if_pos (by omega), decide_eq_true c]; rfl
    · rw [decide_eq_false c]
      by_cases d : r < 9218868437227405311
      · rw [if_pos d]; rfl
      · rw [if_neg d, if_neg (by omega)]; rfl
set_option maxHeartbeats 400000 in
theorem isinf_fl (x : Nat) (w : World) (hx : x < 18446744073709551616) : Calls Tryd.prog 36 #[.float .f64 x, .int .i64 0] w fun r w' => r = .returned (.bool (decide (x % 9223372036854775808 = 9218868437227405312))) ∧ w' = w := by
  have H := hid (order_max (x % 9223372036854775808) (by omega))
  have HA := hid (fun (W : World) => abs_fl x W hx)
  obtain ⟨r, hr⟩ : ∃ r, Hid (x % 9223372036854775808 = r) := ⟨_, rfl⟩
  rw [hr.out] at H HA ⊢
  clear hx
  go_enter Tryd.func36, Tryd.ntmps36
  go_wp2_with fail
  refine (HA.out _).mono ?_
  rintro z w1 ⟨rfl, rfl⟩
  go_wp2
  go_ret
  exact ⟨ret_bool H.out, rfl⟩
set_option maxHeartbeats 400000 in
theorem rfin4 (x : Nat) (w : World) (hx : x < 18446744073709551616) : Calls Tryd.prog 15 #[.float .f64 x] w fun r w' => r = .returned (.bool (decide (x % 9223372036854775808 < 9218868437227405312))) ∧ w' = w := by
  have HI := hid (fun (W : World) => isinf_fl x W hx)
  have ho := order_self x hx
  have ho2 : (FloatKind.f64.format.order x x == some .eq) = decide (x % 9223372036854775808 ≤ 9218868437227405312) := by
    have : (FloatKind.f64.format.order x x == some .eq) = !(FloatKind.f64.format.order x x != some .eq) := by rw [bne, Bool.not_not]
    rw [this, ho]
    by_cases c : 9218868437227405312 < x % 9223372036854775808
    · rw [decide_eq_true c, decide_eq_false (by omega)]; rfl
    · rw [decide_eq_false c, decide_eq_true (by omega)]; rfl
  by_cases c : x % 9223372036854775808 = 9218868437227405312
  · rw [decide_eq_false (by omega)]
    rw [decide_eq_true c] at HI
    clear hx ho ho2 c
    go_enter Tryd.func15, Tryd.ntmps15
    go_wp2_with fail
    refine (HI.out _).mono ?_
    rintro z w1 ⟨rfl, rfl⟩
    go_wp2
    go_ret
    exact ⟨rfl, rfl⟩
  · rw [decide_eq_false c] at HI
    have e : decide (x % 9223372036854775808 < 9218868437227405312) = decide (x % 9223372036854775808 ≤ 9218868437227405312) := decide_eq_decide.2 (by omega)
    rw [e]
    obtain ⟨B, hB⟩ : ∃ B, Hid (decide (x % 9223372036854775808 ≤ 9218868437227405312) = B) := ⟨_, rfl⟩
    rw [hB.out] at ho2 ⊢
    clear hx ho c e
    go_enter Tryd.func15, Tryd.ntmps15
    go_wp2_with fail
    refine (HI.out _).mono ?_
    rintro z w1 ⟨rfl, rfl⟩
    go_wp2
    go_ret
    exact ⟨rfl, rfl⟩
theorem bt2 : bits .or .u64 0 9209861237972664320 = 9209861237972664320 := by decide +kernel
set_option maxHeartbeats 1000000 in
theorem ldexp_1022 (w : World) : Calls Tryd.prog 59 #[.float .f64 4607182418800017408, .int .i64 1022] w fun r w' => r = .returned (.float .f64 9209861237972664320) ∧ w' = w := by
  obtain ⟨g1, g2, g3, g4⟩ := o1
  obtain ⟨b1, b2, b3, _⟩ := bt1
  have b4 := bt2
  have h1 := f64bits
  have h2 := f64fromI3
  have hm := f_mul (x := 4607182418800017408) (y := 9209861237972664320) (z := 9209861237972664320) (by decide +kernel)
  have c0 : wrap64 0 = 0 := by decide +kernel
  have c1 : wrap64 1022 = 1022 := by decide +kernel
  go_enter Tryd.func59, Tryd.ntmps59
  go_wp2
  go_ret
  exact ⟨rfl, rfl⟩
set_option maxHeartbeats 1000000 in
theorem Ldexp_1022 (w : World) : Calls Tryd.prog 34 #[.float .f64 4607182418800017408, .int .i64 1022] w fun r w' => r = .returned (.float .f64 9209861237972664320) ∧ w' = w := by
  go_enter Tryd.func34, Tryd.ntmps34
  go_wp2_with fail
  refine (ldexp_1022 _).mono ?_
  rintro r w1 ⟨rfl, rfl⟩
  go_wp2
  go_ret
  exact ⟨rfl, rfl⟩
set_option maxHeartbeats 1000000 in
theorem below_any (x : Nat) (w : World) (hx : x < 18446744073709551616) : Calls Tryd.prog 13 #[.float .f64 x, .int .i64 1022] w fun r w' => r = .returned (.bool (decide (x % 9223372036854775808 ≤ 9209861237972664320))) ∧ w' = w := by
  have HF := hid (fun (W : World) => rfin4 x W hx)
  have HA := hid (fun (W : World) => abs_fl x W hx)
  obtain ⟨r, hr⟩ : ∃ r, Hid (x % 9223372036854775808 = r) := ⟨_, rfl⟩
  rw [hr.out] at HF HA ⊢
  by_cases c : r < 9218868437227405312
  · rw [decide_eq_true c] at HF
    have ho := order_mag r 9209861237972664320 (by omega) (by decide)
    by_cases d : r ≤ 9209861237972664320
    · rw [decide_eq_true d]
      rw [if_neg (by omega : ¬ 9209861237972664320 < r)] at ho
      by_cases e : r < 9209861237972664320
      · rw [if_pos e] at ho
        clear hx c d e
        go_enter Tryd.func13, Tryd.ntmps13
        go_wp2_with fail
        refine (HF.out _).mono ?_
        rintro z w1 ⟨rfl, rfl⟩
        go_wp2_with fail
        refine (HA.out _).mono ?_
        rintro z w1 ⟨rfl, rfl⟩
        go_wp2_with fail
        refine (Ldexp_1022 _).mono ?_
        rintro z w1 ⟨rfl, rfl⟩
        go_wp2
        go_ret
        exact ⟨rfl, rfl⟩
      · rw [if_neg e] at ho
        clear hx c d e
        go_enter Tryd.func13, Tryd.ntmps13
        go_wp2_with fail
        refine (HF.out _).mono ?_
        rintro z w1 ⟨rfl, rfl⟩
        go_wp2_with fail
        refine (HA.out _).mono ?_
        rintro z w1 ⟨rfl, rfl⟩
        go_wp2_with fail
        refine (Ldexp_1022 _).mono ?_
        rintro z w1 ⟨rfl, rfl⟩
        go_wp2
        go_ret
        exact ⟨rfl, rfl⟩
    · rw [decide_eq_false d]
      rw [if_neg (by omega), if_pos (by omega)] at ho
      clear hx c d
      go_enter Tryd.func13, Tryd.ntmps13
      go_wp2_with fail
      refine (HF.out _).mono ?_
      rintro z w1 ⟨rfl, rfl⟩
      go_wp2_with fail
      refine (HA.out _).mono ?_
      rintro z w1 ⟨rfl, rfl⟩
      go_wp2_with fail
      refine (Ldexp_1022 _).mono ?_
      rintro z w1 ⟨rfl, rfl⟩
      go_wp2
      go_ret
      exact ⟨rfl, rfl⟩
  · rw [decide_eq_false c] at HF
    rw [decide_eq_false (by omega)]
    clear hx c
    go_enter Tryd.func13, Tryd.ntmps13
    go_wp2_with fail
    refine (HF.out _).mono ?_
    rintro z w1 ⟨rfl, rfl⟩
    go_wp2
    go_ret
    exact ⟨rfl, rfl⟩
end Go.Proofs.YteidllapjokhlaaDoor
