
/- The document's minus. -/
import Derived.Test.YtijadahpddmhjaaGreatDoorP39
import Derived.Test.YtijadahpddmhjaaGreatDoorP36
import Derived.Test.YtijadahpddmhjaaGreatDoorP43
import Derived.Test.YtijadahpddmhjaaGreatDoorP20
import Derived.Test.YtijadahpddmhjaaGreatDoorP26
import Derived.Test.YtijadahpddmhjaaGreatDoorP40
namespace Go.Proofs.YtijadahpddmhjaaGreatDoor
open Go.RowKit Go.IntWalk

theorem NumAt.ne_x {W : World} {p b bd : Nat} {v e : Int} {q : Option Addr} (h : NumAt W p v bd) (hb : W.heap[b]? = some (XBox q e)) : p ≠ b := by
  intro c
  subst c
  obtain ⟨neg, L, _, _, a, cap, ho, _⟩ := h
  rw [ho] at hb
  unfold XBox at hb
  simp at hb
theorem ExV.stored {W : World} {p b bd : Nat} {e B z e0 : Int} {q : Option Addr} (h : ExV W p e B z bd) (hb : W.heap[b]? = some (XBox q e0)) (x y : Value) : ExV ((W.setCell ⟨b, 0, none⟩ x).setCell ⟨b, 1, none⟩ y) p e B z bd := by
  obtain ⟨v, k, f1, f2, f3⟩ := h
  exact ⟨v, k, f1.stored (f1.ne_x hb) hb x y, f2, f3⟩
theorem rb_of {w W : World} (h : Below (w.alloc (XBox none 0)).heap.size (w.alloc (XBox none 0)) W) : W.heap[w.heap.size]? = some (XBox none 0) := by
  rw [h.block _ (by simp)]
  exact new_blk _ _ _ rfl
end Go.Proofs.YtijadahpddmhjaaGreatDoor

namespace Go.Proofs.YtijadahpddmhjaaGreatDoor
open Go.RowKit Go.IntWalk

theorem ret_fl {a b : Nat} (h : a = b) : Ending.returned (.float .f64 a) = .returned (.float .f64 b) := by rw [h]
set_option maxHeartbeats 400000 in
theorem abs_fl (x : Nat) (w : World) (hx : x < 18446744073709551616) : Calls Tryz.prog 44 #[.float .f64 x] w fun r w' => r = .returned (.float .f64 (x % 9223372036854775808)) ∧ w' = w := by
  have h1 := f64bits
  have h2 := f64fromI3
  have H := hid (andNot_sign x hx)
  clear hx
  go_enter Tryz.func44, Tryz.ntmps44
  go_wp2
  go_ret
  exact ⟨ret_fl (by rw [H.out]; rfl), rfl⟩
theorem sv_mag (r : Nat) (h : r < 9223372036854775808) : sv r = (nv r : Int) := by
  unfold sv
  rw [if_neg (by omega), Nat.mod_eq_of_lt h]
theorem order_mag (r c : Nat) (hr : r ≤ 9218868437227405312) (hc : c ≤ 9218868437227405312) : FloatKind.f64.format.order r c = some (if r < c then .lt else if c < r then .gt else .eq) := by
  rw [order_eq r c (by omega) (by omega) (by omega) (by omega), sv_mag r (by omega), sv_mag c (by omega)]
  congr 1
  by_cases h1 : r < c
  · rw [if_pos h1]
    exact cmp_lt (by have := nv_lt h1; omega)
  · rw [if_neg h1]
    by_cases h2 : c < r
    · rw [if_pos h2]
      exact cmp_gt (by have := nv_lt h2; omega)
    · rw [if_neg h2]
      have : r = c := by omega
      rw [this]
      exact cmp_eq rfl
theorem order_max (r : Nat) : r < 9223372036854775808 → (FloatKind.f64.format.order r 9218868437227405311 == some .gt) = decide (r = 9218868437227405312) := by
  intro hr
  by_cases h : 9218868437227405312 < r
  · rw [order_nan_l r _ (by rw [Nat.mod_eq_of_lt hr]; exact h), decide_eq_false (by omega)]; rfl
  · rw [order_mag r _ (by omega) (by decide)]
    by_cases c : r = 9218868437227405312
    · rw [if_neg (by omega), if_pos (by omega), decide_eq_true c]; rfl
    · rw [decide_eq_false c]
      by_cases d : r < 9218868437227405311
      · rw [if_pos d]; rfl
      · rw [if_neg d, if_neg (by omega)]; rfl
set_option maxHeartbeats 400000 in
theorem isinf_fl (x : Nat) (w : World) (hx : x < 18446744073709551616) : Calls Tryz.prog 54 #[.float .f64 x, .int .i64 0] w fun r w' => r = .returned (.bool (decide (x % 9223372036854775808 = 9218868437227405312))) ∧ w' = w := by
  have H := hid (order_max (x % 9223372036854775808) (by omega))
  have HA := hid (fun (W : World) => abs_fl x W hx)
  obtain ⟨r, hr⟩ : ∃ r, Hid (x % 9223372036854775808 = r) := ⟨_, rfl⟩
  rw [hr.out] at H HA ⊢
  clear hx
  go_enter Tryz.func54, Tryz.ntmps54
  go_wp2_with fail
  refine (HA.out _).mono ?_
  rintro z w1 ⟨rfl, rfl⟩
  go_wp2
  go_ret
  exact ⟨ret_bool H.out, rfl⟩
set_option maxHeartbeats 400000 in
theorem rfin4 (x : Nat) (w : World) (hx : x < 18446744073709551616) : Calls Tryz.prog 26 #[.float .f64 x] w fun r w' => r = .returned (.bool (decide (x % 9223372036854775808 < 9218868437227405312))) ∧ w' = w := by
  have HI := hid (fun (W : World) => isinf_fl x W hx)
  have ho := order_self x hx
  have ho2 : (FloatKind.f64.format.order x x == some .eq) = decide (x % 9223372036854775808 ≤ 9218868437227405312) := by
    have : (FloatKind.f64.format.order x x == some .eq) = !(FloatKind.f64.format.order x x != some .eq) := by rw [bne, Bool.not_not]
    rw [this, ho]
    by_cases c : 9218868437227405312 < x % 9223372036854775808
    · rw [decide_eq_true c, decide_eq_false (by omega)]; rfl
    · rw [decide_eq_false c, decide_eq_true (by omega)]; rfl
  by_cases c : x % 9223372036854775808 = 9218868437227405312
  · rw [decide_eq_false (by omega)]
    rw [decide_eq_true c] at HI
    clear hx ho ho2 c
    go_enter Tryz.func26, Tryz.ntmps26
    go_wp2_with fail
    refine (HI.out _).mono ?_
    rintro z w1 ⟨rfl, rfl⟩
    go_wp2
    go_ret
    exact ⟨rfl, rfl⟩
  · rw [decide_eq_false c] at HI
    have e : decide (x % 9223372036854775808 < 9218868437227405312) = decide (x % 9223372036854775808 ≤ 9218868437227405312) := decide_eq_decide.2 (by omega)
    rw [e]
    obtain ⟨B, hB⟩ : ∃ B, Hid (decide (x % 9223372036854775808 ≤ 9218868437227405312) = B) := ⟨_, rfl⟩
    rw [hB.out] at ho2 ⊢
    clear hx ho c e
    go_enter Tryz.func26, Tryz.ntmps26
    go_wp2_with fail
    refine (HI.out _).mono ?_
    rintro z w1 ⟨rfl, rfl⟩
    go_wp2
    go_ret
    exact ⟨rfl, rfl⟩
theorem bt2 : bits .or .u64 0 9209861237972664320 = 9209861237972664320 := by decide +kernel
set_option maxHeartbeats 1000000 in
theorem ldexp_1022 (w : World) : Calls Tryz.prog 74 #[.float .f64 4607182418800017408, .int .i64 1022] w fun r w' => r = .returned (.float .f64 9209861237972664320) ∧ w' = w := by
  obtain ⟨g1, g2, g3, g4⟩ := o1
  obtain ⟨b1, b2, b3, _⟩ := bt1
  have b4 := bt2
  have h1 := f64bits
  have h2 := f64fromI3
  have hm := f_mul (x := 4607182418800017408) (y := 9209861237972664320) (z := 9209861237972664320) (by decide +kernel)
  have c0 : wrap64 0 = 0 := by decide +kernel
  have c1 : wrap64 1022 = 1022 := by decide +kernel
  go_enter Tryz.func74, Tryz.ntmps74
  go_wp2
  go_ret
  exact ⟨rfl, rfl⟩
set_option maxHeartbeats 1000000 in
theorem Ldexp_1022 (w : World) : Calls Tryz.prog 45 #[.float .f64 4607182418800017408, .int .i64 1022] w fun r w' => r = .returned (.float .f64 9209861237972664320) ∧ w' = w := by
  go_enter Tryz.func45, Tryz.ntmps45
  go_wp2_with fail
  refine (ldexp_1022 _).mono ?_
  rintro r w1 ⟨rfl, rfl⟩
  go_wp2
  go_ret
  exact ⟨rfl, rfl⟩
set_option maxHeartbeats 1000000 in
theorem below_any (x : Nat) (w : World) (hx : x < 18446744073709551616) : Calls Tryz.prog 18 #[.float .f64 x, .int .i64 1022] w fun r w' => r = .returned (.bool (decide (x % 9223372036854775808 ≤ 9209861237972664320))) ∧ w' = w := by
  have HF := hid (fun (W : World) => rfin4 x W hx)
  have HA := hid (fun (W : World) => abs_fl x W hx)
  obtain ⟨r, hr⟩ : ∃ r, Hid (x % 9223372036854775808 = r) := ⟨_, rfl⟩
  rw [hr.out] at HF HA ⊢
  by_cases c : r < 9218868437227405312
  · rw [decide_eq_true c] at HF
    have ho := order_mag r 9209861237972664320 (by omega) (by decide)
    by_cases d : r ≤ 9209861237972664320
    · rw [decide_eq_true d]
      rw [if_neg (by omega : ¬ 9209861237972664320 < r)] at ho
      by_cases e : r < 9209861237972664320
      · rw [if_pos e] at ho
        clear hx c d e
        go_enter Tryz.func18, Tryz.ntmps18
        go_wp2_with fail
        refine (HF.out _).mono ?_
        rintro z w1 ⟨rfl, rfl⟩
        go_wp2_with fail
        refine (HA.out _).mono ?_
        rintro z w1 ⟨rfl, rfl⟩
        go_wp2_with fail
        refine (Ldexp_1022 _).mono ?_
        rintro z w1 ⟨rfl, rfl⟩
        go_wp2
        go_ret
        exact ⟨rfl, rfl⟩
      · rw [if_neg e] at ho
        clear hx c d e
        go_enter Tryz.func18, Tryz.ntmps18
        go_wp2_with fail
        refine (HF.out _).mono ?_
        rintro z w1 ⟨rfl, rfl⟩
        go_wp2_with fail
        refine (HA.out _).mono ?_
        rintro z w1 ⟨rfl, rfl⟩
        go_wp2_with fail
        refine (Ldexp_1022 _).mono ?_
        rintro z w1 ⟨rfl, rfl⟩
        go_wp2
        go_ret
        exact ⟨rfl, rfl⟩
    · rw [decide_eq_false d]
      rw [if_neg (by omega), if_pos (by omega)] at ho
      clear hx c d
      go_enter Tryz.func18, Tryz.ntmps18
      go_wp2_with fail
      refine (HF.out _).mono ?_
      rintro z w1 ⟨rfl, rfl⟩
      go_wp2_with fail
      refine (HA.out _).mono ?_
      rintro z w1 ⟨rfl, rfl⟩
      go_wp2_with fail
      refine (Ldexp_1022 _).mono ?_
      rintro z w1 ⟨rfl, rfl⟩
      go_wp2
      go_ret
      exact ⟨rfl, rfl⟩
  · rw [decide_eq_false c] at HF
    rw [decide_eq_false (by omega)]
    clear hx c
    go_enter Tryz.func18, Tryz.ntmps18
    go_wp2_with fail
    refine (HF.out _).mono ?_
    rintro z w1 ⟨rfl, rfl⟩
    go_wp2
    go_ret
    exact ⟨rfl, rfl⟩
end Go.Proofs.YtijadahpddmhjaaGreatDoor

namespace Go.Proofs.YtijadahpddmhjaaGreatDoor
open Go.RowKit Go.IntWalk

set_option maxHeartbeats 1000000 in
theorem Quick_at (a b s t e : Nat) (w : World) (h1 : FloatKind.f64.format.add a b = some s) (h2 : FloatKind.f64.format.sub s a = some t) (h5 : FloatKind.f64.format.sub b t = some e) (hs : s < 18446744073709551616) (he : e < 18446744073709551616) :
    Calls Tryz.prog 9 #[.float .f64 a, .float .f64 b] w fun r w' => r = .returned (.tuple #[.float .f64 (canonOf s), .float .f64 (canonOf e)]) ∧ Below w.heap.size w w' := by
  have g1 := f_add h1
  have g2 := f_sub h2
  have g5 := f_sub h5
  have HC1 := hid (fun (W : World) => Canon_any s W hs)
  have HC2 := hid (fun (W : World) => Canon_any e W he)
  obtain ⟨S, hS⟩ : ∃ S, Hid (canonOf s = S) := ⟨_, rfl⟩
  obtain ⟨E, hE⟩ : ∃ E, Hid (canonOf e = E) := ⟨_, rfl⟩
  rw [hS.out] at HC1 ⊢
  rw [hE.out] at HC2 ⊢
  clear h1 h2 h5 hs he
  go_enter Tryz.func9, Tryz.ntmps9
  go_wp2_with fail
  refine (HC1.out _).mono ?_
  rintro r w1 ⟨rfl, hb1⟩
  have HB1 := hid hb1
  clear hb1
  go_wp2_with fail
  refine (HC2.out _).mono ?_
  rintro r w2 ⟨rfl, hb2⟩
  have HB2 := hid (HB1.out.trans (hb2.mono HB1.out.size))
  clear hb2
  go_wp2
  go_ret2
  exact ⟨rfl, HB2.out⟩
set_option maxRecDepth 4000 in
set_option maxHeartbeats 1000000 in
theorem lsum_fin (a b : Nat) (w : World) (ha : a < 18446744073709551616) (hb : b < 18446744073709551616) (fa : a % 9223372036854775808 < 9218868437227405312) (fb : b % 9223372036854775808 < 9218868437227405312) :
    Calls Tryz.prog 27 #[.float .f64 a, .float .f64 b] w fun r w' => ∃ p e, r = .returned (.agg #[.pointer (some ⟨p, 0, none⟩), .int .i64 e]) ∧ (-1074 ≤ e ∧ e ≤ 2000) ∧ ExV w' p e (-1074) (sv a + sv b) 4002 ∧ Below w.heap.size w w' := by
  have HA := hid (fun (W : World) => xOf_fin a W ha fa)
  have HB := hid (fun (W : World) => xOf_fin b W hb fb)
  have HB0 : Hid (Below w.heap.size w (w.alloc (XBox none 0))) := (Below.refl _ _).alloc (Nat.le_refl _) _
  have HRB := hid (fun (W : World) (h : Below (w.alloc (XBox none 0)).heap.size (w.alloc (XBox none 0)) W) => rb_of h)
  obtain ⟨W0, hW0⟩ : ∃ V, Hid (w.alloc (XBox none 0) = V) := ⟨_, rfl⟩
  rw [hW0.out] at HB0 HRB
  unfold XBox at hW0
  have hW0' := hW0.out
  clear ha hb fa fb
  go_enter Tryz.func27, Tryz.ntmps27
  go_wp2_with fail
  refine (HA.out _).mono ?_
  rintro r w1 ⟨p1, e1, rfl, ⟨b1, b1'⟩, hx1, hb1⟩
  have HX1 := hid hx1
  have HB1 := hid hb1
  clear hx1 hb1
  go_wp2_with fail
  refine (HB.out _).mono ?_
  rintro r w2 ⟨p2, e2, rfl, ⟨b2, b2'⟩, hx2, hb2⟩
  have HX2 := hid hx2
  have HX1 := hid (HX1.out.below hb2)
  have HB2 := hid (HB1.out.trans (hb2.mono HB1.out.size))
  clear hx2 hb2
  go_wp2_with fail
  refine (xAdd_val p1 p2 2 2 e1 e2 _ _ _ _ HX1.out HX2.out (by decide) (by decide) (by omega) (by omega)).mono ?_
  rintro r w4 ⟨p4, e4, rfl, ⟨b4, b4'⟩, hx4, hb4⟩
  have HX4 := hid hx4
  have HB4 := hid (HB2.out.trans (hb4.mono HB2.out.size))
  have HR := hid (HRB.out _ HB4.out)
  obtain ⟨z0, z1, z2⟩ := xcells_of (show w4.heap[w.heap.size]? = some (.cells #[.pointer none, .int .i64 0] 34) from HR.out)
  have HE4 := hid (show -1074 ≤ e4 ∧ e4 ≤ 2000 by omega)
  have HBE : Hid (Below w.heap.size w w4) := HB0.out.trans (HB4.out.mono HB0.out.size)
  clear hx4 hb4
  go_wp2
  exact bodyPost_ret (v := .agg #[.pointer (some ⟨p4, 0, none⟩), .int .i64 e4]) (by simp [results, Tryz.results27, go_sem, z0, z1]) rfl ⟨p4, e4, rfl, HE4.out, HX4.out.stored HR.out _ _, Below.setCell (Below.setCell HBE.out (Nat.le_refl _) _) (Nat.le_refl _) _⟩
end Go.Proofs.YtijadahpddmhjaaGreatDoor

namespace Go.Proofs.YtijadahpddmhjaaGreatDoor
open Go.RowKit Go.IntWalk

theorem nv_1022 : nv 9209861237972664320 = 4503599627370496 * 2 ^ kG := by decide +kernel
theorem sv_1022 {x : Nat} (h : x % 9223372036854775808 ≤ 9209861237972664320) : (sv x).natAbs ≤ 4503599627370496 * 2 ^ kG := by
  rw [← nv_1022]
  have := nv_le h
  unfold sv
  split <;> omega
theorem canon_fin {x : Nat} (h : x % 9223372036854775808 < 9218868437227405312) : canonOf x = x := if_neg (by omega)
theorem nv_nought {r : Nat} (h : nv r = 0) : r = 0 := by
  by_cases c : r = 0
  · exact c
  · have := nv_lt (show 0 < r by omega); omega
theorem sv_nought {x : Nat} (h : sv x = 0) : x % 9223372036854775808 = 0 := by
  apply nv_nought
  unfold sv at h
  split at h <;> omega
theorem order_same (x y : Nat) (hx : x < 18446744073709551616) (hy : y < 18446744073709551616) (nx : x % 9223372036854775808 < 9218868437227405312) (ny : y % 9223372036854775808 < 9218868437227405312) (h : sv x = sv y) : FloatKind.f64.format.order x y = some .eq := by
  rw [order_eq x y hx hy (by omega) (by omega), cmp_eq h]
theorem order_diff (x y : Nat) (hx : x < 18446744073709551616) (hy : y < 18446744073709551616) (nx : x % 9223372036854775808 < 9218868437227405312) (ny : y % 9223372036854775808 < 9218868437227405312) (h : sv x ≠ sv y) : (FloatKind.f64.format.order x y != some .eq) = true := by
  rw [order_eq x y hx hy (by omega) (by omega)]
  rcases (by omega : sv x < sv y ∨ sv y < sv x) with c | c
  · rw [cmp_lt c]; rfl
  · rw [cmp_gt c]; rfl
theorem sv_abs (x y : Nat) (h : ¬ x % 9223372036854775808 < y % 9223372036854775808) : (sv y).natAbs ≤ (sv x).natAbs := by
  have := nv_le (Nat.le_of_not_lt h)
  unfold sv
  split <;> split <;> omega
theorem order_less (r c : Nat) (hr : r < 9218868437227405312) (hc : c < 9218868437227405312) : (FloatKind.f64.format.order r c == some .lt) = decide (r < c) := by
  rw [order_mag r c (by omega) (by omega)]
  by_cases h : r < c
  · rw [if_pos h, decide_eq_true h]; rfl
  · rw [if_neg h, decide_eq_false h]
    split <;> rfl
set_option maxHeartbeats 400000 in
theorem lawf4 (x : Nat) (w : World) : Calls Tryz.prog 5 #[.int .u64 x] w fun r w' => r = .returned (.float .f64 x) ∧ w' = w := by
  have h64 := f64from
  go_enter Tryz.func5, Tryz.ntmps5
  go_wp2
  go_ret
  exact ⟨rfl, rfl⟩
set_option maxHeartbeats 400000 in
theorem alike_any (x y : Nat) (w : World) (h : FloatKind.f64.format.order x y = some .eq) : Calls Tryz.prog 28 #[.float .f64 x, .float .f64 y] w fun r w' => r = .returned (.bool true) ∧ w' = w := by
  go_enter Tryz.func28, Tryz.ntmps28
  go_wp2
  go_ret
  exact ⟨rfl, rfl⟩
/-- All that Two, the sums of it and Quick answer. -/
theorem two_all (a b : Nat) (ha : a < 18446744073709551616) (hb : b < 18446744073709551616) (ka : a % 9223372036854775808 ≤ 9209861237972664320) (kb : b % 9223372036854775808 ≤ 9209861237972664320) :
    ∃ s e, (∀ W, Calls Tryz.prog 6 #[.float .f64 a, .float .f64 b] W fun r w' => r = .returned (.tuple #[.float .f64 s, .float .f64 e]) ∧ Below W.heap.size W w')
      ∧ (∀ W, Calls Tryz.prog 26 #[.float .f64 s] W fun r w' => r = .returned (.bool true) ∧ w' = W)
      ∧ (∀ W, Calls Tryz.prog 26 #[.float .f64 e] W fun r w' => r = .returned (.bool true) ∧ w' = W)
      ∧ (∀ W, Calls Tryz.prog 27 #[.float .f64 s, .float .f64 e] W fun r w' => ∃ p e, r = .returned (.agg #[.pointer (some ⟨p, 0, none⟩), .int .i64 e]) ∧ (-1074 ≤ e ∧ e ≤ 2000) ∧ ExV w' p e (-1074) (sv a + sv b) 4002 ∧ Below W.heap.size W w')
      ∧ FloatKind.f64.format.add a b = some s ∧ FloatKind.f64.format.order s s = some .eq
      ∧ (sv a = 0 ∨ ¬ a % 9223372036854775808 < b % 9223372036854775808 → ∃ q r, (∀ W, Calls Tryz.prog 9 #[.float .f64 a, .float .f64 b] W fun z w' => z = .returned (.tuple #[.float .f64 q, .float .f64 r]) ∧ Below W.heap.size W w')
        ∧ FloatKind.f64.format.order q s = some .eq ∧ FloatKind.f64.format.order r e = some .eq) := by
  have fa : Fin64 a (sv a) := ⟨ha, by omega, rfl⟩
  have fb : Fin64 b (sv b) := ⟨hb, by omega, rfl⟩
  obtain ⟨s, t, e1, e2, e3, e, h1, h2, h3, h4, h5, h6, ⟨s1, s2, s3⟩, ⟨r1, r2, r3⟩⟩ := two_vals a b _ _ fa fb (sv_1022 ka) (sv_1022 kb)
  refine ⟨s, e, ?_, ?_, ?_, ?_, h1, order_same s s s1 s1 s2 s2 rfl, ?_⟩
  · intro W
    have := Two_at a b s t e1 e2 e3 e W h1 h2 h3 h4 h5 h6 s1 r1
    rw [canon_fin s2, canon_fin r2] at this
    exact this
  · intro W
    have := rfin4 s W s1
    rw [decide_eq_true s2] at this
    exact this
  · intro W
    have := rfin4 e W r1
    rw [decide_eq_true r2] at this
    exact this
  · intro W
    have := lsum_fin s e W s1 r1 s2 r2
    rw [s3, r3, show rz (sv a + sv b) + (sv a + sv b - rz (sv a + sv b)) = sv a + sv b by omega] at this
    exact this
  · intro hq
    obtain ⟨s', t', e', k1, k2, k3, ⟨u1, u2, u3⟩, ⟨v1, v2, v3⟩⟩ := quick_vals a b _ _ fa fb (sv_1022 ka) (sv_1022 kb) (hq.imp id (sv_abs a b))
    refine ⟨s', e', ?_, order_same _ _ u1 s1 u2 s2 (by rw [u3, s3]), order_same _ _ v1 r1 v2 r2 (by rw [v3, r3])⟩
    intro W
    have := Quick_at a b s' t' e' W k1 k2 k3 u1 v1
    rw [canon_fin u2, canon_fin v2] at this
    exact this
end Go.Proofs.YtijadahpddmhjaaGreatDoor

namespace Go.Proofs.YtijadahpddmhjaaGreatDoor
open Go.RowKit Go.IntWalk

theorem bt3 : bits .or .u64 0 9088264048033660928 = 9088264048033660928 := by decide +kernel
set_option maxHeartbeats 1000000 in
theorem ldexp_995 (w : World) : Calls Tryz.prog 74 #[.float .f64 4607182418800017408, .int .i64 995] w fun r w' => r = .returned (.float .f64 9088264048033660928) ∧ w' = w := by
  obtain ⟨g1, g2, g3, g4⟩ := o1
  obtain ⟨b1, b2, b3, _⟩ := bt1
  have b4 := bt3
  have h1 := f64bits
  have h2 := f64fromI3
  have hm := f_mul (x := 4607182418800017408) (y := 9088264048033660928) (z := 9088264048033660928) (by decide +kernel)
  have c0 : wrap64 0 = 0 := by decide +kernel
  have c1 : wrap64 995 = 995 := by decide +kernel
  go_enter Tryz.func74, Tryz.ntmps74
  go_wp2
  go_ret
  exact ⟨rfl, rfl⟩
set_option maxHeartbeats 1000000 in
theorem Ldexp_995 (w : World) : Calls Tryz.prog 45 #[.float .f64 4607182418800017408, .int .i64 995] w fun r w' => r = .returned (.float .f64 9088264048033660928) ∧ w' = w := by
  go_enter Tryz.func45, Tryz.ntmps45
  go_wp2_with fail
  refine (ldexp_995 _).mono ?_
  rintro r w1 ⟨rfl, rfl⟩
  go_wp2
  go_ret
  exact ⟨rfl, rfl⟩
set_option maxHeartbeats 1000000 in
theorem below_995 (x : Nat) (w : World) (hx : x < 18446744073709551616) : Calls Tryz.prog 18 #[.float .f64 x, .int .i64 995] w fun r w' => r = .returned (.bool (decide (x % 9223372036854775808 ≤ 9088264048033660928))) ∧ w' = w := by
  have HF := hid (fun (W : World) => rfin4 x W hx)
  have HA := hid (fun (W : World) => abs_fl x W hx)
  obtain ⟨r, hr⟩ : ∃ r, Hid (x % 9223372036854775808 = r) := ⟨_, rfl⟩
  rw [hr.out] at HF HA ⊢
  by_cases c : r < 9218868437227405312
  · rw [decide_eq_true c] at HF
    have ho := order_mag r 9088264048033660928 (by omega) (by decide)
    by_cases d : r ≤ 9088264048033660928
    · rw [decide_eq_true d]
      rw [if_neg (by omega : ¬ 9088264048033660928 < r)] at ho
      by_cases e : r < 9088264048033660928
      · rw [if_pos e] at ho
        clear hx c d e
        go_enter Tryz.func18, Tryz.ntmps18
        go_wp2_with fail
        refine (HF.out _).mono ?_
        rintro z w1 ⟨rfl, rfl⟩
        go_wp2_with fail
        refine (HA.out _).mono ?_
        rintro z w1 ⟨rfl, rfl⟩
        go_wp2_with fail
        refine (Ldexp_995 _).mono ?_
        rintro z w1 ⟨rfl, rfl⟩
        go_wp2
        go_ret
        exact ⟨rfl, rfl⟩
      · rw [if_neg e] at ho
        clear hx c d e
        go_enter Tryz.func18, Tryz.ntmps18
        go_wp2_with fail
        refine (HF.out _).mono ?_
        rintro z w1 ⟨rfl, rfl⟩
        go_wp2_with fail
        refine (HA.out _).mono ?_
        rintro z w1 ⟨rfl, rfl⟩
        go_wp2_with fail
        refine (Ldexp_995 _).mono ?_
        rintro z w1 ⟨rfl, rfl⟩
        go_wp2
        go_ret
        exact ⟨rfl, rfl⟩
    · rw [decide_eq_false d]
      rw [if_neg (by omega), if_pos (by omega)] at ho
      clear hx c d
      go_enter Tryz.func18, Tryz.ntmps18
      go_wp2_with fail
      refine (HF.out _).mono ?_
      rintro z w1 ⟨rfl, rfl⟩
      go_wp2_with fail
      refine (HA.out _).mono ?_
      rintro z w1 ⟨rfl, rfl⟩
      go_wp2_with fail
      refine (Ldexp_995 _).mono ?_
      rintro z w1 ⟨rfl, rfl⟩
      go_wp2
      go_ret
      exact ⟨rfl, rfl⟩
  · rw [decide_eq_false c] at HF
    rw [decide_eq_false (by omega)]
    clear hx c
    go_enter Tryz.func18, Tryz.ntmps18
    go_wp2_with fail
    refine (HF.out _).mono ?_
    rintro z w1 ⟨rfl, rfl⟩
    go_wp2
    go_ret
    exact ⟨rfl, rfl⟩
theorem odd_under {v z : Int} {k g : Nat} (hv : v % 2 = 1) (h : z = v * 2 ^ k) (hd : ((2 ^ g : Nat) : Int) ∣ z) : g ≤ k := by
  by_cases c : g ≤ k
  · exact c
  · exfalso
    obtain ⟨m, hm⟩ := hd
    obtain ⟨j, rfl⟩ : ∃ j, g = k + (j + 1) := ⟨g - k - 1, by omega⟩
    have hp : ((2 : Int) ^ k) ≠ 0 := Int.pow_ne_zero (by decide)
    have e : (((2 ^ (k + (j + 1)) : Nat)) : Int) = 2 ^ k * (2 ^ j * 2) := by
      rw [Int.natCast_pow, Int.pow_add, Int.pow_succ]; rfl
    rw [h, e, Int.mul_comm v, Int.mul_assoc] at hm
    have := Int.eq_of_mul_eq_mul_left hp hm
    rw [Int.mul_comm (2 ^ j) 2, Int.mul_assoc] at this
    omega
theorem odd_small {v z : Int} {k g : Nat} (hv : v % 2 = 1) (h : z = v * 2 ^ k) (hd : ((2 ^ g : Nat) : Int) ∣ z) (hb : z.natAbs ≤ 67108864 * 2 ^ g) : bitLen v.natAbs ≤ 26 := by
  have hg := odd_under hv h hd
  have h2 : 2 ^ g ≤ 2 ^ k := Nat.pow_le_pow_right (by decide) hg
  have hn : z.natAbs = v.natAbs * 2 ^ k := by
    rw [h, Int.natAbs_mul, Int.natAbs_pow]; rfl
  have hp := Nat.two_pow_pos k
  have h3 : v.natAbs * 2 ^ k ≤ 67108864 * 2 ^ k := by omega
  have h4 := Nat.le_of_mul_le_mul_right h3 hp
  exact bitLen_le _ 26 (by omega)
theorem order_diffE (x y : Nat) (hx : x < 18446744073709551616) (hy : y < 18446744073709551616) (nx : x % 9223372036854775808 < 9218868437227405312) (ny : y % 9223372036854775808 < 9218868437227405312) (h : sv x ≠ sv y) : (FloatKind.f64.format.order x y == some .eq) = false := by
  have := order_diff x y hx hy nx ny h
  rw [bne] at this
  cases e : (FloatKind.f64.format.order x y == some .eq)
  · rfl
  · rw [e] at this; exact absurd this (by decide)
end Go.Proofs.YtijadahpddmhjaaGreatDoor
