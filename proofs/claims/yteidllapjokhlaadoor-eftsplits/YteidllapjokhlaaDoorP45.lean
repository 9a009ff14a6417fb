
/- What eft's Quick does, and the law's sum. -/
import Derived.Test.YteidllapjokhlaaDoorP44
import Derived.Test.YteidllapjokhlaaDoorP11
import Derived.Test.YteidllapjokhlaaDoorP10
namespace Go.Proofs.YteidllapjokhlaaDoor
open Go.RowKit Go.IntWalk

set_option maxHeartbeats 1000000 in
theorem Quick_at (a b s t e : Nat) (w : World) (h1 : FloatKind.f64.format.add a b = some s) (h2 : FloatKind.f64.format.sub s a = some t) (h5 : FloatKind.f64.format.sub b t = some e) (hs : s < 18446744073709551616) (he : e < 18446744073709551616) :
    Calls Tryd.prog 19 #[.float .f64 a, .float .f64 b] w fun r w' => r = .returned (.tuple #[.float .f64 (canonOf s), .float .f64 (canonOf e)]) ∧ Below w.heap.size w w' := by
  have g1 := f_add h1
  have g2 := f_sub h2
  have g5 := f_sub h5
  have HC1 := hid (fun (W : World) => Canon_any s W hs)
  have HC2 := hid (fun (W : World) => Canon_any e W he)
  obtain ⟨S, hS⟩ : ∃ S, Hid (canonOf s = S) := ⟨_, rfl⟩
  obtain ⟨E, hE⟩ : ∃ E, Hid (canonOf e = E) := ⟨_, rfl⟩
  rw [hS.out] at HC1 ⊢
  rw [hE.out] at HC2 ⊢
  clear h1 h2 h5 hs he
  go_enter Tryd.func19, Tryd.ntmps19
  go_wp2_with fail
  refine (HC1.out _).mono ?_
  rintro r w1 ⟨rfl, hb1⟩
  have HB1 := hid hb1
  clear hb1
  go_wp2_with fail
  refine (HC2.out _).mono ?_
  rintro r w2 ⟨rfl, hb2⟩
  have HB2 := hid (HB1.out.trans (hb2.mono HB1.out.size))
  clear hb2
  go_wp2
  go_ret2
  exact ⟨rfl, HB2.out⟩
set_option maxRecDepth 4000 in
set_option maxHeartbeats 1000000 in
theorem lsum_fin (a b : Nat) (w : World) (ha : a < 18446744073709551616) (hb : b < 18446744073709551616) (fa : a % 9223372036854775808 < 9218868437227405312) (fb : b % 9223372036854775808 < 9218868437227405312) :
    Calls Tryd.prog 16 #[.float .f64 a, .float .f64 b] w fun r w' => ∃ p e, r = .returned (.agg #[.pointer (some ⟨p, 0, none⟩), .int .i64 e]) ∧ (-1074 ≤ e ∧ e ≤ 2000) ∧ ExV w' p e (-1074) (sv a + sv b) 4002 ∧ Below w.heap.size w w' := by
  have HA := hid (fun (W : World) => xOf_fin a W ha fa)
  have HB := hid (fun (W : World) => xOf_fin b W hb fb)
  have HB0 : Hid (Below w.heap.size w (w.alloc (XBox none 0))) := (Below.refl _ _).alloc (Nat.le_refl _) _
  have HRB := hid (fun (W : World) (h : Below (w.alloc (XBox none 0)).heap.size (w.alloc (XBox none 0)) W) => rb_of h)
  obtain ⟨W0, hW0⟩ : ∃ V, Hid (w.alloc (XBox none 0) = V) := ⟨_, rfl⟩
  rw [hW0.out] at HB0 HRB
  unfold XBox at hW0
  have hW0' := hW0.out
  clear ha hb fa fb
  go_enter Tryd.func16, Tryd.ntmps16
  go_wp2_with fail
  refine (HA.out _).mono ?_
  rintro r w1 ⟨p1, e1, rfl, ⟨b1, b1'⟩, hx1, hb1⟩
  have HX1 := hid hx1
  have HB1 := hid hb1
  clear hx1 hb1
  go_wp2_with fail
  refine (HB.out _).mono ?_
  rintro r w2 ⟨p2, e2, rfl, ⟨b2, b2'⟩, hx2, hb2⟩
  have HX2 := hid hx2
  have HX1 := hid (HX1.out.below hb2)
  have HB2 := hid (HB1.out.trans (hb2.mono HB1.out.size))
  clear hx2 hb2
  go_wp2_with fail
  refine (xAdd_val p1 p2 2 2 e1 e2 _ _ _ _ HX1.out HX2.out (by decide) (by decide) (by omega) (by omega)).mono ?_
  rintro r w4 ⟨p4, e4, rfl, ⟨b4, b4'⟩, hx4, hb4⟩
  have HX4 := hid hx4
  have HB4 := hid (HB2.out.trans (hb4.mono HB2.out.size))
  have HR := hid (HRB.out _ HB4.out)
  obtain ⟨z0, z1, z2⟩ := xcells_of (show w4.heap[w.heap.size]? = some (.cells #[.pointer none, .int .i64 0] 40) from HR.out)
  have HE4 := hid (show -1074 ≤ e4 ∧ e4 ≤ 2000 by omega)
  have HBE : Hid (Below w.heap.size w w4) := HB0.out.trans (HB4.out.mono HB0.out.size)
  clear hx4 hb4
  go_wp2
  exact bodyPost_ret (v := .agg #[.pointer (some ⟨p4, 0, none⟩), .int .i64 e4]) (by simp [results, Tryd.results16, go_sem, z0, z1]) rfl ⟨p4, e4, rfl, HE4.out, HX4.out.stored HR.out _ _, Below.setCell (Below.setCell HBE.out (Nat.le_refl _) _) (Nat.le_refl _) _⟩
end Go.Proofs.YteidllapjokhlaaDoor

namespace Go.Proofs.YteidllapjokhlaaDoor
open Go.RowKit Go.IntWalk

theorem nv_1022 : nv 9209861237972664320 = 4503599627370496 * 2 ^ kG := by decide +kernel
theorem sv_1022 {x : Nat} (h : x % 9223372036854775808 ≤ 9209861237972664320) : (sv x).natAbs ≤ 4503599627370496 * 2 ^ kG := by
  rw [← nv_1022]
  have := nv_le h
  unfold sv
  split <;> omega
theorem canon_fin {x : Nat} (h : x % 9223372036854775808 < 9218868437227405312) : canonOf x = x := if_neg (by omega)
theorem nv_nought {r : Nat} (h : nv r = 0) : r = 0 := by
  by_cases c : r = 0
  · exact c
  · have := nv_lt (show 0 < r by omega); omega
theorem sv_nought {x : Nat} (h : sv x = 0) : x % 9223372036854775808 = 0 := by
  apply nv_nought
  unfold sv at h
  split at h <;> omega
theorem order_same (x y : Nat) (hx : x < 18446744073709551616) (hy : y < 18446744073709551616) (nx : x % 9223372036854775808 < 9218868437227405312) (ny : y % 9223372036854775808 < 9218868437227405312) (h : sv x = sv y) : FloatKind.f64.format.order x y = some .eq := by
  rw [order_eq x y hx hy (by omega) (by omega), cmp_eq h]
theorem order_diff (x y : Nat) (hx : x < 18446744073709551616) (hy : y < 18446744073709551616) (nx : x % 9223372036854775808 < 9218868437227405312) (ny : y % 9223372036854775808 < 9218868437227405312) (h : sv x ≠ sv y) : (FloatKind.f64.format.order x y != some .eq) = true := by
  rw [order_eq x y hx hy (by omega) (by omega)]
  rcases (by omega : sv x < sv y ∨ sv y < sv x) with c | c
  · rw [cmp_lt c]; rfl
  · rw [cmp_gt c]; rfl
theorem sv_abs (x y : Nat) (h : ¬ x % 9223372036854775808 < y % 9223372036854775808) : (sv y).natAbs ≤ (sv x).natAbs := by
  have := nv_le (Nat.le_of_not_lt h)
  unfold sv
  split <;> split <;> omega
theorem order_less (r c : Nat) (hr : r < 9218868437227405312) (hc : c < 9218868437227405312) : (FloatKind.f64.format.order r c == some .lt) = decide (r < c) := by
  rw [order_mag r c (by omega) (by omega)]
  by_cases h : r < c
  · rw [if_pos h, decide_eq_true h]; rfl
  · rw [if_neg h, decide_eq_false h]
    split <;> rfl
set_option maxHeartbeats 400000 in
theorem lawf4 (x : Nat) (w : World) : Calls Tryd.prog 9 #[.int .u64 x] w fun r w' => r = .returned (.float .f64 x) ∧ w' = w := by
  have h64 := f64from
  go_enter Tryd.func9, Tryd.ntmps9
  go_wp2
  go_ret
  exact ⟨rfl, rfl⟩
set_option maxHeartbeats 400000 in
theorem alike_any (x y : Nat) (w : World) (h : FloatKind.f64.format.order x y = some .eq) : Calls Tryd.prog 20 #[.float .f64 x, .float .f64 y] w fun r w' => r = .returned (.bool true) ∧ w' = w := by
  go_enter Tryd.func20, Tryd.ntmps20
  go_wp2
  go_ret
  exact ⟨rfl, rfl⟩
/-- All that Two, the sums of it and Quick answer. -/
theorem two_all (a b : Nat) (ha : a < 18446744073709551616) (hb : b < 18446744073709551616) (ka : a % 9223372036854775808 ≤ 9209861237972664320) (kb : b % 9223372036854775808 ≤ 9209861237972664320) :
    ∃ s e, (∀ W, Calls Tryd.prog 14 #[.float .f64 a, .float .f64 b] W fun r w' => r = .returned (.tuple #[.float .f64 s, .float .f64 e]) ∧ Below W.heap.size W w')
      ∧ (∀ W, Calls Tryd.prog 15 #[.float .f64 s] W fun r w' => r = .returned (.bool true) ∧ w' = W)
      ∧ (∀ W, Calls Tryd.prog 15 #[.float .f64 e] W fun r w' => r = .returned (.bool true) ∧ w' = W)
      ∧ (∀ W, Calls Tryd.prog 16 #[.float .f64 s, .float .f64 e] W fun r w' => ∃ p e, r = .returned (.agg #[.pointer (some ⟨p, 0, none⟩), .int .i64 e]) ∧ (-1074 ≤ e ∧ e ≤ 2000) ∧ ExV w' p e (-1074) (sv a + sv b) 4002 ∧ Below W.heap.size W w')
      ∧ FloatKind.f64.format.add a b = some s ∧ FloatKind.f64.format.order s s = some .eq
      ∧ (sv a = 0 ∨ ¬ a % 9223372036854775808 < b % 9223372036854775808 → ∃ q r, (∀ W, Calls Tryd.prog 19 #[.float .f64 a, .float .f64 b] W fun z w' => z = .returned (.tuple #[.float .f64 q, .float .f64 r]) ∧ Below W.heap.size W w')
        ∧ FloatKind.f64.format.order q s = some .eq ∧ FloatKind.f64.format.order r e = some .eq) := by
  have fa : Fin64 a (sv a) := ⟨ha, by omega, rfl⟩
  have fb : Fin64 b (sv b) := ⟨hb, by omega, rfl⟩
  obtain ⟨s, t, e1, e2, e3, e, h1, h2, h3, h4, h5, h6, ⟨s1, s2, s3⟩, ⟨r1, r2, r3⟩⟩ := two_vals a b _ _ fa fb (sv_1022 ka) (sv_1022 kb)
  refine ⟨s, e, ?_, ?_, ?_, ?_, h1, order_same s s s1 s1 s2 s2 rfl, ?_⟩
  · intro W
    have := Two_at a b s t e1 e2 e3 e W h1 h2 h3 h4 h5 h6 s1 r1
    rw [canon_fin s2, canon_fin r2] at this
    exact this
  · intro W
    have := rfin4 s W s1
    rw [decide_eq_true s2] at this
    exact this
  · intro W
    have := rfin4 e W r1
    rw [decide_eq_true r2] at this
    exact this
  · intro W
    have := lsum_fin s e W s1 r1 s2 r2
    rw [s3, r3, show rz (sv a + sv b) + (sv a + sv b - rz (sv a + sv b)) = sv a + sv b by omega] at this
    exact this
  · intro hq
    obtain ⟨s', t', e', k1, k2, k3, ⟨u1, u2, u3⟩, ⟨v1, v2, v3⟩⟩ := quick_vals a b _ _ fa fb (sv_1022 ka) (sv_1022 kb) (hq.imp id (sv_abs a b))
    refine ⟨s', e', ?_, order_same _ _ u1 s1 u2 s2 (by rw [u3, s3]), order_same _ _ v1 r1 v2 r2 (by rw [v3, r3])⟩
    intro W
    have := Quick_at a b s' t' e' W k1 k2 k3 u1 v1
    rw [canon_fin u2, canon_fin v2] at this
    exact this
end Go.Proofs.YteidllapjokhlaaDoor

namespace Go.Proofs.YteidllapjokhlaaDoor
open Go Go.RowKit Go.IntWalk

theorem gap_up {x : Int} {Q k : Nat} (hd : (Q : Int) ∣ x) (h : k * Q < x.natAbs) : k * Q + Q ≤ x.natAbs := by
  obtain ⟨m, hm⟩ := Int.ofNat_dvd_left.1 hd
  rw [hm, Nat.mul_comm Q m] at h ⊢
  have h1 : k < m := Nat.lt_of_mul_lt_mul_right h
  have := Nat.mul_le_mul_right Q h1
  rw [Nat.succ_mul] at this
  exact this
theorem gap_dn {x : Int} {Q k : Nat} (hd : (Q : Int) ∣ x) (h : x.natAbs < k * Q) : x.natAbs + Q ≤ k * Q := by
  obtain ⟨m, hm⟩ := Int.ofNat_dvd_left.1 hd
  rw [hm, Nat.mul_comm Q m] at h ⊢
  have h1 : m < k := Nat.lt_of_mul_lt_mul_right h
  have := Nat.mul_le_mul_right Q h1
  rw [Nat.succ_mul] at this
  exact this
theorem gap_zero {x : Int} {Q : Nat} (hd : (Q : Int) ∣ x) (h : x.natAbs < Q) : x = 0 := by
  obtain ⟨m, hm⟩ := Int.ofNat_dvd_left.1 hd
  match m, hm with
  | 0, hm => rw [Nat.mul_zero] at hm; omega
  | m + 1, hm =>
    rw [Nat.mul_succ] at hm
    have := Nat.zero_le (Q * m)
    omega
/-- What becomes of a number's halves. -/
structure Halves (a h : Int) : Prop where
  hi : ∃ g : Nat, ((2 ^ g : Nat) : Int) ∣ h ∧ h.natAbs ≤ 67108864 * 2 ^ g
  lo : ∃ u : Nat, ((2 ^ u : Nat) : Int) ∣ a - h ∧ (a - h).natAbs ≤ 67108864 * 2 ^ u
  dv : ∀ k : Nat, ((2 ^ k : Nat) : Int) ∣ a → ((2 ^ k : Nat) : Int) ∣ h
theorem one_dvd' (v : Int) : ((2 ^ 0 : Nat) : Int) ∣ v := by rw [Nat.pow_zero]; exact Int.one_dvd _
theorem velt_few (a : Int) (h : a.natAbs < 67108864) : rz (134217729 * a) = 134217729 * a ∧ rz (134217729 * a - a) = 134217728 * a ∧ Halves a a := by
  have f1 : Fz (134217729 * a) := Fz_of _ 0 (one_dvd' _) (by rw [Nat.pow_zero]; omega)
  have f2 : Fz (134217728 * a) := Fz_of _ 0 (one_dvd' _) (by rw [Nat.pow_zero]; omega)
  refine ⟨rz_exact f1, by rw [show 134217729 * a - a = 134217728 * a by omega]; exact rz_exact f2, ⟨0, one_dvd' _, by rw [Nat.pow_zero]; omega⟩, ⟨0, one_dvd' _, by rw [Nat.pow_zero]; omega⟩, fun _ h => h⟩
theorem velt_many (a : Int) (fa : Fz a) (h : 67108864 ≤ a.natAbs) : ∃ H : Int, rz (134217729 * a) - rz (rz (134217729 * a) - a) = H ∧ Fz H ∧ Fz (a - H) ∧ Halves a H := by
  have h0 : a.natAbs ≠ 0 := by omega
  have hlo := bitLen_lo h0
  have hhi := bitLen_hi a.natAbs
  have hn := lt_bitLen (m := a.natAbs) (k := 26) (by omega)
  obtain ⟨n, hnn⟩ : ∃ n, bitLen a.natAbs = n + 27 := ⟨bitLen a.natAbs - 27, by omega⟩
  have hD : Dz a = n + 27 - 53 := by unfold Dz dN; rw [hnn]
  rw [hnn] at hlo hhi
  have p1 : (2 : Nat) ^ (n + 27 - 1) = 67108864 * 2 ^ n := by rw [show n + 27 - 1 = n + 26 by omega, Nat.pow_add, Nat.mul_comm]
  have p2 : (2 : Nat) ^ (n + 27) = 134217728 * 2 ^ n := by rw [Nat.pow_add, Nat.mul_comm]
  rw [p1] at hlo
  rw [p2] at hhi
  have q1 : (2 : Nat) ^ (n + 1) = 2 * 2 ^ n := by rw [Nat.pow_succ]; omega
  have q2 : (2 : Nat) ^ (n + 2) = 4 * 2 ^ n := by rw [Nat.pow_succ, Nat.pow_succ]; omega
  have hP := Nat.two_pow_pos n
  -- the first product is a multiple of 2^(n+1)
  have hA : ((2 ^ (n + 1) : Nat) : Int) ∣ 134217728 * a := by
    obtain ⟨k, hk⟩ := fa
    rw [hD] at hk
    have e : (2 : Nat) ^ (n + 1) ∣ 134217728 * 2 ^ (n + 27 - 53) := by
      rw [show (134217728 : Nat) = 2 ^ 27 by decide, ← Nat.pow_add]
      exact Nat.pow_dvd_pow 2 (by omega)
    obtain ⟨j, hj⟩ := e
    refine ⟨j * k, ?_⟩
    have hj' : (134217728 : Int) * ((2 ^ (n + 27 - 53) : Nat) : Int) = ((2 ^ (n + 1) : Nat) : Int) * (j : Int) := by
      have := congrArg (fun z : Nat => (z : Int)) hj
      simp only [Int.natCast_mul] at this
      exact this
    rw [hk, ← Int.mul_assoc, hj', Int.mul_assoc]
  -- c
  have hd1 : n + 1 ≤ Dz (134217729 * a) := by
    refine dN_ge _ _ ?_
    rw [q1]
    omega
  have hd2 : Dz (134217729 * a) ≤ n + 2 := by
    refine dN_le _ _ ?_
    rw [q2]
    omega
  have c1 : ((2 ^ (n + 1) : Nat) : Int) ∣ rz (134217729 * a) := Int.dvd_trans (pow_dvd hd1) (rz_dvd _)
  have c2 : (rz (134217729 * a) - 134217729 * a).natAbs ≤ 2 * 2 ^ n := by
    have := rz_err (134217729 * a)
    have h2 : 2 ^ Dz (134217729 * a) ≤ 2 ^ (n + 2) := Nat.pow_le_pow_right (by decide) hd2
    rw [q2] at h2
    omega
  have c3 : a.natAbs = 67108864 * 2 ^ n → rz (134217729 * a) = 134217729 * a := by
    intro e
    refine rz_exact (Fz_of _ (n + 26) (Int.ofNat_dvd_left.2 ?_) ?_)
    · refine ⟨134217729, ?_⟩
      rw [Int.natAbs_mul, e, Nat.pow_add, show Int.natAbs 134217729 = 134217729 from rfl]
      omega
    · rw [Nat.pow_add]
      omega
  obtain ⟨c, hc⟩ : ∃ c, rz (134217729 * a) = c := ⟨_, rfl⟩
  rw [hc] at c1 c2 c3 ⊢
  -- d
  have w1 : 9007199254740992 * 2 ^ n ≤ (c - a).natAbs := by
    by_cases e : a.natAbs = 67108864 * 2 ^ n
    · have := c3 e
      omega
    · have := gap_up (k := 4503599627370496) hA (by rw [q1]; omega)
      rw [q1] at this
      omega
  have w2 : (c - a).natAbs ≤ 18014398509481984 * 2 ^ n := by
    have := gap_dn (k := 9007199254740992) hA (by rw [q1]; omega)
    rw [q1] at this
    omega
  have d1 : ((2 ^ (n + 1) : Nat) : Int) ∣ rz (c - a) := by
    refine Int.dvd_trans (pow_dvd ?_) (rz_dvd _)
    refine dN_ge _ _ ?_
    rw [q1]
    omega
  have d2 : (rz (c - a) - (c - a)).natAbs ≤ 2 ^ n := by
    by_cases e : (c - a).natAbs = 18014398509481984 * 2 ^ n
    · have : Fz (c - a) := by
        refine Fz_of _ (n + 1) (Int.ofNat_dvd_left.2 ⟨9007199254740992, by rw [e, q1]; omega⟩) ?_
        rw [q1]; omega
      rw [rz_exact this, Int.sub_self]
      exact Nat.zero_le _
    · have hd : Dz (c - a) ≤ n + 1 := dN_le _ _ (by rw [q1]; omega)
      have := rz_err (c - a)
      have h2 : 2 ^ Dz (c - a) ≤ 2 ^ (n + 1) := Nat.pow_le_pow_right (by decide) hd
      rw [q1] at h2
      omega
  obtain ⟨d, hd⟩ : ∃ d, rz (c - a) = d := ⟨_, rfl⟩
  rw [hd] at d1 d2 ⊢
  -- h
  have h1 : ((2 ^ (n + 1) : Nat) : Int) ∣ c - d := Int.dvd_sub c1 d1
  have h2 : (a - (c - d)).natAbs ≤ 2 ^ n := by omega
  have h3 : (c - d).natAbs ≤ 67108864 * 2 ^ (n + 1) := by
    by_cases e : 67108864 * 2 ^ (n + 1) < (c - d).natAbs
    · have := gap_up h1 e
      rw [q1] at this
      omega
    · omega
  obtain ⟨H, hH⟩ : ∃ H, c - d = H := ⟨_, rfl⟩
  rw [hH] at h1 h2 h3 ⊢
  have hu : ((2 ^ Dz a : Nat) : Int) ∣ a - H := Int.dvd_sub fa (Int.dvd_trans (pow_dvd (by omega)) h1)
  have hl : (a - H).natAbs ≤ 67108864 * 2 ^ Dz a := by
    have : (2 : Nat) ^ n ≤ 2 ^ (26 + Dz a) := Nat.pow_le_pow_right (by decide) (by omega)
    rw [Nat.pow_add] at this
    omega
  refine ⟨H, rfl, Fz_of _ (n + 1) h1 (by omega), Fz_of _ _ hu (by omega), ⟨⟨n + 1, h1, h3⟩, ⟨_, hu, hl⟩, fun k hk => ?_⟩⟩
  by_cases e : k ≤ n + 1
  · exact Int.dvd_trans (pow_dvd e) h1
  · have : a - H = 0 := gap_zero (Int.dvd_sub (Int.dvd_trans (pow_dvd (by omega)) hk) h1) (by rw [q1]; omega)
    rw [show H = a by omega]
    exact hk
theorem velt (a : Int) (fa : Fz a) : ∃ H : Int, rz (134217729 * a) - rz (rz (134217729 * a) - a) = H ∧ Fz H ∧ Fz (a - H) ∧ Halves a H := by
  by_cases h : a.natAbs < 67108864
  · obtain ⟨v1, v2, v3⟩ := velt_few a h
    refine ⟨a, ?_, fa, ?_, v3⟩
    · rw [v1, v2]; omega
    · rw [Int.sub_self]; exact Fz_zero
  · exact velt_many a fa (by omega)
end Go.Proofs.YteidllapjokhlaaDoor
