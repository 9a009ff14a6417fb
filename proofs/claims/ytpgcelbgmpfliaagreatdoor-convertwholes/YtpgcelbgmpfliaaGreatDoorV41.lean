
/- Whole, Int and Uint: what they answer, by the value, and that it rises. -/
import Derived.Test.YtpgcelbgmpfliaaGreatDoorV40
namespace Go.Proofs.YtpgcelbgmpfliaaGreatDoor
open Go Go.RowKit Go.IntWalk

def wR (mode : Int) (s : Bool) (r : Nat) : Nat := if r = 9218868437227405312 then r else if r = 0 ∨ 0 ≤ pExp (signN s r) then r else wMag (stepQ (pMant (signN s r)) (0 - pExp (signN s r)) mode s) 0
theorem stepN_exact (q S : Nat) (mode : Int) (neg : Bool) : stepN (q * 2 ^ S) S mode neg = q := by
  have hr : restN (q * 2 ^ S) S = 0 := by unfold restN; rw [Nat.mul_mod_left, if_pos rfl]
  unfold stepN
  rw [hr, if_neg (fun c => c.1 rfl), Nat.mul_div_cancel _ (Nat.two_pow_pos S), Nat.add_zero]
theorem whole_val (mode : Int) (s : Bool) (r : Nat) (h : r < 9218868437227405312) : nv (wR mode s r) = stepN (nv r) kt mode s * 2 ^ kt ∧ wR mode s r < 9218868437227405312 := by
  have hk := kt_is
  unfold wR
  rw [if_neg (by omega)]
  by_cases h0 : r = 0
  · rw [if_pos (Or.inl h0), h0, nv_zero]
    have := stepN_exact 0 kt mode s
    rw [Nat.zero_mul] at this
    rw [this, Nat.zero_mul]
    exact ⟨rfl, by decide⟩
  · obtain ⟨p1, p2, p3, p4, p5, p6, p7, p8⟩ := parts_sign s r h0 h
    obtain ⟨m, hm⟩ : ∃ m, pMant (signN s r) = m := ⟨_, rfl⟩
    obtain ⟨e, he⟩ : ∃ e, pExp (signN s r) = e := ⟨_, rfl⟩
    rw [hm, he] at p3
    rw [hm] at p1 p4 p8 ⊢
    rw [he] at p2 p5 ⊢
    by_cases hc : 0 ≤ e
    · rw [if_pos (Or.inr hc)]
      have ex : (e + 1074).toNat = e.toNat + kt := by omega
      rw [ex, Nat.pow_add, ← Nat.mul_assoc] at p3
      rw [p3, stepN_exact]
      exact ⟨rfl, h⟩
    · rw [if_neg (by omega)]
      have hcq : cutQ m (0 - e) ≤ m := by unfold cutQ; rw [if_neg (by omega)]; exact Nat.div_le_self _ _
      have hst : stepQ m (0 - e) mode s ≤ 9007199254740992 := by unfold stepQ; split <;> omega
      have hbl := bitLen_le _ 54 (show stepQ m (0 - e) mode s < 2 ^ 54 by simp only [Nat.reducePow]; omega)
      obtain ⟨v1, v2⟩ := wMag_nv _ 0 hst (by decide) (by omega)
      refine ⟨?_, v2⟩
      have hsc := stepQ_scale m e 0 kt mode s (by omega) (by omega)
      have e1 : ((0 : Int) + (kt : Int)).toNat = kt := by omega
      have e2 : (e + (kt : Int)).toNat = (e + 1074).toNat := by omega
      have e3 : ((0 : Int) + 1074).toNat = kt := by omega
      rw [e1, e2, ← p3] at hsc
      rw [v1, hsc, e3]
theorem wR_le (mode : Int) (s : Bool) (r : Nat) (h : r ≤ 9218868437227405312) : wR mode s r ≤ 9218868437227405312 := by
  by_cases hi : r = 9218868437227405312
  · unfold wR; rw [if_pos hi]; exact h
  · exact Nat.le_of_lt (whole_val mode s r (by omega)).2
theorem wR_mono (mode : Int) (s : Bool) (r1 r2 : Nat) (h : r1 ≤ r2) (h2 : r2 ≤ 9218868437227405312) : wR mode s r1 ≤ wR mode s r2 := by
  by_cases i2 : r2 = 9218868437227405312
  · have : wR mode s r2 = 9218868437227405312 := by unfold wR; rw [if_pos i2, i2]
    rw [this]; exact wR_le _ _ _ (by omega)
  · rw [← nv_mono_iff, (whole_val mode s r1 (by omega)).1, (whole_val mode s r2 (by omega)).1]
    exact Nat.mul_le_mul_right _ (stepN_mono _ _ _ _ _ (nv_le h))
theorem wR_zero (mode : Int) (s : Bool) : wR mode s 0 = 0 := by unfold wR; rw [if_neg (by decide), if_pos (Or.inl rfl)]
/-- Whole of every number but the NaNs. -/
theorem Whole_any (x : Nat) (mode : Int) (w : World) (hx : x < 18446744073709551616) (hn : x % 9223372036854775808 ≤ 9218868437227405312) (hm1 : 0 ≤ mode) (hm2 : mode ≤ 4) (hT : Tab w) (hs : 1 < w.heap.size) :
    ∃ Y, Calls Tryz.prog 15 #[.float .f64 x, .int .i64 mode] w fun r w' => r = .returned (.tuple #[.float .f64 (signN (decide (9223372036854775808 ≤ x)) (wR mode (decide (9223372036854775808 ≤ x)) (x % 9223372036854775808))), .int .i64 Y, .int .i64 0]) ∧ Below w.heap.size w w' := by
  have hx2 := sign_of x hx
  have hc : canonOf x = x := by unfold canonOf; rw [if_neg (by omega)]
  unfold wR
  rw [← hx2]
  by_cases hi : x % 9223372036854775808 = 9218868437227405312
  · rw [if_pos hi, ← hx2]
    refine ⟨0, ?_⟩
    have := Whole_plain x mode w hx hm1 hm2 (Or.inl (exp_inf x (Nat.le_of_eq hi.symm))) hT hs
    rw [hc] at this
    exact this
  · rw [if_neg hi]
    obtain ⟨v1, v2, v3, v4, v5⟩ := parts_val x (by omega)
    by_cases h0 : x % 9223372036854775808 = 0 ∨ 0 ≤ pExp x
    · rw [if_pos h0, ← hx2]
      refine ⟨0, ?_⟩
      have := Whole_plain x mode w hx hm1 hm2 (Or.inr (by
        rcases h0 with h0 | h0
        · unfold pExp; rw [if_pos (Or.inr (v4.2 h0))]; exact Int.le_refl _
        · exact h0)) hT hs
      rw [hc] at this
      exact this
    · rw [if_neg h0]
      obtain ⟨p1, p2, p3, p4, p5, p6⟩ := v5 (fun c => h0 (Or.inl (v4.1 c)))
      have h53 : (2 : Nat) ^ 53 = 9007199254740992 := by decide
      have hN : pNeg x = decide (9223372036854775808 ≤ x) := by unfold pNeg; rw [if_neg v1, v2]
      have hE : pErr x = 0 := by unfold pErr; rw [if_neg v1]
      have := Whole_more x mode w hx hm1 hm2 hE (by omega) (by omega) p1 (by rw [← h53]; exact Nat.lt_of_lt_of_le (bitLen_hi _) (Nat.pow_le_pow_right (by decide) p4)) hT hs
      rw [hN] at this
      exact ⟨_, this⟩

/-- A number's whole value among the kinds' numbers. -/
theorem int_conv2 (κ : IntKind) (m R : Nat) (neg : Bool) (hκ : κ = .i64 ∨ κ = .u64) (hR : R < 9218868437227405312) (hv : nv R = m * 2 ^ kt) (hlo : κ.min ≤ (if neg then -(m : Int) else (m : Int))) (hhi : (if neg then -(m : Int) else (m : Int)) ≤ κ.max) :
    floatToIntVal .f64 (signN neg R) κ = some (if neg then -(m : Int) else (m : Int)) := by
  by_cases h0 : m = 0
  · have hR0 : R = 0 := nv_inj (by rw [hv, h0, Nat.zero_mul, nv_zero])
    rw [hR0, h0]
    rcases hκ with rfl | rfl <;> cases neg <;> decide +kernel
  · obtain ⟨a1, a2, a3⟩ := signN_mod neg R (by omega)
    obtain ⟨mm, p, ex, vx⟩ := read_fin (signN neg R) a3 (by rw [a1]; exact hR)
    rw [a1, hv] at vx
    rw [a2] at ex
    have hd : FloatKind.f64.decode (signN neg R) = .number neg mm ((p : Int) - 1074) := ex
    have hi : (Ieee.Datum.number neg mm ((p : Int) - 1074)).toInt .zero = some (Ieee.signed neg m 0) := by
      show some (Ieee.signed neg (Ieee.Toward.zero.cut neg (mm <<< ((p : Int) - 1074).toNat) (-((p : Int) - 1074)).toNat) 0) = _
      rw [cut_zero neg _ _ m h0 (shift_back mm m p vx)]
    unfold floatToIntVal
    rw [hd, hi]
    have hsg : Ieee.signed neg m 0 = if neg then -(m : Int) else (m : Int) := by
      unfold Ieee.signed
      rw [Nat.shiftLeft_zero]
    rw [hsg]
    simp only
    rw [if_pos ⟨hlo, hhi⟩]
theorem order_lt_iff (X B : Nat) (hX : X < 18446744073709551616) (hB : B < 18446744073709551616) (nX : X % 9223372036854775808 ≤ 9218868437227405312) (nB : B % 9223372036854775808 ≤ 9218868437227405312) : (FloatKind.f64.format.order X B == some .lt) = decide (sv X < sv B) ∧ (FloatKind.f64.format.order X B == some .gt || FloatKind.f64.format.order X B == some .eq) = decide (sv B ≤ sv X) := by
  rw [order_eq X B hX hB nX nB]
  rcases Int.lt_trichotomy (sv X) (sv B) with h | h | h
  · rw [cmp_lt h, decide_eq_true h, decide_eq_false (by omega)]; exact ⟨rfl, rfl⟩
  · rw [cmp_eq h, decide_eq_false (by omega), decide_eq_true (by omega)]; exact ⟨rfl, rfl⟩
  · rw [cmp_gt h, decide_eq_false (by omega), decide_eq_true (by omega)]; exact ⟨rfl, rfl⟩
/-- The clamped value, in units of T. -/
def clI (lo hi T v : Int) : Int := if v < lo * T then lo else if (hi + 1) * T ≤ v then hi else v / T
theorem clI_mono (lo hi T v v' : Int) (hT : 0 < T) (h : v ≤ v') (hlh : lo ≤ hi) : clI lo hi T v ≤ clI lo hi T v' := by
  unfold clI
  have hd := Int.ediv_le_ediv hT h
  by_cases a : v < lo * T
  · rw [if_pos a]
    by_cases b : v' < lo * T
    · rw [if_pos b]; exact Int.le_refl _
    · rw [if_neg b]
      split
      · exact hlh
      · exact (Int.le_ediv_iff_mul_le hT).2 (by omega)
  · rw [if_neg a, if_neg (show ¬ v' < lo * T by omega)]
    by_cases b : (hi + 1) * T ≤ v
    · rw [if_pos b, if_pos (by omega)]; exact Int.le_refl _
    · rw [if_neg b]
      split
      · have := Int.ediv_lt_of_lt_mul hT (show v < (hi + 1) * T by omega)
        omega
      · exact hd
/-- The word and the value of what Whole answers. -/
theorem whole_sv (mode : Int) (s : Bool) (r : Nat) (h : r ≤ 9218868437227405312) : sv (signN s (wR mode s r)) = (if s then -(nv (wR mode s r) : Int) else (nv (wR mode s r) : Int)) := sv_sign s _ (by have := wR_le mode s r h; omega)
def tI : Int := ((2 ^ kt : Nat) : Int)
theorem tI_is : ((2 ^ kt : Nat) : Int) = tI := rfl
theorem tI_pos : 0 < tI := by have := Nat.two_pow_pos kt; unfold tI; omega
theorem cast_tI (A B : Nat) (h : Int) (e : A = B * 2 ^ kt) (hb : (B : Int) = h) : (A : Int) = h * tI := by
  rw [e, Int.natCast_mul, hb, tI_is]
/-- What is neither below the least nor above the greatest: its whole value, and its conversion. -/
theorem whole_in (κ : IntKind) (lo hi mode : Int) (s : Bool) (r B : Nat) (hκ : κ = .i64 ∨ κ = .u64) (hn : r ≤ 9218868437227405312) (hB : B < 9218868437227405312) (hBv : (nv B : Int) = (hi + 1) * tI) (hlo : -(hi + 1) ≤ lo) (k1 : κ.min ≤ lo) (k2 : hi ≤ κ.max)
    (c1 : ¬ sv (signN s (wR mode s r)) < lo * tI) (c2 : ¬ (hi + 1) * tI ≤ sv (signN s (wR mode s r))) : floatToIntVal .f64 (signN s (wR mode s r)) κ = some (sv (signN s (wR mode s r)) / tI) := by
  have hsv := whole_sv mode s r hn
  have htp := tI_pos
  have hfi : r < 9218868437227405312 := by
    apply Classical.byContradiction
    intro hc
    have hri : r = 9218868437227405312 := by omega
    have hwi : wR mode s r = 9218868437227405312 := by unfold wR; rw [if_pos hri, hri]
    have hlt := nv_lt hB
    rw [hsv] at c1 c2
    rw [hwi] at c1 c2
    obtain ⟨I, hI⟩ : ∃ I, nv 9218868437227405312 = I := ⟨_, rfl⟩
    obtain ⟨J, hJ⟩ : ∃ J, nv B = J := ⟨_, rfl⟩
    rw [hI] at c1 c2 hlt
    rw [hJ] at hBv hlt
    have hm : -((hi + 1) * tI) ≤ lo * tI := by rw [← Int.neg_mul]; exact Int.mul_le_mul_of_nonneg_right hlo (Int.le_of_lt htp)
    rw [← hBv] at hm c2
    obtain ⟨K, hK⟩ : ∃ K, lo * tI = K := ⟨_, rfl⟩
    rw [hK] at hm c1
    cases s
    · have c2' : ¬ (J : Int) ≤ (I : Int) := c2
      omega
    · have c1' : ¬ -(I : Int) < K := c1
      omega
  obtain ⟨v1, v2⟩ := whole_val mode s r hfi
  obtain ⟨z, hz⟩ : ∃ z, stepN (nv r) kt mode s = z := ⟨_, rfl⟩
  rw [hz] at v1
  have hv : sv (signN s (wR mode s r)) = (if s then -(z : Int) else (z : Int)) * tI := by
    rw [hsv, v1, Int.natCast_mul, tI_is]
    cases s
    · rw [if_neg Bool.false_ne_true, if_neg Bool.false_ne_true]
    · rw [if_pos rfl, if_pos rfl, Int.neg_mul]
  obtain ⟨q, hq⟩ : ∃ q : Int, (if s then -(z : Int) else (z : Int)) = q := ⟨_, rfl⟩
  rw [hq] at hv
  have hdiv : sv (signN s (wR mode s r)) / tI = q := by rw [hv]; exact Int.mul_ediv_cancel _ (Int.ne_of_gt htp)
  rw [hdiv]
  rw [hv] at c1 c2
  have q1 : lo ≤ q := by
    apply Classical.byContradiction
    intro hc
    exact c1 (Int.mul_lt_mul_of_pos_right (by omega) htp)
  have q2 : q < hi + 1 := by
    apply Classical.byContradiction
    intro hc
    exact c2 (Int.mul_le_mul_of_nonneg_right (by omega) (Int.le_of_lt htp))
  have hcv := int_conv2 κ z (wR mode s r) s hκ v2 v1 (by rw [hq]; omega) (by rw [hq]; omega)
  rw [hq] at hcv
  exact hcv
theorem nv_fn8 : nv 4638707616191610880 = 128 * 2 ^ kt := by
  have e : wMag 1 7 = 4638707616191610880 := by decide +kernel
  have hbl : bitLen 1 = 1 := by decide
  obtain ⟨_, v2⟩ := good_val 1 7 (by decide) (by decide) (by decide) (by rw [hbl]; decide)
  have hk := kt_is
  have ex : ((7 : Int) + 1074).toNat = 7 + kt := by omega
  have e63 : (2 : Nat) ^ 7 = 128 := by decide
  rw [e, ex, Nat.pow_add, Nat.one_mul, e63] at v2
  exact v2
theorem nv_f28 : nv 4643211215818981376 = 256 * 2 ^ kt := by
  have e : wMag 1 8 = 4643211215818981376 := by decide +kernel
  have hbl : bitLen 1 = 1 := by decide
  obtain ⟨_, v2⟩ := good_val 1 8 (by decide) (by decide) (by decide) (by rw [hbl]; decide)
  have hk := kt_is
  have ex : ((8 : Int) + 1074).toNat = 8 + kt := by omega
  have e63 : (2 : Nat) ^ 8 = 256 := by decide
  rw [e, ex, Nat.pow_add, Nat.one_mul, e63] at v2
  exact v2
theorem Int8_any (x : Nat) (mode : Int) (w : World) (hx : x < 18446744073709551616) (hn : x % 9223372036854775808 ≤ 9218868437227405312) (hm1 : 0 ≤ mode) (hm2 : mode ≤ 4) (hT : Tab w) (hs : 1 < w.heap.size) :
    ∃ Y, Calls Tryz.prog 18 #[.float .f64 x, .int .i64 8, .int .i64 mode] w fun r w' => r = .returned (.tuple #[.int .i64 (clI (-128) 127 tI (sv (signN (decide (9223372036854775808 ≤ x)) (wR mode (decide (9223372036854775808 ≤ x)) (x % 9223372036854775808))))), .int .i64 Y, .int .i64 0]) ∧ Below w.heap.size w w' := by
  obtain ⟨Y, hW⟩ := Whole_any x mode w hx hn hm1 hm2 hT hs
  obtain ⟨s, hse⟩ : ∃ s, decide (9223372036854775808 ≤ x) = s := ⟨_, rfl⟩
  obtain ⟨r, hre⟩ : ∃ r, x % 9223372036854775808 = r := ⟨_, rfl⟩
  rw [hse, hre] at hW ⊢
  rw [hre] at hn
  have hl := wR_le mode s r hn
  obtain ⟨a1, a2, a3⟩ := signN_mod s (wR mode s r) (by omega)
  have hfn := nv_fn8
  have s1 : sv 13862079653046386688 = -(nv 4638707616191610880 : Int) := sv_sign true 4638707616191610880 (by decide)
  have s2 : sv 4638707616191610880 = (nv 4638707616191610880 : Int) := sv_sign false 4638707616191610880 (by decide)
  have o1 := (order_lt_iff (signN s (wR mode s r)) 13862079653046386688 a3 (by decide) (by omega) (by decide)).1
  have o2 := (order_lt_iff (signN s (wR mode s r)) 4638707616191610880 a3 (by decide) (by omega) (by decide)).2
  have t2' : (nv 4638707616191610880 : Int) = (127 + 1) * tI := cast_tI _ 128 _ hfn (by decide)
  have t1 : sv 13862079653046386688 = (-128) * tI := by rw [s1, t2', ← Int.neg_mul, show (-(127 + 1) : Int) = -128 by decide]
  have t2 : sv 4638707616191610880 = (127 + 1) * tI := s2.trans t2'
  rw [t1] at o1
  rw [t2] at o2
  unfold clI
  by_cases c1 : sv (signN s (wR mode s r)) < (-128) * tI
  · rw [if_pos c1]
    rw [decide_eq_true c1] at o1
    exact ⟨_, Int8_low x _ mode Y w a3 (by omega) o1 hW⟩
  · rw [if_neg c1]
    rw [decide_eq_false c1] at o1
    by_cases c2 : (127 + 1) * tI ≤ sv (signN s (wR mode s r))
    · rw [if_pos c2]
      rw [decide_eq_true c2] at o2
      exact ⟨_, Int8_high x _ mode Y w a3 (by omega) o1 o2 hW⟩
    · rw [if_neg c2]
      rw [decide_eq_false c2] at o2
      have hcv := whole_in .i64 (-128) 127 mode s r 4638707616191610880 (Or.inl rfl) hn (by decide) t2' (by decide) (by decide) (by decide) c1 c2
      exact ⟨_, Int8_in x _ mode Y _ w a3 (by omega) o1 o2 hcv hW⟩
theorem Uint8_any (x : Nat) (mode : Int) (w : World) (hx : x < 18446744073709551616) (hn : x % 9223372036854775808 ≤ 9218868437227405312) (hm1 : 0 ≤ mode) (hm2 : mode ≤ 4) (hT : Tab w) (hs : 1 < w.heap.size) :
    ∃ Y, Calls Tryz.prog 20 #[.float .f64 x, .int .i64 8, .int .i64 mode] w fun r w' => r = .returned (.tuple #[.int .u64 (clI 0 255 tI (sv (signN (decide (9223372036854775808 ≤ x)) (wR mode (decide (9223372036854775808 ≤ x)) (x % 9223372036854775808))))), .int .i64 Y, .int .i64 0]) ∧ Below w.heap.size w w' := by
  obtain ⟨Y, hW⟩ := Whole_any x mode w hx hn hm1 hm2 hT hs
  obtain ⟨s, hse⟩ : ∃ s, decide (9223372036854775808 ≤ x) = s := ⟨_, rfl⟩
  obtain ⟨r, hre⟩ : ∃ r, x % 9223372036854775808 = r := ⟨_, rfl⟩
  rw [hse, hre] at hW ⊢
  rw [hre] at hn
  have hl := wR_le mode s r hn
  obtain ⟨a1, a2, a3⟩ := signN_mod s (wR mode s r) (by omega)
  have hfn := nv_f28
  have s2 : sv 4643211215818981376 = (nv 4643211215818981376 : Int) := sv_sign false 4643211215818981376 (by decide)
  have o1 := (order_lt_iff (signN s (wR mode s r)) 0 a3 (by decide) (by omega) (by decide)).1
  have o2 := (order_lt_iff (signN s (wR mode s r)) 4643211215818981376 a3 (by decide) (by omega) (by decide)).2
  have t1 : sv 0 = 0 * tI := by rw [sv_zero, Int.zero_mul]
  have t2' : (nv 4643211215818981376 : Int) = (255 + 1) * tI := cast_tI _ 256 _ hfn (by decide)
  have t2 : sv 4643211215818981376 = (255 + 1) * tI := s2.trans t2'
  rw [t1] at o1
  rw [t2] at o2
  unfold clI
  by_cases c1 : sv (signN s (wR mode s r)) < 0 * tI
  · rw [if_pos c1]
    rw [decide_eq_true c1] at o1
    exact ⟨_, Uint8_low x _ mode Y w a3 (by omega) o1 hW⟩
  · rw [if_neg c1]
    rw [decide_eq_false c1] at o1
    by_cases c2 : (255 + 1) * tI ≤ sv (signN s (wR mode s r))
    · rw [if_pos c2]
      rw [decide_eq_true c2] at o2
      exact ⟨_, Uint8_high x _ mode Y w a3 (by omega) o1 o2 hW⟩
    · rw [if_neg c2]
      rw [decide_eq_false c2] at o2
      have hcv := whole_in .u64 0 255 mode s r 4643211215818981376 (Or.inr rfl) hn (by decide) t2' (by decide) (by decide) (by decide) c1 c2
      exact ⟨_, Uint8_in x _ mode Y _ w a3 (by omega) o1 o2 hcv hW⟩
theorem nv_fn16 : nv 4674736413210574848 = 32768 * 2 ^ kt := by
  have e : wMag 1 15 = 4674736413210574848 := by decide +kernel
  have hbl : bitLen 1 = 1 := by decide
  obtain ⟨_, v2⟩ := good_val 1 15 (by decide) (by decide) (by decide) (by rw [hbl]; decide)
  have hk := kt_is
  have ex : ((15 : Int) + 1074).toNat = 15 + kt := by omega
  have e63 : (2 : Nat) ^ 15 = 32768 := by decide
  rw [e, ex, Nat.pow_add, Nat.one_mul, e63] at v2
  exact v2
theorem nv_f216 : nv 4679240012837945344 = 65536 * 2 ^ kt := by
  have e : wMag 1 16 = 4679240012837945344 := by decide +kernel
  have hbl : bitLen 1 = 1 := by decide
  obtain ⟨_, v2⟩ := good_val 1 16 (by decide) (by decide) (by decide) (by rw [hbl]; decide)
  have hk := kt_is
  have ex : ((16 : Int) + 1074).toNat = 16 + kt := by omega
  have e63 : (2 : Nat) ^ 16 = 65536 := by decide
  rw [e, ex, Nat.pow_add, Nat.one_mul, e63] at v2
  exact v2
theorem Int16_any (x : Nat) (mode : Int) (w : World) (hx : x < 18446744073709551616) (hn : x % 9223372036854775808 ≤ 9218868437227405312) (hm1 : 0 ≤ mode) (hm2 : mode ≤ 4) (hT : Tab w) (hs : 1 < w.heap.size) :
    ∃ Y, Calls Tryz.prog 18 #[.float .f64 x, .int .i64 16, .int .i64 mode] w fun r w' => r = .returned (.tuple #[.int .i64 (clI (-32768) 32767 tI (sv (signN (decide (9223372036854775808 ≤ x)) (wR mode (decide (9223372036854775808 ≤ x)) (x % 9223372036854775808))))), .int .i64 Y, .int .i64 0]) ∧ Below w.heap.size w w' := by
  obtain ⟨Y, hW⟩ := Whole_any x mode w hx hn hm1 hm2 hT hs
  obtain ⟨s, hse⟩ : ∃ s, decide (9223372036854775808 ≤ x) = s := ⟨_, rfl⟩
  obtain ⟨r, hre⟩ : ∃ r, x % 9223372036854775808 = r := ⟨_, rfl⟩
  rw [hse, hre] at hW ⊢
  rw [hre] at hn
  have hl := wR_le mode s r hn
  obtain ⟨a1, a2, a3⟩ := signN_mod s (wR mode s r) (by omega)
  have hfn := nv_fn16
  have s1 : sv 13898108450065350656 = -(nv 4674736413210574848 : Int) := sv_sign true 4674736413210574848 (by decide)
  have s2 : sv 4674736413210574848 = (nv 4674736413210574848 : Int) := sv_sign false 4674736413210574848 (by decide)
  have o1 := (order_lt_iff (signN s (wR mode s r)) 13898108450065350656 a3 (by decide) (by omega) (by decide)).1
  have o2 := (order_lt_iff (signN s (wR mode s r)) 4674736413210574848 a3 (by decide) (by omega) (by decide)).2
  have t2' : (nv 4674736413210574848 : Int) = (32767 + 1) * tI := cast_tI _ 32768 _ hfn (by decide)
  have t1 : sv 13898108450065350656 = (-32768) * tI := by rw [s1, t2', ← Int.neg_mul, show (-(32767 + 1) : Int) = -32768 by decide]
  have t2 : sv 4674736413210574848 = (32767 + 1) * tI := s2.trans t2'
  rw [t1] at o1
  rw [t2] at o2
  unfold clI
  by_cases c1 : sv (signN s (wR mode s r)) < (-32768) * tI
  · rw [if_pos c1]
    rw [decide_eq_true c1] at o1
    exact ⟨_, Int16_low x _ mode Y w a3 (by omega) o1 hW⟩
  · rw [if_neg c1]
    rw [decide_eq_false c1] at o1
    by_cases c2 : (32767 + 1) * tI ≤ sv (signN s (wR mode s r))
    · rw [if_pos c2]
      rw [decide_eq_true c2] at o2
      exact ⟨_, Int16_high x _ mode Y w a3 (by omega) o1 o2 hW⟩
    · rw [if_neg c2]
      rw [decide_eq_false c2] at o2
      have hcv := whole_in .i64 (-32768) 32767 mode s r 4674736413210574848 (Or.inl rfl) hn (by decide) t2' (by decide) (by decide) (by decide) c1 c2
      exact ⟨_, Int16_in x _ mode Y _ w a3 (by omega) o1 o2 hcv hW⟩
theorem Uint16_any (x : Nat) (mode : Int) (w : World) (hx : x < 18446744073709551616) (hn : x % 9223372036854775808 ≤ 9218868437227405312) (hm1 : 0 ≤ mode) (hm2 : mode ≤ 4) (hT : Tab w) (hs : 1 < w.heap.size) :
    ∃ Y, Calls Tryz.prog 20 #[.float .f64 x, .int .i64 16, .int .i64 mode] w fun r w' => r = .returned (.tuple #[.int .u64 (clI 0 65535 tI (sv (signN (decide (9223372036854775808 ≤ x)) (wR mode (decide (9223372036854775808 ≤ x)) (x % 9223372036854775808))))), .int .i64 Y, .int .i64 0]) ∧ Below w.heap.size w w' := by
  obtain ⟨Y, hW⟩ := Whole_any x mode w hx hn hm1 hm2 hT hs
  obtain ⟨s, hse⟩ : ∃ s, decide (9223372036854775808 ≤ x) = s := ⟨_, rfl⟩
  obtain ⟨r, hre⟩ : ∃ r, x % 9223372036854775808 = r := ⟨_, rfl⟩
  rw [hse, hre] at hW ⊢
  rw [hre] at hn
  have hl := wR_le mode s r hn
  obtain ⟨a1, a2, a3⟩ := signN_mod s (wR mode s r) (by omega)
  have hfn := nv_f216
  have s2 : sv 4679240012837945344 = (nv 4679240012837945344 : Int) := sv_sign false 4679240012837945344 (by decide)
  have o1 := (order_lt_iff (signN s (wR mode s r)) 0 a3 (by decide) (by omega) (by decide)).1
  have o2 := (order_lt_iff (signN s (wR mode s r)) 4679240012837945344 a3 (by decide) (by omega) (by decide)).2
  have t1 : sv 0 = 0 * tI := by rw [sv_zero, Int.zero_mul]
  have t2' : (nv 4679240012837945344 : Int) = (65535 + 1) * tI := cast_tI _ 65536 _ hfn (by decide)
  have t2 : sv 4679240012837945344 = (65535 + 1) * tI := s2.trans t2'
  rw [t1] at o1
  rw [t2] at o2
  unfold clI
  by_cases c1 : sv (signN s (wR mode s r)) < 0 * tI
  · rw [if_pos c1]
    rw [decide_eq_true c1] at o1
    exact ⟨_, Uint16_low x _ mode Y w a3 (by omega) o1 hW⟩
  · rw [if_neg c1]
    rw [decide_eq_false c1] at o1
    by_cases c2 : (65535 + 1) * tI ≤ sv (signN s (wR mode s r))
    · rw [if_pos c2]
      rw [decide_eq_true c2] at o2
      exact ⟨_, Uint16_high x _ mode Y w a3 (by omega) o1 o2 hW⟩
    · rw [if_neg c2]
      rw [decide_eq_false c2] at o2
      have hcv := whole_in .u64 0 65535 mode s r 4679240012837945344 (Or.inr rfl) hn (by decide) t2' (by decide) (by decide) (by decide) c1 c2
      exact ⟨_, Uint16_in x _ mode Y _ w a3 (by omega) o1 o2 hcv hW⟩
theorem nv_fn32 : nv 4746794007248502784 = 2147483648 * 2 ^ kt := by
  have e : wMag 1 31 = 4746794007248502784 := by decide +kernel
  have hbl : bitLen 1 = 1 := by decide
  obtain ⟨_, v2⟩ := good_val 1 31 (by decide) (by decide) (by decide) (by rw [hbl]; decide)
  have hk := kt_is
  have ex : ((31 : Int) + 1074).toNat = 31 + kt := by omega
  have e63 : (2 : Nat) ^ 31 = 2147483648 := by decide
  rw [e, ex, Nat.pow_add, Nat.one_mul, e63] at v2
  exact v2
theorem nv_f232 : nv 4751297606875873280 = 4294967296 * 2 ^ kt := by
  have e : wMag 1 32 = 4751297606875873280 := by decide +kernel
  have hbl : bitLen 1 = 1 := by decide
  obtain ⟨_, v2⟩ := good_val 1 32 (by decide) (by decide) (by decide) (by rw [hbl]; decide)
  have hk := kt_is
  have ex : ((32 : Int) + 1074).toNat = 32 + kt := by omega
  have e63 : (2 : Nat) ^ 32 = 4294967296 := by decide
  rw [e, ex, Nat.pow_add, Nat.one_mul, e63] at v2
  exact v2
theorem Int32_any (x : Nat) (mode : Int) (w : World) (hx : x < 18446744073709551616) (hn : x % 9223372036854775808 ≤ 9218868437227405312) (hm1 : 0 ≤ mode) (hm2 : mode ≤ 4) (hT : Tab w) (hs : 1 < w.heap.size) :
    ∃ Y, Calls Tryz.prog 18 #[.float .f64 x, .int .i64 32, .int .i64 mode] w fun r w' => r = .returned (.tuple #[.int .i64 (clI (-2147483648) 2147483647 tI (sv (signN (decide (9223372036854775808 ≤ x)) (wR mode (decide (9223372036854775808 ≤ x)) (x % 9223372036854775808))))), .int .i64 Y, .int .i64 0]) ∧ Below w.heap.size w w' := by
  obtain ⟨Y, hW⟩ := Whole_any x mode w hx hn hm1 hm2 hT hs
  obtain ⟨s, hse⟩ : ∃ s, decide (9223372036854775808 ≤ x) = s := ⟨_, rfl⟩
  obtain ⟨r, hre⟩ : ∃ r, x % 9223372036854775808 = r := ⟨_, rfl⟩
  rw [hse, hre] at hW ⊢
  rw [hre] at hn
  have hl := wR_le mode s r hn
  obtain ⟨a1, a2, a3⟩ := signN_mod s (wR mode s r) (by omega)
  have hfn := nv_fn32
  have s1 : sv 13970166044103278592 = -(nv 4746794007248502784 : Int) := sv_sign true 4746794007248502784 (by decide)
  have s2 : sv 4746794007248502784 = (nv 4746794007248502784 : Int) := sv_sign false 4746794007248502784 (by decide)
  have o1 := (order_lt_iff (signN s (wR mode s r)) 13970166044103278592 a3 (by decide) (by omega) (by decide)).1
  have o2 := (order_lt_iff (signN s (wR mode s r)) 4746794007248502784 a3 (by decide) (by omega) (by decide)).2
  have t2' : (nv 4746794007248502784 : Int) = (2147483647 + 1) * tI := cast_tI _ 2147483648 _ hfn (by decide)
  have t1 : sv 13970166044103278592 = (-2147483648) * tI := by rw [s1, t2', ← Int.neg_mul, show (-(2147483647 + 1) : Int) = -2147483648 by decide]
  have t2 : sv 4746794007248502784 = (2147483647 + 1) * tI := s2.trans t2'
  rw [t1] at o1
  rw [t2] at o2
  unfold clI
  by_cases c1 : sv (signN s (wR mode s r)) < (-2147483648) * tI
  · rw [if_pos c1]
    rw [decide_eq_true c1] at o1
    exact ⟨_, Int32_low x _ mode Y w a3 (by omega) o1 hW⟩
  · rw [if_neg c1]
    rw [decide_eq_false c1] at o1
    by_cases c2 : (2147483647 + 1) * tI ≤ sv (signN s (wR mode s r))
    · rw [if_pos c2]
      rw [decide_eq_true c2] at o2
      exact ⟨_, Int32_high x _ mode Y w a3 (by omega) o1 o2 hW⟩
    · rw [if_neg c2]
      rw [decide_eq_false c2] at o2
      have hcv := whole_in .i64 (-2147483648) 2147483647 mode s r 4746794007248502784 (Or.inl rfl) hn (by decide) t2' (by decide) (by decide) (by decide) c1 c2
      exact ⟨_, Int32_in x _ mode Y _ w a3 (by omega) o1 o2 hcv hW⟩
theorem Uint32_any (x : Nat) (mode : Int) (w : World) (hx : x < 18446744073709551616) (hn : x % 9223372036854775808 ≤ 9218868437227405312) (hm1 : 0 ≤ mode) (hm2 : mode ≤ 4) (hT : Tab w) (hs : 1 < w.heap.size) :
    ∃ Y, Calls Tryz.prog 20 #[.float .f64 x, .int .i64 32, .int .i64 mode] w fun r w' => r = .returned (.tuple #[.int .u64 (clI 0 4294967295 tI (sv (signN (decide (9223372036854775808 ≤ x)) (wR mode (decide (9223372036854775808 ≤ x)) (x % 9223372036854775808))))), .int .i64 Y, .int .i64 0]) ∧ Below w.heap.size w w' := by
  obtain ⟨Y, hW⟩ := Whole_any x mode w hx hn hm1 hm2 hT hs
  obtain ⟨s, hse⟩ : ∃ s, decide (9223372036854775808 ≤ x) = s := ⟨_, rfl⟩
  obtain ⟨r, hre⟩ : ∃ r, x % 9223372036854775808 = r := ⟨_, rfl⟩
  rw [hse, hre] at hW ⊢
  rw [hre] at hn
  have hl := wR_le mode s r hn
  obtain ⟨a1, a2, a3⟩ := signN_mod s (wR mode s r) (by omega)
  have hfn := nv_f232
  have s2 : sv 4751297606875873280 = (nv 4751297606875873280 : Int) := sv_sign false 4751297606875873280 (by decide)
  have o1 := (order_lt_iff (signN s (wR mode s r)) 0 a3 (by decide) (by omega) (by decide)).1
  have o2 := (order_lt_iff (signN s (wR mode s r)) 4751297606875873280 a3 (by decide) (by omega) (by decide)).2
  have t1 : sv 0 = 0 * tI := by rw [sv_zero, Int.zero_mul]
  have t2' : (nv 4751297606875873280 : Int) = (4294967295 + 1) * tI := cast_tI _ 4294967296 _ hfn (by decide)
  have t2 : sv 4751297606875873280 = (4294967295 + 1) * tI := s2.trans t2'
  rw [t1] at o1
  rw [t2] at o2
  unfold clI
  by_cases c1 : sv (signN s (wR mode s r)) < 0 * tI
  · rw [if_pos c1]
    rw [decide_eq_true c1] at o1
    exact ⟨_, Uint32_low x _ mode Y w a3 (by omega) o1 hW⟩
  · rw [if_neg c1]
    rw [decide_eq_false c1] at o1
    by_cases c2 : (4294967295 + 1) * tI ≤ sv (signN s (wR mode s r))
    · rw [if_pos c2]
      rw [decide_eq_true c2] at o2
      exact ⟨_, Uint32_high x _ mode Y w a3 (by omega) o1 o2 hW⟩
    · rw [if_neg c2]
      rw [decide_eq_false c2] at o2
      have hcv := whole_in .u64 0 4294967295 mode s r 4751297606875873280 (Or.inr rfl) hn (by decide) t2' (by decide) (by decide) (by decide) c1 c2
      exact ⟨_, Uint32_in x _ mode Y _ w a3 (by omega) o1 o2 hcv hW⟩
theorem nv_fn64 : nv 4890909195324358656 = 9223372036854775808 * 2 ^ kt := by
  have e : wMag 1 63 = 4890909195324358656 := by decide +kernel
  have hbl : bitLen 1 = 1 := by decide
  obtain ⟨_, v2⟩ := good_val 1 63 (by decide) (by decide) (by decide) (by rw [hbl]; decide)
  have hk := kt_is
  have ex : ((63 : Int) + 1074).toNat = 63 + kt := by omega
  have e63 : (2 : Nat) ^ 63 = 9223372036854775808 := by decide
  rw [e, ex, Nat.pow_add, Nat.one_mul, e63] at v2
  exact v2
theorem nv_f264 : nv 4895412794951729152 = 18446744073709551616 * 2 ^ kt := by
  have e : wMag 1 64 = 4895412794951729152 := by decide +kernel
  have hbl : bitLen 1 = 1 := by decide
  obtain ⟨_, v2⟩ := good_val 1 64 (by decide) (by decide) (by decide) (by rw [hbl]; decide)
  have hk := kt_is
  have ex : ((64 : Int) + 1074).toNat = 64 + kt := by omega
  have e63 : (2 : Nat) ^ 64 = 18446744073709551616 := by decide
  rw [e, ex, Nat.pow_add, Nat.one_mul, e63] at v2
  exact v2
theorem Int64_any (x : Nat) (mode : Int) (w : World) (hx : x < 18446744073709551616) (hn : x % 9223372036854775808 ≤ 9218868437227405312) (hm1 : 0 ≤ mode) (hm2 : mode ≤ 4) (hT : Tab w) (hs : 1 < w.heap.size) :
    ∃ Y, Calls Tryz.prog 18 #[.float .f64 x, .int .i64 64, .int .i64 mode] w fun r w' => r = .returned (.tuple #[.int .i64 (clI (-9223372036854775808) 9223372036854775807 tI (sv (signN (decide (9223372036854775808 ≤ x)) (wR mode (decide (9223372036854775808 ≤ x)) (x % 9223372036854775808))))), .int .i64 Y, .int .i64 0]) ∧ Below w.heap.size w w' := by
  obtain ⟨Y, hW⟩ := Whole_any x mode w hx hn hm1 hm2 hT hs
  obtain ⟨s, hse⟩ : ∃ s, decide (9223372036854775808 ≤ x) = s := ⟨_, rfl⟩
  obtain ⟨r, hre⟩ : ∃ r, x % 9223372036854775808 = r := ⟨_, rfl⟩
  rw [hse, hre] at hW ⊢
  rw [hre] at hn
  have hl := wR_le mode s r hn
  obtain ⟨a1, a2, a3⟩ := signN_mod s (wR mode s r) (by omega)
  have hfn := nv_fn64
  have s1 : sv 14114281232179134464 = -(nv 4890909195324358656 : Int) := sv_sign true 4890909195324358656 (by decide)
  have s2 : sv 4890909195324358656 = (nv 4890909195324358656 : Int) := sv_sign false 4890909195324358656 (by decide)
  have o1 := (order_lt_iff (signN s (wR mode s r)) 14114281232179134464 a3 (by decide) (by omega) (by decide)).1
  have o2 := (order_lt_iff (signN s (wR mode s r)) 4890909195324358656 a3 (by decide) (by omega) (by decide)).2
  have t2' : (nv 4890909195324358656 : Int) = (9223372036854775807 + 1) * tI := cast_tI _ 9223372036854775808 _ hfn (by decide)
  have t1 : sv 14114281232179134464 = (-9223372036854775808) * tI := by rw [s1, t2', ← Int.neg_mul, show (-(9223372036854775807 + 1) : Int) = -9223372036854775808 by decide]
  have t2 : sv 4890909195324358656 = (9223372036854775807 + 1) * tI := s2.trans t2'
  rw [t1] at o1
  rw [t2] at o2
  unfold clI
  by_cases c1 : sv (signN s (wR mode s r)) < (-9223372036854775808) * tI
  · rw [if_pos c1]
    rw [decide_eq_true c1] at o1
    exact ⟨_, Int64_low x _ mode Y w a3 (by omega) o1 hW⟩
  · rw [if_neg c1]
    rw [decide_eq_false c1] at o1
    by_cases c2 : (9223372036854775807 + 1) * tI ≤ sv (signN s (wR mode s r))
    · rw [if_pos c2]
      rw [decide_eq_true c2] at o2
      exact ⟨_, Int64_high x _ mode Y w a3 (by omega) o1 o2 hW⟩
    · rw [if_neg c2]
      rw [decide_eq_false c2] at o2
      have hcv := whole_in .i64 (-9223372036854775808) 9223372036854775807 mode s r 4890909195324358656 (Or.inl rfl) hn (by decide) t2' (by decide) (by decide) (by decide) c1 c2
      exact ⟨_, Int64_in x _ mode Y _ w a3 (by omega) o1 o2 hcv hW⟩
theorem UintR64_any (x : Nat) (mode : Int) (w : World) (hx : x < 18446744073709551616) (hn : x % 9223372036854775808 ≤ 9218868437227405312) (hm1 : 0 ≤ mode) (hm2 : mode ≤ 4) (hT : Tab w) (hs : 1 < w.heap.size) :
    ∃ Y, Calls Tryz.prog 20 #[.float .f64 x, .int .i64 64, .int .i64 mode] w fun r w' => r = .returned (.tuple #[.int .u64 (clI 0 18446744073709551615 tI (sv (signN (decide (9223372036854775808 ≤ x)) (wR mode (decide (9223372036854775808 ≤ x)) (x % 9223372036854775808))))), .int .i64 Y, .int .i64 0]) ∧ Below w.heap.size w w' := by
  obtain ⟨Y, hW⟩ := Whole_any x mode w hx hn hm1 hm2 hT hs
  obtain ⟨s, hse⟩ : ∃ s, decide (9223372036854775808 ≤ x) = s := ⟨_, rfl⟩
  obtain ⟨r, hre⟩ : ∃ r, x % 9223372036854775808 = r := ⟨_, rfl⟩
  rw [hse, hre] at hW ⊢
  rw [hre] at hn
  have hl := wR_le mode s r hn
  obtain ⟨a1, a2, a3⟩ := signN_mod s (wR mode s r) (by omega)
  have hfn := nv_f264
  have s2 : sv 4895412794951729152 = (nv 4895412794951729152 : Int) := sv_sign false 4895412794951729152 (by decide)
  have o1 := (order_lt_iff (signN s (wR mode s r)) 0 a3 (by decide) (by omega) (by decide)).1
  have o2 := (order_lt_iff (signN s (wR mode s r)) 4895412794951729152 a3 (by decide) (by omega) (by decide)).2
  have t1 : sv 0 = 0 * tI := by rw [sv_zero, Int.zero_mul]
  have t2' : (nv 4895412794951729152 : Int) = (18446744073709551615 + 1) * tI := cast_tI _ 18446744073709551616 _ hfn (by decide)
  have t2 : sv 4895412794951729152 = (18446744073709551615 + 1) * tI := s2.trans t2'
  rw [t1] at o1
  rw [t2] at o2
  unfold clI
  by_cases c1 : sv (signN s (wR mode s r)) < 0 * tI
  · rw [if_pos c1]
    rw [decide_eq_true c1] at o1
    exact ⟨_, Uint64_low x _ mode Y w a3 (by omega) o1 hW⟩
  · rw [if_neg c1]
    rw [decide_eq_false c1] at o1
    by_cases c2 : (18446744073709551615 + 1) * tI ≤ sv (signN s (wR mode s r))
    · rw [if_pos c2]
      rw [decide_eq_true c2] at o2
      exact ⟨_, Uint64_high x _ mode Y w a3 (by omega) o1 o2 hW⟩
    · rw [if_neg c2]
      rw [decide_eq_false c2] at o2
      have hcv := whole_in .u64 0 18446744073709551615 mode s r 4895412794951729152 (Or.inr rfl) hn (by decide) t2' (by decide) (by decide) (by decide) c1 c2
      exact ⟨_, Uint64_in x _ mode Y _ w a3 (by omega) o1 o2 hcv hW⟩
end Go.Proofs.YtpgcelbgmpfliaaGreatDoor
