
/- What the law ConvertBack answers. -/
import Derived.Test.YtfeojdmffipinaaDoorLaw2
import Derived.Test.YtfeojdmffipinaaDoorCvBackN
namespace Go.Proofs.YtfeojdmffipinaaDoor
open Go.RowKit Go.IntWalk

set_option maxHeartbeats 400000 in
theorem lbits_any (y : Nat) (w : World) (hy : y < 4294967296) :
    Calls Tryd.prog 55 #[.float .f32 y] w fun r w' => r = .returned (.int .u32 (canonOf32 y)) ∧ w' = w := by
  have h1 := f64bits32
  have ho := order_self32 y hy
  by_cases hn : 2139095040 < y % 2147483648
  · rw [decide_eq_true hn] at ho
    have hc : canonOf32 y = 2143289344 := by unfold canonOf32; rw [if_pos hn]
    rw [hc]
    clear hn hc
    go_enter Tryd.func55, Tryd.ntmps55
    go_wp2
    go_ret
    exact ⟨rfl, rfl⟩
  · rw [decide_eq_false hn] at ho
    have hc : canonOf32 y = y := by unfold canonOf32; rw [if_neg hn]
    rw [hc]
    clear hn hc
    go_enter Tryd.func55, Tryd.ntmps55
    go_wp2
    go_ret
    exact ⟨rfl, rfl⟩
/-- FromInt and Int of a whole number that is a number. -/
theorem int_back (n mode : Int) (w : World) (hn1 : -9007199254740992 ≤ n) (hn2 : n ≤ 9007199254740992) (hm1 : 0 ≤ mode) (hm2 : mode ≤ 4) (hT : Tab w) (hs : 1 < w.heap.size) :
    ∃ X, Calls Tryd.prog 59 #[.int .i64 n, .int .i64 mode] w (fun r w' => r = .returned (.tuple #[.float .f64 X, .int .i64 0, .int .i64 0]) ∧ Below w.heap.size w w') ∧
      ∀ w, Tab w → 1 < w.heap.size → Calls Tryd.prog 60 #[.float .f64 X, .int .i64 64, .int .i64 mode] w (fun r w' => r = .returned (.tuple #[.int .i64 n, .int .i64 0, .int .i64 0]) ∧ Below w.heap.size w w') := by
  by_cases h0 : n = 0
  · subst h0
    refine ⟨0, FromInt_core 0 false 0 0 mode 0 w hm1 hm2 hT hs (fun w => partsOfInt_pos 0 w (by decide)) (fun w hT hs => round64_nil false mode w hT hs), fun w hT hs => ?_⟩
    have hw := Whole_plain 0 mode w (by decide) hm1 hm2 (Or.inr (by decide +kernel)) hT hs
    exact Int64_in 0 0 mode 0 0 w (by decide) (by decide) (by decide +kernel) (by decide +kernel) (by decide +kernel) hw
  · obtain ⟨m, neg, hn, hm0, hml⟩ : ∃ (m : Nat) (neg : Bool), n = (if neg then -(m : Int) else (m : Int)) ∧ m ≠ 0 ∧ m ≤ 9007199254740992 := by
      by_cases hs : n < 0
      · exact ⟨n.natAbs, true, by rw [if_pos rfl]; omega, by omega, by omega⟩
      · exact ⟨n.natAbs, false, by rw [if_neg (by decide)]; omega, by omega, by omega⟩
    obtain ⟨r1, r2, r3⟩ := int_round m mode neg hm0 hml
    obtain ⟨a1, a2, a3⟩ := signN_mod neg (rMag 53 (-1022) 1023 m 0 mode neg) (by omega)
    refine ⟨signN neg (rMag 53 (-1022) 1023 m 0 mode neg), ?_, fun w hT hs => ?_⟩
    · refine FromInt_core n neg m _ mode 0 w hm1 hm2 hT hs (fun w => ?_) (fun w hT hs => ?_)
      · rw [hn]
        cases neg
        · exact partsOfInt_pos m w (by omega)
        · exact partsOfInt_neg m w (by omega) (by omega)
      · have := round64_any neg m 0 mode w (by omega) hm0 (by decide) (by decide) hT hs
        rw [r1] at this
        exact this
    · obtain ⟨o1, o2⟩ := int_order m _ neg hml r2 r3
      have hc := int_conv m _ neg hm0 hml r2 r3
      rw [← hn] at hc
      have hw := Whole_plain (signN neg (rMag 53 (-1022) 1023 m 0 mode neg)) mode w a3 hm1 hm2 (Or.inr (int_parts m _ neg hm0 r2 r3)) hT hs
      rw [canon_sign _ _ (by omega)] at hw
      exact Int64_in _ _ mode 0 n w a3 (by omega) o1 o2 hc hw
theorem beq_iff_bool {a b : Bool} (h : a = true ↔ b = true) : a = b := by
  cases a <;> cases b <;> simp_all
set_option maxHeartbeats 1000000 in
theorem back_mode (x y : Nat) (n mode : Int) (w : World) (hm : mode < 0 ∨ 4 < mode) (hT : Tab w) (hs : 1 < w.heap.size) :
    Calls Tryd.prog 7 #[.int .u64 x, .int .u32 y, .int .i64 n, .int .i64 mode] w fun r w' => r = .returned (.bool true) ∧ Below w.heap.size w w' := by
  rcases hm with hm | hm
  all_goals
    go_enter Tryd.func7, Tryd.ntmps7
    go_wp2_with fail
    refine (awake2_any _ hT hs).mono ?_
    rintro r w1 ⟨rfl, hb1⟩
    go_wp2
    go_ret
    exact ⟨rfl, hb1⟩
theorem narrow_lt0 (x : Nat) (hx : x < 18446744073709551616) : narrowOf x 0 < 4294967296 := by
  by_cases hn : x % 9223372036854775808 ≤ 9218868437227405312
  · exact (back_b x hx hn).2
  · unfold narrowOf; rw [if_pos (by omega)]; decide
theorem order_self' (x : Nat) (hx : x < 18446744073709551616) : (FloatKind.f64.format.order x x == some .eq) = decide (x % 9223372036854775808 ≤ 9218868437227405312) := by
  have h := order_self x hx
  by_cases hn : x % 9223372036854775808 ≤ 9218868437227405312
  · rw [decide_eq_false (by omega)] at h
    rw [decide_eq_true hn]
    simpa using h
  · rw [decide_eq_true (by omega)] at h
    rw [decide_eq_false hn]
    simpa using h
set_option maxHeartbeats 1000000 in
theorem back_law_nan (x y : Nat) (n mode : Int) (w : World) (hx : x < 18446744073709551616) (hy : y < 4294967296) (hm1 : 0 ≤ mode) (hm2 : mode ≤ 4) (hnx : ¬ x % 9223372036854775808 ≤ 9218868437227405312) (hT : Tab w) (hs : 1 < w.heap.size) :
    Calls Tryd.prog 7 #[.int .u64 x, .int .u32 y, .int .i64 n, .int .i64 mode] w fun r w' => r = .returned (.bool true) ∧ Below w.heap.size w w' := by
  obtain ⟨b1, b2, b3⟩ := back_a y mode hy
  have HW := hid (fun (w : World) => Widen_any y w hy)
  have HN := hid (fun (w : World) hT hs => Narrow_any (widenOf y) mode w b3 hm1 hm2 hT hs)
  rw [b1, b2] at HN
  obtain ⟨A, hA⟩ : ∃ A, Hid (widenOf y = A) := ⟨_, rfl⟩
  rw [hA.out] at HW HN
  have HB := hid (fun (w : World) => lbits_any y w hy)
  obtain ⟨c, hc⟩ : ∃ c, Hid (canonOf32 y = c) := ⟨_, rfl⟩
  rw [hc.out] at HN HB
  have HI := hid (fun (w : World) hn1 hn2 hT hs => int_back n mode w hn1 hn2 hm1 hm2 hT hs)
  clear b1 b2 b3 hy
  have h1 := f64bits32
  have h2 := f64bits
  have HN0 := hid (fun (w : World) hT hs => Narrow_any x 0 w hx (by decide) (by decide) hT hs)
  have HF := hid (fun (w : World) hT hs => Fits_any x w hx hT hs)
  have HW2 := hid (fun (w : World) => Widen_any (narrowOf x 0) w (narrow_lt0 x hx))
  have ho := order_self' x hx
  rw [decide_eq_false hnx] at ho
  clear hnx
  obtain ⟨S, hS⟩ : ∃ S, Hid (narrowOf x 0 = S) := ⟨_, rfl⟩
  obtain ⟨K, hK⟩ : ∃ K, Hid (narrowFl x 0 = K) := ⟨_, rfl⟩
  rw [hS.out, hK.out] at HN0
  rw [hS.out] at HW2
  clear hx
  go_enter Tryd.func7, Tryd.ntmps7
  go_wp2_with fail
  refine (awake2_any _ hT hs).mono ?_
  rintro r w1 ⟨rfl, hb1⟩
  have hB1 := hid hb1
  clear hb1
  go_wp2_with fail
  refine (g02_any y _).mono ?_
  rintro r w2 ⟨rfl, rfl⟩
  go_wp2_with fail
  refine (HW.out _).mono ?_
  rintro r w3 ⟨rfl, hb3⟩
  have hB3 := hid (bl_then hB1.out hb3)
  clear hb3
  go_wp2_with fail
  refine (HN.out _ (hT.below hs hB3.out) (Nat.lt_of_lt_of_le hs hB3.out.size)).mono ?_
  rintro r w4 ⟨rfl, hb4⟩
  have hB4 := hid (bl_then hB3.out hb4)
  clear hb4
  go_wp2_with fail
  refine (g02_any y _).mono ?_
  rintro r w5 ⟨rfl, rfl⟩
  go_wp2_with fail
  refine (HB.out _).mono ?_
  rintro r w5 ⟨rfl, rfl⟩
  go_wp2_with fail
  refine (f02_any x _).mono ?_
  rintro r w5 ⟨rfl, rfl⟩
  go_wp2_with fail
  refine (HN0.out _ (hT.below hs hB4.out) (Nat.lt_of_lt_of_le hs hB4.out.size)).mono ?_
  rintro r w6 ⟨rfl, hb6⟩
  have hB6 := hid (bl_then hB4.out hb6)
  clear hb6
  go_wp2_with fail
  refine (HW2.out _).mono ?_
  rintro r w7 ⟨rfl, hb7⟩
  have hB7 := hid (bl_then hB6.out hb7)
  clear hb7
  obtain ⟨V, hV⟩ : ∃ V, Hid (widenOf S = V) := ⟨_, rfl⟩
  rw [hV.out]
  go_wp2_with fail
  refine (f02_any x _).mono ?_
  rintro r w8 ⟨rfl, rfl⟩
  go_wp2_with fail
  refine (f02_any x _).mono ?_
  rintro r w8 ⟨rfl, rfl⟩

  by_cases hn : 9007199254740992 < n
  · go_wp2
    go_ret
    exact ⟨rfl, hB7.out⟩
  by_cases hn2 : n < -9007199254740992
  · have hn' : n ≤ 9007199254740992 := by omega
    clear hn
    go_wp2
    go_ret
    exact ⟨rfl, hB7.out⟩
  have hn' : n ≤ 9007199254740992 := by omega
  have hn2' : -9007199254740992 ≤ n := by omega
  obtain ⟨X, HX1, HX2⟩ := HI.out w8 hn2' hn' (hT.below hs hB7.out) (Nat.lt_of_lt_of_le hs hB7.out.size)
  have HX1 := hid HX1
  have HX2 := hid HX2
  clear hn hn2
  go_wp2_with fail
  refine HX1.out.mono ?_
  rintro r w10 ⟨rfl, hb10⟩
  have hB10 := hid (bl_then hB7.out hb10)
  clear hb10
  go_wp2_with fail
  refine (HX2.out _ (hT.below hs hB10.out) (Nat.lt_of_lt_of_le hs hB10.out.size)).mono ?_
  rintro r w11 ⟨rfl, hb11⟩
  have hB11 := hid (bl_then hB10.out hb11)
  clear hb11
  go_wp2
  go_ret
  exact ⟨rfl, hB11.out⟩
set_option maxHeartbeats 1000000 in
theorem back_law_num (x y : Nat) (n mode : Int) (w : World) (hx : x < 18446744073709551616) (hy : y < 4294967296) (hm1 : 0 ≤ mode) (hm2 : mode ≤ 4) (hnx : x % 9223372036854775808 ≤ 9218868437227405312) (hT : Tab w) (hs : 1 < w.heap.size) :
    Calls Tryd.prog 7 #[.int .u64 x, .int .u32 y, .int .i64 n, .int .i64 mode] w fun r w' => r = .returned (.bool true) ∧ Below w.heap.size w w' := by
  obtain ⟨b1, b2, b3⟩ := back_a y mode hy
  have HW := hid (fun (w : World) => Widen_any y w hy)
  have HN := hid (fun (w : World) hT hs => Narrow_any (widenOf y) mode w b3 hm1 hm2 hT hs)
  rw [b1, b2] at HN
  obtain ⟨A, hA⟩ : ∃ A, Hid (widenOf y = A) := ⟨_, rfl⟩
  rw [hA.out] at HW HN
  have HB := hid (fun (w : World) => lbits_any y w hy)
  obtain ⟨c, hc⟩ : ∃ c, Hid (canonOf32 y = c) := ⟨_, rfl⟩
  rw [hc.out] at HN HB
  have HI := hid (fun (w : World) hn1 hn2 hT hs => int_back n mode w hn1 hn2 hm1 hm2 hT hs)
  clear b1 b2 b3 hy
  have h1 := f64bits32
  have h2 := f64bits
  have HN0 := hid (fun (w : World) hT hs => Narrow_any x 0 w hx (by decide) (by decide) hT hs)
  have HF := hid (fun (w : World) hT hs => Fits_any x w hx hT hs)
  have HW2 := hid (fun (w : World) => Widen_any (narrowOf x 0) w (narrow_lt0 x hx))
  have ho := order_self' x hx
  rw [decide_eq_true hnx] at ho
  have hfit : (narrowFl x 0 == 0) = ((widenOf (narrowOf x 0) : Int) == (x : Int)) := beq_iff_bool (by
    rw [beq_iff_eq, beq_iff_eq]
    exact (back_b x hx hnx).1.trans ⟨fun h => by rw [h], fun h => by omega⟩)
  rw [hfit] at HF
  clear hnx hfit
  obtain ⟨S, hS⟩ : ∃ S, Hid (narrowOf x 0 = S) := ⟨_, rfl⟩
  obtain ⟨K, hK⟩ : ∃ K, Hid (narrowFl x 0 = K) := ⟨_, rfl⟩
  rw [hS.out, hK.out] at HN0
  rw [hS.out] at HW2
  clear hx
  go_enter Tryd.func7, Tryd.ntmps7
  go_wp2_with fail
  refine (awake2_any _ hT hs).mono ?_
  rintro r w1 ⟨rfl, hb1⟩
  have hB1 := hid hb1
  clear hb1
  go_wp2_with fail
  refine (g02_any y _).mono ?_
  rintro r w2 ⟨rfl, rfl⟩
  go_wp2_with fail
  refine (HW.out _).mono ?_
  rintro r w3 ⟨rfl, hb3⟩
  have hB3 := hid (bl_then hB1.out hb3)
  clear hb3
  go_wp2_with fail
  refine (HN.out _ (hT.below hs hB3.out) (Nat.lt_of_lt_of_le hs hB3.out.size)).mono ?_
  rintro r w4 ⟨rfl, hb4⟩
  have hB4 := hid (bl_then hB3.out hb4)
  clear hb4
  go_wp2_with fail
  refine (g02_any y _).mono ?_
  rintro r w5 ⟨rfl, rfl⟩
  go_wp2_with fail
  refine (HB.out _).mono ?_
  rintro r w5 ⟨rfl, rfl⟩
  go_wp2_with fail
  refine (f02_any x _).mono ?_
  rintro r w5 ⟨rfl, rfl⟩
  go_wp2_with fail
  refine (HN0.out _ (hT.below hs hB4.out) (Nat.lt_of_lt_of_le hs hB4.out.size)).mono ?_
  rintro r w6 ⟨rfl, hb6⟩
  have hB6 := hid (bl_then hB4.out hb6)
  clear hb6
  go_wp2_with fail
  refine (HW2.out _).mono ?_
  rintro r w7 ⟨rfl, hb7⟩
  have hB7 := hid (bl_then hB6.out hb7)
  clear hb7
  obtain ⟨V, hV⟩ : ∃ V, Hid (widenOf S = V) := ⟨_, rfl⟩
  rw [hV.out]
  rw [hS.out, hV.out] at HF
  obtain ⟨G, hG⟩ : ∃ G, Hid (((V : Int) == (x : Int)) = G) := ⟨_, rfl⟩
  have hVx : ((V : Int) == (x : Int)) = G := hG.out
  rw [hG.out] at HF
  go_wp2_with fail
  refine (f02_any x _).mono ?_
  rintro r w8 ⟨rfl, rfl⟩
  go_wp2_with fail
  refine (f02_any x _).mono ?_
  rintro r w8 ⟨rfl, rfl⟩
  go_wp2_with fail
  refine (f02_any x _).mono ?_
  rintro r w8 ⟨rfl, rfl⟩
  go_wp2_with fail
  refine (HF.out _ (hT.below hs hB7.out) (Nat.lt_of_lt_of_le hs hB7.out.size)).mono ?_
  rintro r w9 ⟨rfl, hb9⟩
  have hB9 := hid (bl_then hB7.out hb9)
  clear hb9
  by_cases hn : 9007199254740992 < n
  · go_wp2
    go_ret
    exact ⟨rfl, hB9.out⟩
  by_cases hn2 : n < -9007199254740992
  · have hn' : n ≤ 9007199254740992 := by omega
    clear hn
    go_wp2
    go_ret
    exact ⟨rfl, hB9.out⟩
  have hn' : n ≤ 9007199254740992 := by omega
  have hn2' : -9007199254740992 ≤ n := by omega
  obtain ⟨X, HX1, HX2⟩ := HI.out w9 hn2' hn' (hT.below hs hB9.out) (Nat.lt_of_lt_of_le hs hB9.out.size)
  have HX1 := hid HX1
  have HX2 := hid HX2
  clear hn hn2
  go_wp2_with fail
  refine HX1.out.mono ?_
  rintro r w10 ⟨rfl, hb10⟩
  have hB10 := hid (bl_then hB9.out hb10)
  clear hb10
  go_wp2_with fail
  refine (HX2.out _ (hT.below hs hB10.out) (Nat.lt_of_lt_of_le hs hB10.out.size)).mono ?_
  rintro r w11 ⟨rfl, hb11⟩
  have hB11 := hid (bl_then hB10.out hb11)
  clear hb11
  go_wp2
  go_ret
  exact ⟨rfl, hB11.out⟩
end Go.Proofs.YtfeojdmffipinaaDoor
