
/- What convert's quotient does. -/
import Derived.Test.YtpgcelbgmpfliaaDoorQ34
namespace Go.Proofs.YtpgcelbgmpfliaaDoor
open Go.RowKit Go.IntWalk

set_option maxHeartbeats 400000 in
theorem Mul_core (a b X : Nat) (mode Y : Int) (w : World) (ha : a < 4294967296) (hb : b < 4294967296) (hm1 : 0 ≤ mode) (hm2 : mode ≤ 4) (hT : Tab w) (hs : 1 < w.heap.size)
    (h : ∀ w, Tab w → 1 < w.heap.size → Calls Tryd.prog 34 #[.float .f64 (widenOf a), .float .f64 (widenOf b), .int .i64 mode] w fun e w' => e = .returned (.tuple #[.float .f32 X, .int .i64 Y]) ∧ Below w.heap.size w w') :
    Calls Tryd.prog 11 #[.float .f32 a, .float .f32 b, .int .i64 mode] w fun e w' => e = .returned (.tuple #[.float .f32 X, .int .i64 Y, .int .i64 0]) ∧ Below w.heap.size w w' := by
  have hk : decide (0 ≤ mode ∧ mode ≤ 4) = true := decide_eq_true ⟨hm1, hm2⟩
  have H := hid h
  have H1 := hid (fun (w : World) => Widen_any a w ha)
  have H2 := hid (fun (w : World) => Widen_any b w hb)
  obtain ⟨A, hA⟩ : ∃ A, Hid (widenOf a = A) := ⟨_, rfl⟩
  obtain ⟨B, hB⟩ : ∃ B, Hid (widenOf b = B) := ⟨_, rfl⟩
  rw [hA.out] at H1 H
  rw [hB.out] at H2 H
  clear h hm1 hm2 ha hb
  go_enter Tryd.func11, Tryd.ntmps11
  go_wp2_with fail
  refine (known_any mode _).mono ?_
  rintro e w1 ⟨rfl, rfl⟩
  rw [hk]
  clear hk
  go_wp2_with fail
  refine (H1.out _).mono ?_
  rintro e w1 ⟨rfl, hb1⟩
  go_wp2_with fail
  refine (H2.out _).mono ?_
  rintro e w2 ⟨rfl, hb2⟩
  go_wp2_with fail
  refine (H.out _ (hT.below hs (bl_then hb1 hb2)) (Nat.lt_of_lt_of_le hs (bl_then hb1 hb2).size)).mono ?_
  rintro e w3 ⟨rfl, hb3⟩
  go_wp2
  go_ret3
  exact ⟨rfl, bl_then (bl_then hb1 hb2) hb3⟩
set_option maxHeartbeats 400000 in
theorem Div_core (a b X : Nat) (mode Y : Int) (w : World) (ha : a < 4294967296) (hb : b < 4294967296) (hm1 : 0 ≤ mode) (hm2 : mode ≤ 4) (hT : Tab w) (hs : 1 < w.heap.size)
    (h : ∀ w, Tab w → 1 < w.heap.size → Calls Tryd.prog 36 #[.float .f64 (widenOf a), .float .f64 (widenOf b), .int .i64 mode] w fun e w' => e = .returned (.tuple #[.float .f32 X, .int .i64 Y]) ∧ Below w.heap.size w w') :
    Calls Tryd.prog 13 #[.float .f32 a, .float .f32 b, .int .i64 mode] w fun e w' => e = .returned (.tuple #[.float .f32 X, .int .i64 Y, .int .i64 0]) ∧ Below w.heap.size w w' := by
  have hk : decide (0 ≤ mode ∧ mode ≤ 4) = true := decide_eq_true ⟨hm1, hm2⟩
  have H := hid h
  have H1 := hid (fun (w : World) => Widen_any a w ha)
  have H2 := hid (fun (w : World) => Widen_any b w hb)
  obtain ⟨A, hA⟩ : ∃ A, Hid (widenOf a = A) := ⟨_, rfl⟩
  obtain ⟨B, hB⟩ : ∃ B, Hid (widenOf b = B) := ⟨_, rfl⟩
  rw [hA.out] at H1 H
  rw [hB.out] at H2 H
  clear h hm1 hm2 ha hb
  go_enter Tryd.func13, Tryd.ntmps13
  go_wp2_with fail
  refine (known_any mode _).mono ?_
  rintro e w1 ⟨rfl, rfl⟩
  rw [hk]
  clear hk
  go_wp2_with fail
  refine (H1.out _).mono ?_
  rintro e w1 ⟨rfl, hb1⟩
  go_wp2_with fail
  refine (H2.out _).mono ?_
  rintro e w2 ⟨rfl, hb2⟩
  go_wp2_with fail
  refine (H.out _ (hT.below hs (bl_then hb1 hb2)) (Nat.lt_of_lt_of_le hs (bl_then hb1 hb2).size)).mono ?_
  rintro e w3 ⟨rfl, hb3⟩
  go_wp2
  go_ret3
  exact ⟨rfl, bl_then (bl_then hb1 hb2) hb3⟩
theorem xor63 (x : Nat) (hx : x < 18446744073709551616) : x ^^^ 9223372036854775808 = flipOf x := by
  apply Nat.eq_of_testBit_eq
  intro i
  have h63 : (9223372036854775808 : Nat) = 2 ^ 63 := by decide
  unfold flipOf
  rw [Nat.testBit_xor]
  by_cases hs : 9223372036854775808 ≤ x
  · rw [if_pos hs]
    obtain ⟨m, hm⟩ : ∃ m, x = 2 ^ 63 + m := ⟨x - 2 ^ 63, by omega⟩
    have hml : m < 2 ^ 63 := by omega
    have e1 : x - 9223372036854775808 = m := by omega
    rw [e1, hm, h63, Nat.testBit_two_pow]
    by_cases hi : i = 63
    · subst hi
      rw [Nat.testBit_two_pow_add_eq, Nat.testBit_lt_two_pow hml]; rfl
    · have e2 : (2 ^ 63 + m).testBit i = m.testBit i := by
        rcases Nat.lt_or_gt_of_ne hi with hi | hi
        · rw [Nat.testBit_two_pow_add_gt hi]
        · rw [Nat.testBit_lt_two_pow (x := 2 ^ 63 + m) (i := i) (Nat.lt_of_lt_of_le (by omega : 2 ^ 63 + m < 2 ^ 64) (Nat.pow_le_pow_right (by omega) (by omega))),
            Nat.testBit_lt_two_pow (x := m) (i := i) (Nat.lt_of_lt_of_le hml (Nat.pow_le_pow_right (by omega) (by omega)))]
      rw [e2]
      have : decide (63 = i) = false := by simpa using (fun h => hi h.symm)
      rw [this]; simp
  · rw [if_neg hs]
    have hml : x < 2 ^ 63 := by omega
    have e1 : x + 9223372036854775808 = 2 ^ 63 + x := by omega
    rw [e1, h63, Nat.testBit_two_pow]
    by_cases hi : i = 63
    · subst hi
      rw [Nat.testBit_two_pow_add_eq, Nat.testBit_lt_two_pow hml]; rfl
    · have e2 : (2 ^ 63 + x).testBit i = x.testBit i := by
        rcases Nat.lt_or_gt_of_ne hi with hi | hi
        · rw [Nat.testBit_two_pow_add_gt hi]
        · rw [Nat.testBit_lt_two_pow (x := 2 ^ 63 + x) (i := i) (Nat.lt_of_lt_of_le (by omega : 2 ^ 63 + x < 2 ^ 64) (Nat.pow_le_pow_right (by omega) (by omega))),
            Nat.testBit_lt_two_pow (x := x) (i := i) (Nat.lt_of_lt_of_le hml (Nat.pow_le_pow_right (by omega) (by omega)))]
      rw [e2]
      have : decide (63 = i) = false := by simpa using (fun h => hi h.symm)
      rw [this]; simp
theorem xor31 (x : Nat) (hx : x < 4294967296) : x ^^^ 2147483648 = flip32 x := by
  apply Nat.eq_of_testBit_eq
  intro i
  have h31 : (2147483648 : Nat) = 2 ^ 31 := by decide
  unfold flip32
  rw [Nat.testBit_xor]
  by_cases hs : 2147483648 ≤ x
  · rw [if_pos hs]
    obtain ⟨m, hm⟩ : ∃ m, x = 2 ^ 31 + m := ⟨x - 2 ^ 31, by omega⟩
    have hml : m < 2 ^ 31 := by omega
    have e1 : x - 2147483648 = m := by omega
    rw [e1, hm, h31, Nat.testBit_two_pow]
    by_cases hi : i = 31
    · subst hi
      rw [Nat.testBit_two_pow_add_eq, Nat.testBit_lt_two_pow hml]; rfl
    · have e2 : (2 ^ 31 + m).testBit i = m.testBit i := by
        rcases Nat.lt_or_gt_of_ne hi with hi | hi
        · rw [Nat.testBit_two_pow_add_gt hi]
        · rw [Nat.testBit_lt_two_pow (x := 2 ^ 31 + m) (i := i) (Nat.lt_of_lt_of_le (by omega : 2 ^ 31 + m < 2 ^ 32) (Nat.pow_le_pow_right (by omega) (by omega))),
            Nat.testBit_lt_two_pow (x := m) (i := i) (Nat.lt_of_lt_of_le hml (Nat.pow_le_pow_right (by omega) (by omega)))]
      rw [e2]
      have : decide (31 = i) = false := by simpa using (fun h => hi h.symm)
      rw [this]; simp
  · rw [if_neg hs]
    have hml : x < 2 ^ 31 := by omega
    have e1 : x + 2147483648 = 2 ^ 31 + x := by omega
    rw [e1, h31, Nat.testBit_two_pow]
    by_cases hi : i = 31
    · subst hi
      rw [Nat.testBit_two_pow_add_eq, Nat.testBit_lt_two_pow hml]; rfl
    · have e2 : (2 ^ 31 + x).testBit i = x.testBit i := by
        rcases Nat.lt_or_gt_of_ne hi with hi | hi
        · rw [Nat.testBit_two_pow_add_gt hi]
        · rw [Nat.testBit_lt_two_pow (x := 2 ^ 31 + x) (i := i) (Nat.lt_of_lt_of_le (by omega : 2 ^ 31 + x < 2 ^ 32) (Nat.pow_le_pow_right (by omega) (by omega))),
            Nat.testBit_lt_two_pow (x := x) (i := i) (Nat.lt_of_lt_of_le hml (Nat.pow_le_pow_right (by omega) (by omega)))]
      rw [e2]
      have : decide (31 = i) = false := by simpa using (fun h => hi h.symm)
      rw [this]; simp
theorem neg64_run (x : Nat) (hx : x < 18446744073709551616) : Op.unary .neg (.float .f64 x) = pure (.float .f64 (flipOf x)) := by
  rw [← xor63 x hx]; rfl
theorem neg32_run (x : Nat) (hx : x < 4294967296) : Op.unary .neg (.float .f32 x) = pure (.float .f32 (flip32 x)) := by
  rw [← xor31 x hx]; rfl
theorem xor_w32 (x : Nat) (hx : x < 4294967296) : bits .xor .u32 (x : Int) 2147483648 = (flip32 x : Int) := by
  have h := u32_xor_nat x 2147483648 hx (by omega)
  rw [xor31 x hx] at h
  exact h
set_option maxHeartbeats 400000 in
theorem turned_any (mode : Int) (w : World) : Calls Tryd.prog 7 #[.int .i64 mode] w fun r w' => r = .returned (.int .i64 (turnM mode)) ∧ w' = w := by
  go_enter Tryd.func7, Tryd.ntmps7
  go_wp2
  all_goals go_ret
  all_goals (refine ⟨ret_int ?_, rfl⟩; unfold turnM; simp_all)
set_option maxHeartbeats 400000 in
theorem mirror_nan (w : World) : Calls Tryd.prog 10 #[.float .f32 2143289344, .float .f32 2143289344] w fun r w' => r = .returned (.bool true) ∧ w' = w := by
  have h1 : (FloatKind.f32.format.order 2143289344 2143289344 != some .eq) = true := by decide +kernel
  go_enter Tryd.func10, Tryd.ntmps10
  go_wp2
  go_ret
  exact ⟨rfl, rfl⟩
set_option maxHeartbeats 400000 in
theorem mirror_num (a b : Nat) (w : World) (ha : a < 4294967296) (hn : a % 2147483648 ≤ 2139095040) (hb : b = flip32 a) : Calls Tryd.prog 10 #[.float .f32 a, .float .f32 b] w fun r w' => r = .returned (.bool true) ∧ w' = w := by
  have h1 := order_self32 a ha
  rw [decide_eq_false (by omega)] at h1
  have h2 := xor_w32 a ha
  rw [← hb] at h2
  have h3 := f64bits32
  clear hb ha hn
  go_enter Tryd.func10, Tryd.ntmps10
  go_wp2
  go_ret
  exact ⟨by simp, rfl⟩
theorem mirror_any (a b : Nat) (w : World) (h : Mir a b) : Calls Tryd.prog 10 #[.float .f32 a, .float .f32 b] w fun r w' => r = .returned (.bool true) ∧ w' = w := by
  rcases h with ⟨rfl, rfl⟩ | ⟨s, r, hr, rfl, rfl⟩
  · exact mirror_nan w
  · obtain ⟨a1, _, a3⟩ := signN_mod32 s r (by omega)
    exact mirror_num _ _ w a3 (by omega) (flip_sign32 s r (by omega)).symm
set_option maxHeartbeats 400000 in
theorem lead_any (m l j : Nat) (w : World) (hm : m < 18446744073709551616) (hl : bitLen m = l) (hj : l + j = 64) : Calls Tryd.prog 84 #[.int .u64 m] w fun r w' => r = .returned (.int .i64 j) ∧ w' = w := by
  have H := hid (fun (w : World) => len_l m l w hm hl)
  have hw : IntKind.i64.wrap (64 - (l : Int)) = (j : Int) := by rw [IntWalk.i64_in _ (by omega)]; omega
  clear hm hl hj
  go_enter Tryd.func84, Tryd.ntmps84
  go_wp2_with fail
  refine (H.out _).mono ?_
  rintro r w1 ⟨rfl, rfl⟩
  go_wp2
  go_ret
  exact ⟨by simp_all, rfl⟩
set_option maxHeartbeats 400000 in
theorem oneOf_any (r : Nat) (w : World) : Calls Tryd.prog 85 #[.int .u64 r] w fun e w' => e = .returned (.int .u64 ((if r = 0 then 0 else 1 : Nat) : Int)) ∧ w' = w := by
  by_cases h : r = 0
  · subst h
    go_enter Tryd.func85, Tryd.ntmps85
    go_wp2
    go_ret
    exact ⟨rfl, rfl⟩
  · rw [if_neg h]
    have h' : ((r : Int) == 0) = false := by simpa using h
    clear h
    go_enter Tryd.func85, Tryd.ntmps85
    go_wp2
    go_ret
    exact ⟨rfl, rfl⟩
end Go.Proofs.YtpgcelbgmpfliaaDoor

namespace Go.Proofs.YtpgcelbgmpfliaaDoor
open Go.RowKit Go.IntWalk

theorem quo_u64 (U V q : Nat) (hV : V ≠ 0) (hU : U < 18446744073709551616) (hq : U / V = q) : Op.intDiv .quo .u64 (U : Int) (V : Int) = pure (.int .u64 (q : Int)) := by
  unfold Op.intDiv
  rw [if_neg (by omega)]
  have e : (U : Int).tdiv (V : Int) = (q : Int) := by rw [← hq]; exact (Int.ofNat_tdiv U V).symm
  have hql : q ≤ U := by rw [← hq]; exact Nat.div_le_self _ _
  have e2 : IntKind.u64.wrap (q : Int) = (q : Int) := by rw [IntKind.wrap_u64]; omega
  simp only [e, e2]
theorem rem_u64 (U V r : Nat) (hV : V ≠ 0) (hr : U % V = r) : Op.intDiv .rem .u64 (U : Int) (V : Int) = pure (.int .u64 (r : Int)) := by
  unfold Op.intDiv
  rw [if_neg (by omega)]
  have e : (U : Int).tmod (V : Int) = (r : Int) := by rw [← hr]; exact (Int.ofNat_tmod U V).symm
  simp only [e]
set_option maxHeartbeats 1000000 in
theorem quot_core (N N' : Bool) (M M' l j U : Nat) (E E' : Int) (w : World) (hM : M < 18446744073709551616) (hl : bitLen M = l) (hj : l + j = 64) (hM' : M' ≠ 0) (hU : M * 2 ^ j = U) (hUl : U < 18446744073709551616) (he1 : -5000 ≤ E) (he2 : E ≤ 5000) (he3 : -5000 ≤ E') (he4 : E' ≤ 5000) :
    Calls Tryd.prog 60 #[.agg #[.bool N, .int .u64 M, .int .i64 E], .agg #[.bool N', .int .u64 M', .int .i64 E']] w fun r w' => r = .returned (.agg #[.bool (N != N'), .int .u64 ((U / M' ||| (if U % M' = 0 then 0 else 1) : Nat) : Int), .int .i64 (E - (j : Int) - E')]) ∧ Below w.heap.size w w' := by
  have HL := hid (fun (w : World) => lead_any M l j w hM hl hj)
  have hmin : min j 64 = j := Nat.min_eq_left (by omega)
  have hu := shl_w M j (by rw [hU]; exact hUl)
  rw [hU] at hu
  have hj64 : (j : Int) ≤ 64 := by omega
  obtain ⟨q, hq⟩ : ∃ q, Hid (U / M' = q) := ⟨_, rfl⟩
  obtain ⟨r, hr⟩ : ∃ r, Hid (U % M' = r) := ⟨_, rfl⟩
  have HO := hid (fun (w : World) => oneOf_any r w)
  obtain ⟨o, ho⟩ : ∃ o, Hid ((if r = 0 then 0 else 1 : Nat) = o) := ⟨_, rfl⟩
  rw [hq.out, hr.out, ho.out]
  rw [ho.out] at HO
  have h1 : (U : Int).tdiv (M' : Int) = (q : Int) := by rw [← hq.out]; exact (Int.ofNat_tdiv U M').symm
  have h2 : (U : Int).tmod (M' : Int) = (r : Int) := by rw [← hr.out]; exact (Int.ofNat_tmod U M').symm
  have h5 : (U : Int) / (M' : Int) = (q : Int) := by rw [← hq.out]; exact (Int.natCast_ediv U M').symm
  have h6 : (U : Int) % (M' : Int) = (r : Int) := by rw [← hr.out]; exact (Int.natCast_emod U M').symm
  have h7 : IntKind.u64.wrap (q : Int) = (q : Int) := by
    have : q ≤ U := by rw [← hq.out]; exact Nat.div_le_self _ _
    rw [IntKind.wrap_u64]; omega
  have h8 : ¬ M' = 0 := hM'
  have hor : bits .or .u64 (q : Int) (o : Int) = ((q ||| o : Nat) : Int) := u64_or_nat q o (by rw [← hq.out]; exact Nat.lt_of_le_of_lt (Nat.div_le_self _ _) hUl) (by rw [← ho.out]; split <;> omega)
  obtain ⟨z, hz⟩ : ∃ z, Hid ((q ||| o : Nat) = z) := ⟨_, rfl⟩
  rw [hz.out] at hor ⊢
  obtain ⟨G, hG⟩ : ∃ G, Hid (E - (j : Int) - E' = G) := ⟨_, rfl⟩
  have hG1 : E - (j : Int) - E' = G := hG.out
  have hG2 : IntKind.i64.wrap (IntKind.i64.wrap (E - (j : Int)) - E') = G := by rw [IntWalk.i64_in (E - (j : Int)) (by omega), IntWalk.i64_in _ (by omega)]; exact hG1
  rw [hG.out]
  have hMU := hid hU
  clear hM hl hj hM' hU hUl
  go_enter Tryd.func60, Tryd.ntmps60
  go_wp2_with fail
  refine (HL.out _).mono ?_
  rintro e w1 ⟨rfl, rfl⟩
  go_wp2_with fail
  go_region_held3 (fun w' => (w'.cell? ⟨w.heap.size, 0, none⟩ = some (.bool N) ∧ w'.cell? ⟨w.heap.size, 1, none⟩ = some (.int .u64 M) ∧ w'.cell? ⟨w.heap.size, 2, none⟩ = some (.int .i64 E)) ∧ (w'.cell? ⟨w.heap.size + 1, 0, none⟩ = some (.bool N') ∧ w'.cell? ⟨w.heap.size + 1, 1, none⟩ = some (.int .u64 M') ∧ w'.cell? ⟨w.heap.size + 1, 2, none⟩ = some (.int .i64 E'))) (go_keep)
    (first | (go_at_call 85; refine (HO.out _).mono ?_; rintro r w' ⟨rfl, rfl⟩))
  go_wp2
  refine bodyPost_ret (v := .agg #[.bool (N != N'), .int .u64 z, .int .i64 G]) (by simp [results, Tryd.results60, go_sem]; cases N <;> cases N' <;> rfl) rfl ⟨rfl, ?_⟩
  repeat (first | exact Below.refl _ _ | refine bl_al ?_ _ | refine bl_drewN _ ?_ | refine Below.drew ?_ | refine Below.setCell ?_ (by simp <;> omega) _)
/-- The quotient's mantissa: cut off, its last digit 1 where something is left. -/
def qMant (M M' : Nat) : Nat := M * 2 ^ (64 - bitLen M) / M' ||| (if M * 2 ^ (64 - bitLen M) % M' = 0 then 0 else 1)
theorem above_lt (M : Nat) (hM : M < 18446744073709551616) : M * 2 ^ (64 - bitLen M) < 18446744073709551616 ∧ bitLen M ≤ 64 := by
  have hb := bitLen_le M 64 (by simpa using hM)
  have e : M * 2 ^ (64 - bitLen M) < 2 ^ bitLen M * 2 ^ (64 - bitLen M) := Nat.mul_lt_mul_of_pos_right (bitLen_hi M) (Nat.two_pow_pos _)
  rw [← Nat.pow_add, Nat.add_sub_cancel' hb] at e
  exact ⟨e, hb⟩
theorem qMant_ok (M M' : Nat) (h0 : M ≠ 0) (hM : M < 18446744073709551616) : qMant M M' ≠ 0 ∧ qMant M M' < 18446744073709551616 := by
  obtain ⟨hU, _⟩ := above_lt M hM
  unfold qMant
  obtain ⟨U, hUe⟩ : ∃ U, M * 2 ^ (64 - bitLen M) = U := ⟨_, rfl⟩
  have hU0 : U ≠ 0 := by rw [← hUe]; exact Nat.mul_ne_zero h0 (Nat.pos_iff_ne_zero.1 (Nat.two_pow_pos _))
  rw [hUe] at hU ⊢
  constructor
  · intro h
    have h1 : U / M' = 0 ∧ (if U % M' = 0 then 0 else 1 : Nat) = 0 := by
      have := (Nat.or_eq_zero_iff).1 h
      exact this
    have hd := Nat.div_add_mod U M'
    have h2 := h1.2
    split at h2
    · rw [h1.1, Nat.mul_zero] at hd; omega
    · omega
  · have h64 : (18446744073709551616 : Nat) = 2 ^ 64 := by decide
    rw [h64] at hU ⊢
    exact Nat.or_lt_two_pow (Nat.lt_of_le_of_lt (Nat.div_le_self _ _) hU) (by split <;> decide)
theorem quotient_any (N N' : Bool) (M M' : Nat) (E E' : Int) (w : World) (hM : M < 18446744073709551616) (hM' : M' ≠ 0) (he1 : -5000 ≤ E) (he2 : E ≤ 5000) (he3 : -5000 ≤ E') (he4 : E' ≤ 5000) :
    Calls Tryd.prog 60 #[.agg #[.bool N, .int .u64 M, .int .i64 E], .agg #[.bool N', .int .u64 M', .int .i64 E']] w fun r w' => r = .returned (.agg #[.bool (N != N'), .int .u64 (qMant M M'), .int .i64 (E - ((64 - bitLen M : Nat) : Int) - E')]) ∧ Below w.heap.size w w' := by
  obtain ⟨hU, hb⟩ := above_lt M hM
  exact quot_core N N' M M' (bitLen M) (64 - bitLen M) _ E E' w hM rfl (by omega) hM' rfl hU he1 he2 he3 he4
end Go.Proofs.YtpgcelbgmpfliaaDoor
