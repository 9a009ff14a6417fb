
/- Proved: for all bits x and y of singles and every mode the law ConvertSterbenz answers true: where two finite singles of one sign lie within the double of one another, Sub answers their difference exactly, with no flags and no error (held against the document's own reckoning in whole numbers). Its condition: the library's table of trailing zeros starts as the program's text lays it, to which the card ties it. -/
import Derived.Test.YtpgcelbgmpfliaaDoorQ48
import Derived.Test.YtpgcelbgmpfliaaDoorQ49
import Derived.Test.YtpgcelbgmpfliaaDoorQ50
import Derived.Test.YtpgcelbgmpfliaaDoorQ51
import Derived.Test.YtpgcelbgmpfliaaDoorTie
import Derived.Test.YtpgcelbgmpfliaaDoorCards
import Derived.SevenTiedAt
namespace Go.Proofs.YtpgcelbgmpfliaaDoor
open Go.ChangeShapes Go.WideShapes Go.ChangeAt Go.RowKit

theorem ster_core (x y : Nat) (mode : Int) (n1 : Bool) (E1 E2 c1 c2 : Int) (w : World) (hT : Tab w) (hs : 1 < w.heap.size) (h1 : 0 ≤ mode) (h2 : mode ≤ 4) (e1 : -149 ≤ E1) (e2 : -149 ≤ E2) (f1 : E1 ≤ 200) (f2 : E2 ≤ 200)
    (H1 : Hid (∀ W, Calls Tryd.prog 15 #[.int .u32 x] W fun r w' => ∃ z, r = .returned (.agg #[.int .i64 0, .bool n1, .pointer (some ⟨z, 0, none⟩), .int .i64 E1]) ∧ Hid (NumAt w' z (tM32 x : Int) 2) ∧ Hid (Below W.heap.size W w')))
    (H2 : Hid (∀ W, Calls Tryd.prog 15 #[.int .u32 y] W fun r w' => ∃ z, r = .returned (.agg #[.int .i64 0, .bool n1, .pointer (some ⟨z, 0, none⟩), .int .i64 E2]) ∧ Hid (NumAt w' z (tM32 y : Int) 2) ∧ Hid (Below W.heap.size W w')))
    (hc1 : cmpZ (numV 149 false (tM32 x) E1 + numV 149 false (tM32 x) E1) (numV 149 false (tM32 y) E2) = c1) (hc2 : cmpZ (numV 149 false (tM32 x) E1) (numV 149 false (tM32 y) E2 + numV 149 false (tM32 y) E2) = c2)
    (hsub : ¬ c1 < 0 → ¬ 0 < c2 → ∃ (R : Nat) (n3 : Bool) (E3 : Int), -149 ≤ E3 ∧ E3 ≤ 200 ∧ numV 149 n3 (tM32 R) E3 = numV 149 n1 (tM32 x) E1 + numV 149 (!n1) (tM32 y) E2 ∧
      Hid (∀ W, Calls Tryd.prog 15 #[.int .u32 R] W fun r w' => ∃ z, r = .returned (.agg #[.int .i64 0, .bool n3, .pointer (some ⟨z, 0, none⟩), .int .i64 E3]) ∧ Hid (NumAt w' z (tM32 R : Int) 2) ∧ Hid (Below W.heap.size W w')) ∧
      Hid (∀ w, Tab w → 1 < w.heap.size → Calls Tryd.prog 19 #[.float .f32 x, .float .f32 y, .int .i64 mode] w fun e w' => e = .returned (.tuple #[.float .f32 R, .int .i64 0, .int .i64 0]) ∧ Below w.heap.size w w')) :
    Calls Tryd.prog 4 #[.int .u32 x, .int .u32 y, .int .i64 mode] w fun r w' => r = .returned (.bool true) ∧ Below w.heap.size w w' := by
  by_cases h : c1 < 0
  · have hl : c1 = -1 := by
      have h' := hc1
      unfold cmpZ at h'
      split at h'
      · omega
      · split at h' <;> omega
    exact ster_low x y mode n1 E1 E2 c1 c2 w hT hs h1 h2 e1 e2 f1 f2 H1 H2 hc1 hc2 hl hsub
  · exact ster_high x y mode n1 E1 E2 c1 c2 w hT hs h1 h2 e1 e2 f1 f2 H1 H2 hc1 hc2 h hsub
theorem Of32_fin (x : Nat) (w : World) (hx : x < 4294967296) (hf : x % 2147483648 < 2139095040) :
    Calls Tryd.prog 15 #[.int .u32 x] w fun r w' => ∃ z, r = .returned (.agg #[.int .i64 0, .bool (decide (2147483648 ≤ x)), .pointer (some ⟨z, 0, none⟩), .int .i64 (tE32 x)]) ∧ NumAt w' z (tM32 x : Int) 2 ∧ Below w.heap.size w w' := by
  refine rOf32_core (fun W z => NumAt W z (tM32 x : Int) 2) x 0 (tE32 x) (decide (2147483648 ≤ x)) w hx (num_goodUpd _ _) (fun W => ?_)
  unfold tE32 tM32
  by_cases h : x / 8388608 % 256 = 0
  · rw [if_pos h, if_pos h]; exact Take32_sub x W hx h
  · rw [if_neg h, if_neg h]; exact Take32_norm x W hx h (by omega)
theorem Of32_bad (x : Nat) (_w : World) (hx : x < 4294967296) (hf : ¬ x % 2147483648 < 2139095040) : ∃ (k E : Int) (n : Bool), (k = 1 ∨ k = 2) ∧ ∀ w,
    Calls Tryd.prog 15 #[.int .u32 x] w fun r w' => ∃ z, r = .returned (.agg #[.int .i64 k, .bool n, .pointer (some ⟨z, 0, none⟩), .int .i64 E]) ∧ Below w.heap.size w w' := by
  by_cases h : x % 8388608 = 0
  · refine ⟨1, -149, decide (2147483648 ≤ x), Or.inl rfl, fun w => ?_⟩
    refine (rOf32_core (fun _ _ => True) x 1 (-149) (decide (2147483648 ≤ x)) w hx (fun _ _ _ _ _ _ _ => trivial) (fun W => ?_)).mono ?_
    · refine (Take32_inf x W hx (by omega) h).mono ?_
      rintro r w' ⟨z, hr, hb⟩
      exact ⟨z, hr, trivial, hb⟩
    · rintro r w' ⟨z, hr, _, hb⟩
      exact ⟨z, hr, hb⟩
  · refine ⟨2, 0, false, Or.inr rfl, fun w => ?_⟩
    refine (rOf32_core (fun _ _ => True) x 2 0 false w hx (fun _ _ _ _ _ _ _ => trivial) (fun W => ?_)).mono ?_
    · refine (Take32_nan x W hx (by omega) h).mono ?_
      rintro r w' ⟨z, hr, hb⟩
      exact ⟨z, hr, trivial, hb⟩
    · rintro r w' ⟨z, hr, _, hb⟩
      exact ⟨z, hr, hb⟩
set_option maxHeartbeats 1000000 in
theorem ster_early (x y : Nat) (mode k1 k2 E1 E2 : Int) (n1 n2 : Bool) (w : World) (hT : Tab w) (hs : 1 < w.heap.size) (h1 : 0 ≤ mode) (h2 : mode ≤ 4) (hk : (k1 = 1 ∨ k1 = 2) ∨ (k1 = 0 ∧ (k2 = 1 ∨ k2 = 2)) ∨ (k1 = 0 ∧ k2 = 0 ∧ n1 ≠ n2))
    (H1 : Hid (∀ W, Calls Tryd.prog 15 #[.int .u32 x] W fun r w' => ∃ z, r = .returned (.agg #[.int .i64 k1, .bool n1, .pointer (some ⟨z, 0, none⟩), .int .i64 E1]) ∧ Hid (Below W.heap.size W w')))
    (H2 : Hid (∀ W, Calls Tryd.prog 15 #[.int .u32 y] W fun r w' => ∃ z, r = .returned (.agg #[.int .i64 k2, .bool n2, .pointer (some ⟨z, 0, none⟩), .int .i64 E2]) ∧ Hid (Below W.heap.size W w'))) :
    Calls Tryd.prog 4 #[.int .u32 x, .int .u32 y, .int .i64 mode] w fun r w' => r = .returned (.bool true) ∧ Below w.heap.size w w' := by
  have a1 : ¬ mode < 0 := by omega
  have a2 : ¬ 4 < mode := by omega
  clear h1 h2
  rcases hk with hk | ⟨rfl, hk⟩ | ⟨rfl, rfl, hk⟩
  · rcases hk with rfl | rfl
    all_goals go_enter Tryd.func4, Tryd.ntmps4
    all_goals go_wp2_with fail
    all_goals refine (awake2_any _ hT hs).mono ?_
    all_goals rintro r w1 ⟨rfl, b1⟩
    all_goals have B1 := hid b1
    all_goals clear b1
    all_goals go_wp2_with fail
    all_goals refine (H1.out _).mono ?_
    all_goals rintro r w2 ⟨z1, rfl, B2⟩
    all_goals go_wp2_with fail
    all_goals refine (H2.out _).mono ?_
    all_goals rintro r w3 ⟨z2, rfl, B3⟩
    all_goals go_wp2
    all_goals go_ret
    all_goals exact ⟨rfl, bl_al (bl_al (bl_then (bl_then B1.out B2.out) B3.out) _) _⟩
  · rcases hk with rfl | rfl
    all_goals go_enter Tryd.func4, Tryd.ntmps4
    all_goals go_wp2_with fail
    all_goals refine (awake2_any _ hT hs).mono ?_
    all_goals rintro r w1 ⟨rfl, b1⟩
    all_goals have B1 := hid b1
    all_goals clear b1
    all_goals go_wp2_with fail
    all_goals refine (H1.out _).mono ?_
    all_goals rintro r w2 ⟨z1, rfl, B2⟩
    all_goals go_wp2_with fail
    all_goals refine (H2.out _).mono ?_
    all_goals rintro r w3 ⟨z2, rfl, B3⟩
    all_goals go_wp2
    all_goals go_ret
    all_goals exact ⟨rfl, bl_al (bl_al (bl_then (bl_then B1.out B2.out) B3.out) _) _⟩
  · obtain rfl : n2 = !n1 := by cases n1 <;> cases n2 <;> simp_all
    clear hk
    cases n1
    all_goals go_enter Tryd.func4, Tryd.ntmps4
    all_goals go_wp2_with fail
    all_goals refine (awake2_any _ hT hs).mono ?_
    all_goals rintro r w1 ⟨rfl, b1⟩
    all_goals have B1 := hid b1
    all_goals clear b1
    all_goals go_wp2_with fail
    all_goals refine (H1.out _).mono ?_
    all_goals rintro r w2 ⟨z1, rfl, B2⟩
    all_goals go_wp2_with fail
    all_goals refine (H2.out _).mono ?_
    all_goals rintro r w3 ⟨z2, rfl, B3⟩
    all_goals go_wp2
    all_goals go_ret
    all_goals exact ⟨rfl, bl_al (bl_al (bl_then (bl_then B1.out B2.out) B3.out) _) _⟩
set_option maxHeartbeats 1000000 in
theorem ster_mode (x y : Nat) (mode : Int) (w : World) (hT : Tab w) (hs : 1 < w.heap.size) (hm : mode < 0 ∨ 4 < mode) :
    Calls Tryd.prog 4 #[.int .u32 x, .int .u32 y, .int .i64 mode] w fun r w' => r = .returned (.bool true) ∧ Below w.heap.size w w' := by
  rcases hm with hm | hm
  all_goals go_enter Tryd.func4, Tryd.ntmps4
  all_goals go_wp2_with fail
  all_goals refine (awake2_any _ hT hs).mono ?_
  all_goals rintro r w1 ⟨rfl, b1⟩
  all_goals have B1 := hid b1
  all_goals clear b1
  all_goals go_wp2
  all_goals go_ret
  all_goals exact ⟨rfl, B1.out⟩
theorem numV_amount (x : Nat) (hf : x % 2147483648 < 2139095040) : numV 149 false (tM32 x) (tE32 x) = (nv32 (x % 2147483648) : Int) := by
  unfold numV sgnM
  rw [← tVal32 x hf, if_neg (by decide), Int.natCast_mul, Int.natCast_pow]
  rfl
theorem numV_neg (C : Nat) (n : Bool) (m : Nat) (E : Int) : numV C (!n) m E = -numV C n m E := by
  unfold numV sgnM
  cases n <;> simp
theorem sterbenz_law (x y : Nat) (mode : Int) (w : World) (hx : x < 4294967296) (hy : y < 4294967296) (_hm : -9223372036854775808 ≤ mode ∧ mode ≤ 9223372036854775807) (hT : Tab w) (hs : 1 < w.heap.size) :
    Calls Tryd.prog 4 #[.int .u32 x, .int .u32 y, .int .i64 mode] w fun r w' => r = .returned (.bool true) ∧ Below w.heap.size w w' := by
  by_cases hm : mode < 0 ∨ 4 < mode
  · exact ster_mode x y mode w hT hs hm
  · have m1 : 0 ≤ mode := by omega
    have m2 : mode ≤ 4 := by omega
    have hO : ∀ v : Nat, v < 4294967296 → v % 2147483648 < 2139095040 → Hid (∀ W, Calls Tryd.prog 15 #[.int .u32 v] W fun r w' => ∃ z, r = .returned (.agg #[.int .i64 0, .bool (decide (2147483648 ≤ v)), .pointer (some ⟨z, 0, none⟩), .int .i64 (tE32 v)]) ∧ Hid (NumAt w' z (tM32 v : Int) 2) ∧ Hid (Below W.heap.size W w')) := fun v hv hf W => Of32_fin v W hv hf
    have hO2 : ∀ v : Nat, v < 4294967296 → v % 2147483648 < 2139095040 → Hid (∀ W, Calls Tryd.prog 15 #[.int .u32 v] W fun r w' => ∃ z, r = .returned (.agg #[.int .i64 0, .bool (decide (2147483648 ≤ v)), .pointer (some ⟨z, 0, none⟩), .int .i64 (tE32 v)]) ∧ Hid (Below W.heap.size W w')) := fun v hv hf W => by
      refine (Of32_fin v W hv hf).mono ?_
      rintro r w' ⟨z, hr, _, hb⟩
      exact ⟨z, hr, hb⟩
    by_cases fx : x % 2147483648 < 2139095040
    · by_cases fy : y % 2147483648 < 2139095040
      · by_cases hsg : decide (2147483648 ≤ x) = decide (2147483648 ≤ y)
        · obtain ⟨x1, x2⟩ := tE32_hi x fx
          obtain ⟨y1, y2⟩ := tE32_hi y fy
          have H2 := hO y hy fy
          rw [← hsg] at H2
          refine ster_core x y mode (decide (2147483648 ≤ x)) (tE32 x) (tE32 y) _ _ w hT hs m1 m2 x2 y2 (by omega) (by omega) (hO x hx fx) H2 rfl rfl ?_
          rw [numV_amount x fx, numV_amount y fy]
          intro c1 c2
          have h1 : nv32 (y % 2147483648) ≤ 2 * nv32 (x % 2147483648) := by
            unfold cmpZ at c1
            apply Classical.byContradiction
            intro hc
            rw [if_pos (by omega)] at c1
            exact c1 (by decide)
          have h2 : nv32 (x % 2147483648) ≤ 2 * nv32 (y % 2147483648) := by
            unfold cmpZ at c2
            apply Classical.byContradiction
            intro hc
            rw [if_neg (by omega), if_pos (by omega)] at c2
            exact c2 (by decide)
          obtain ⟨R, r1, r2, r3, r4⟩ := Sub_near x y mode hx hy fx fy m1 m2 hsg h1 h2
          obtain ⟨t1, t2⟩ := tE32_hi R r2
          refine ⟨R, _, _, t2, by omega, ?_, hO R r1 r2, hid (fun w hT hs => r4 w hT hs)⟩
          rw [numV_32 R r2, r3, numV_32 x fx, hsg, numV_neg, numV_32 y fy]
          omega
        · exact ster_early x y mode 0 0 _ _ _ _ w hT hs m1 m2 (Or.inr (Or.inr ⟨rfl, rfl, hsg⟩)) (hO2 x hx fx) (hO2 y hy fy)
      · obtain ⟨k, E, n, hk, h⟩ := Of32_bad y w hy fy
        exact ster_early x y mode 0 k _ E _ n w hT hs m1 m2 (Or.inr (Or.inl ⟨rfl, hk⟩)) (hO2 x hx fx) (hid (fun W => h W))
    · obtain ⟨k, E, n, hk, h⟩ := Of32_bad x w hx fx
      by_cases fy : y % 2147483648 < 2139095040
      · exact ster_early x y mode k 0 E _ n _ w hT hs m1 m2 (Or.inl hk) (hid (fun W => h W)) (hO2 y hy fy)
      · obtain ⟨k', E', n', _, h'⟩ := Of32_bad y w hy fy
        exact ster_early x y mode k k' E E' n n' w hT hs m1 m2 (Or.inl hk) (hid (fun W => h W)) (hid (fun W => h' W))

set_option maxRecDepth 100000 in
theorem convertSterbenz_lifted (os : Os) (started : os.Started) (H : Type) (enc : TypeId × Value → H) :
    ReturnsInHanded {} Tryd.checked os 4 .any (fun w args => (Rows.convertSterbenzSpec.pre enc Tryd.prog Tryd.f4 [] false w args ∧ laidMetH Tryd.prog [("math/bits.deBruijn64tab", Rows.laid_math_bits_deBruijn64tab)] w) ∧ sizedMet enc Tryd.prog Tryd.f4 (OpenSpec.ofChange Rows.convertSterbenzSpec) false w args)
      (Rows.convertSterbenzSpec.post enc Tryd.prog Tryd.f4 false true false false) := by
  refine returnsInHanded_of_change_and (C := Tryd.checked) (X := fun w _ => laidMetH Tryd.prog [("math/bits.deBruijn64tab", Rows.laid_math_bits_deBruijn64tab)] w) (fun _ _ _ hh h => h.of_heap hh) own started (by kernel_rfl) Tryd.func4
    (ChangeSpec.witness_shaped (enc := enc) (C := Tryd.checked) (os := os) (X := fun w _ => laidMetH Tryd.prog [("math/bits.deBruijn64tab", Rows.laid_math_bits_deBruijn64tab)] w) false (World.doorLaid Tryd.prog 400 os) #[.int .u32 0, .int .u32 0, .int .i64 0] 8 rfl (World.shaped_of_RefB (by kernel_rfl) (by kernel_rfl)) (by kernel_rfl) (by kernel_rfl) (by kernel_rfl) (door_met os _)) ?_
  intro W base args ds gs before hval0 hW _ _ hL _
  have hval : ∀ (j : Nat) t v, Tryd.f4.params[j]? = some t → args[j]? = some v → Value.okWide Tryd.prog W .any base t v := hval0
  have hW' := hW
  obtain ⟨p, q, hA0, hV, rfl, hfz, hnd⟩ := hW
  have hA : DataW.TrodAll enc Tryd.prog W 0 (fun _ => true) true Tryd.f4.params.toList args.toList ds p := hA0
  rw [Tryd.params4] at hA hval
  obtain ⟨v0, vs0, d0, ds0, p0, q0, hargs, rfl, rfl, h0, r0⟩ := trodAll_cons hA
  obtain ⟨v1, vs1, d1, ds1, p1, q1, rfl, rfl, rfl, h1, r1⟩ := trodAll_cons r0
  obtain ⟨v2, vs2, d2, ds2, p2, q2, rfl, rfl, rfl, h2, r2⟩ := trodAll_cons r1
  obtain ⟨rfl, rfl, rfl⟩ := trodAll_nil r2
  obtain rfl : args = #[v0, v1, v2] := by cases args; simp_all
  obtain ⟨rfl, rfl⟩ := trodVars_none hV
  obtain ⟨a0, rfl, rfl, rfl, w0⟩ := open_int Tryd.underlying23 (hval 0 23 v0 rfl rfl) h0
  obtain ⟨n0, rfl⟩ := Int.eq_ofNat_of_zero_le (bounds_u32 w0).1
  have l0 : n0 < 4294967296 := by have := (bounds_u32 w0).2; omega
  obtain ⟨a1, rfl, rfl, rfl, w1⟩ := open_int Tryd.underlying23 (hval 1 23 v1 rfl rfl) h1
  obtain ⟨n1, rfl⟩ := Int.eq_ofNat_of_zero_le (bounds_u32 w1).1
  have l1 : n1 < 4294967296 := by have := (bounds_u32 w1).2; omega
  obtain ⟨a2, rfl, rfl, rfl, w2⟩ := open_int Tryd.underlying3 (hval 2 3 v2 rfl rfl) h2
  obtain ⟨hT, hs⟩ := tab_of_laid hL
  clear hA0 hval0
  simp only [List.append_nil] at hW'
  refine (sterbenz_law n0 n1 a2 W l0 l1 (bounds_i64 w2) hT hs).mono fun e W' ⟨he, bel⟩ => ?_
  subst he
  exact ⟨_, rfl, _, _, _, [], [], [], hW', trodAll_mk1 (shut_bool Tryd.underlying4 _), (trodAll_cons_mk (shut_int Tryd.underlying23 w0) (trodAll_cons_mk (shut_int Tryd.underlying23 w1) (trodAll_cons_mk (shut_int Tryd.underlying3 w2) trodAll_mk0))), rfl, bel.frame _, fun h => by cases h⟩

theorem convertSterbenz_row : Rows.ConvertSterbenzSaid :=
  OpenClaim.holds_of_wide 4 Tryd.f4 rfl rfl rfl rfl rfl rfl rfl ⟨rfl, rfl, rfl, rfl, rfl⟩ rfl rfl rfl rfl rfl (by kernel_rfl) Tryd.func4 (by kernel_rfl)
    (of_decide_eq_true (by kernel_rfl)) (by unfold Func.isWrapper; first | (rw [if_pos (by decide +kernel)]; kernel_rfl) | (rw [if_neg (by decide +kernel)]; exact ⟨rfl, rfl⟩))
    (fun os started H enc _ => convertSterbenz_lifted os started H enc)

theorem convertSterbenz_card : Rows.ConvertSterbenzCardSaid :=
  Claim7.holds_tied_plain_at .later [] [.data] true (true, "be497768a338a3596177f63c7936f46d0f5e82b40b05bc0f2b41abf2a530300f") false
    convertSterbenz_row (fun _ h => by cases h) (by kernel_rfl) (fun _ h => by cases h) convertSterbenz_row_tie rfl ⟨rfl, rfl⟩ (by kernel_rfl) rfl
    (fun f fn hf hfn => by
      obtain rfl : f = 4 := Option.some.inj ((show Tryd.prog.funcNamed "binnacle/binnaclelaw02.ConvertSterbenz" = some 4 by kernel_rfl).symm.trans hf) |>.symm
      obtain rfl : fn = Tryd.f4 := (Option.some.inj (Tryd.func4.symm.trans hfn)).symm
      exact ⟨by kernel_rfl, fun j t ht => by
        rw [Tryd.params4] at ht
        have hm : t ∈ [23, 23, 3] := by simpa using Array.mem_of_getElem? ht
        have hall : ([23, 23, 3].all fun u => !Tryd.prog.wantsStandIn u) = true := by kernel_rfl
        exact (show Tryd.prog.wantsStandIn t = false by simpa using List.all_eq_true.1 hall t hm)⟩)
    (by kernel_rfl)
#print axioms convertSterbenz_card
end Go.Proofs.YtpgcelbgmpfliaaDoor
