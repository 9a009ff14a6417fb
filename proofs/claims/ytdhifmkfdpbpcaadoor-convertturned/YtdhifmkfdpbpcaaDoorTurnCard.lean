
/- Proved: for all bits x, y and z and every mode the law ConvertTurned answers true: with the signs of what is rounded turned, up and down change places in Narrow, Mul, Div and Add, and all else gives the same with the other sign, with the same flags (a sum of 0 has its sign by the mode alone). Its condition: the library's table of trailing zeros starts as the program's text lays it, to which the card ties it. -/
import Derived.Test.YtdhifmkfdpbpcaaDoorCvTurn
import Derived.Test.YtdhifmkfdpbpcaaDoorSeat
import Derived.Test.YtdhifmkfdpbpcaaDoorTie
import Derived.Test.YtdhifmkfdpbpcaaDoorCards
import Derived.SevenTiedAt
namespace Go.Proofs.YtdhifmkfdpbpcaaDoor
open Go.ChangeShapes Go.WideShapes Go.ChangeAt Go.RowKit

set_option maxRecDepth 4000 in
set_option maxHeartbeats 1000000 in
theorem turned_out (x y z : Nat) (mode : Int) (w : World) (h : mode < 0 ∨ 4 < mode) (hT : Tab w) (hs : 1 < w.heap.size) :
    Calls Tryd.prog 3 #[.int .u64 x, .int .u32 y, .int .u32 z, .int .i64 mode] w fun r w' => r = .returned (.bool true) ∧ Below w.heap.size w w' := by
  rcases h with h | h
  all_goals
    go_enter Tryd.func3, Tryd.ntmps3
    go_wp2_with fail
    refine (awake2_any _ hT hs).mono ?_
    rintro r w1 ⟨rfl, hb⟩
    go_wp2
    go_ret
    exact ⟨rfl, hb⟩
set_option maxHeartbeats 400000 in
theorem mirror_same (a : Nat) (w : World) (ha : a < 4294967296) (hn : a % 2147483648 ≤ 2139095040) : Calls Tryd.prog 10 #[.float .f32 a, .float .f32 a] w fun r w' => r = .returned (.bool false) ∧ w' = w := by
  have h1 := order_self32 a ha
  rw [decide_eq_false (by omega)] at h1
  have h2 := xor_w32 a ha
  have hne : ((flip32 a : Int) == (a : Int)) = false := by
    rw [beq_eq_false_iff_ne]
    unfold flip32
    split <;> omega
  have h3 := f64bits32
  obtain ⟨b, hb⟩ : ∃ b, Hid (flip32 a = b) := ⟨_, rfl⟩
  rw [hb.out] at h2 hne
  clear ha hn
  go_enter Tryd.func10, Tryd.ntmps10
  go_wp2
  go_ret
  exact ⟨rfl, rfl⟩
theorem mirror_zer (a b : Nat) (ha : Zer a) (hb : Zer b) : ∃ v, ∀ w, Calls Tryd.prog 10 #[.float .f32 a, .float .f32 b] w fun r w' => r = .returned (.bool v) ∧ w' = w := by
  by_cases h : a = b
  · subst h
    exact ⟨false, fun w => mirror_same a w (by rcases ha with h | h <;> omega) (by rcases ha with h | h <;> omega)⟩
  · exact ⟨true, fun w => mirror_num a b w (by rcases ha with h | h <;> omega) (by rcases ha with h | h <;> omega) (by
      rcases ha with h1 | h1 <;> rcases hb with h2 | h2
      · omega
      · rw [h1, h2]; rfl
      · rw [h1, h2]; rfl
      · omega)⟩
theorem zer_eq (a : Nat) (h : Zer a) : (FloatKind.f32.format.order a 0 == some .eq) = true := by
  rw [order_zero32 a (by rcases h with h | h <;> omega)]
  exact decide_eq_true (by rcases h with h | h <;> omega)
theorem widen_lt (c : Nat) (hc : c < 4294967296) : widenOf c < 18446744073709551616 := by
  by_cases hn : 2139095040 < c % 2147483648
  · rw [widen_nan c hn]; decide
  · exact (widen_num c hc (by omega)).1
theorem mul_pair32 (y z : Nat) (mode : Int) (hy : y < 4294967296) (hz : z < 4294967296) : ∃ X X' Y, Mir X X' ∧
    (∀ w, Tab w → 1 < w.heap.size → Calls Tryd.prog 34 #[.float .f64 (widenOf y), .float .f64 (widenOf z), .int .i64 mode] w fun e w' => e = .returned (.tuple #[.float .f32 X, .int .i64 Y]) ∧ Below w.heap.size w w') ∧
    (∀ w, Tab w → 1 < w.heap.size → Calls Tryd.prog 34 #[.float .f64 (widenOf (flip32 y)), .float .f64 (widenOf z), .int .i64 (turnM mode)] w fun e w' => e = .returned (.tuple #[.float .f32 X', .int .i64 Y]) ∧ Below w.heap.size w w') := by
  obtain ⟨f1, _, f3⟩ := flip_mod32 y hy
  by_cases hn : 2139095040 < y % 2147483648
  · have w1 := widen_nan y hn
    have w2 := widen_nan (flip32 y) (by rw [f1]; exact hn)
    exact ⟨_, _, _, Or.inl ⟨rfl, rfl⟩, fun w hT hs => mult_nan _ _ mode w (widen_lt y hy) (widen_lt z hz) (Or.inl (by rw [w1]; decide)) hT hs, fun w hT hs => mult_nan _ _ _ w (widen_lt _ f3) (widen_lt z hz) (Or.inl (by rw [w2]; decide)) hT hs⟩
  · rw [(widen_num y hy (by omega)).2.2.1]
    exact mul_pair _ _ mode (widen_lt y hy) (widen_lt z hz)
theorem div_pair32 (y z : Nat) (mode : Int) (hy : y < 4294967296) (hz : z < 4294967296) : ∃ X X' Y, Mir X X' ∧
    (∀ w, Tab w → 1 < w.heap.size → Calls Tryd.prog 36 #[.float .f64 (widenOf y), .float .f64 (widenOf z), .int .i64 mode] w fun e w' => e = .returned (.tuple #[.float .f32 X, .int .i64 Y]) ∧ Below w.heap.size w w') ∧
    (∀ w, Tab w → 1 < w.heap.size → Calls Tryd.prog 36 #[.float .f64 (widenOf y), .float .f64 (widenOf (flip32 z)), .int .i64 (turnM mode)] w fun e w' => e = .returned (.tuple #[.float .f32 X', .int .i64 Y]) ∧ Below w.heap.size w w') := by
  obtain ⟨f1, _, f3⟩ := flip_mod32 z hz
  by_cases hn : 2139095040 < z % 2147483648
  · have w1 := widen_nan z hn
    have w2 := widen_nan (flip32 z) (by rw [f1]; exact hn)
    have hd : ∀ m : Int, ∀ w, Tab w → 1 < w.heap.size → Calls Tryd.prog 36 #[.float .f64 (widenOf y), .float .f64 9221120237041090561, .int .i64 m] w fun e w' => e = .returned (.tuple #[.float .f32 2143289344, .int .i64 0]) ∧ Below w.heap.size w w' := by
      intro m w hT hs
      have hq := div_nan (widenOf y) 9221120237041090561 (Or.inr (by decide))
      have hE : pErr 9221120237041090561 = 4 := by decide +kernel
      have hcase : (pErr (widenOf y) == 0) = false ∨ (pErr (widenOf y) = 0 ∧ (pErr 9221120237041090561 == 0) = false) ∨ (pErr (widenOf y) = 0 ∧ pErr 9221120237041090561 = 0 ∧ ((pMant (widenOf y) : Int) != 0) = false) ∨ (pErr (widenOf y) = 0 ∧ pErr 9221120237041090561 = 0 ∧ ((pMant (widenOf y) : Int) != 0) = true ∧ ((pMant 9221120237041090561 : Int) != 0) = false) := by
        rw [hE]
        by_cases c : pErr (widenOf y) = 0
        · exact Or.inr (Or.inl ⟨c, by decide⟩)
        · exact Or.inl (by simpa using c)
      by_cases nA : 9218868437227405312 < widenOf y % 9223372036854775808
      · exact division_nanA _ _ _ _ _ _ _ _ _ _ _ m w hT hs (fun w hT hs => Parts_any _ w (widen_lt y hy) hT hs) (fun w hT hs => Parts_any _ w (by decide) hT hs) hcase hq (isnan_of _ true (widen_lt y hy) (decide_eq_true nA)) (isnan_of _ _ (by decide) rfl)
      · exact division_nanB _ _ _ _ _ _ _ _ _ _ m w hT hs (fun w hT hs => Parts_any _ w (widen_lt y hy) hT hs) (fun w hT hs => Parts_any _ w (by decide) hT hs) hcase hq (isnan_of _ false (widen_lt y hy) (decide_eq_false nA)) (isnan_of _ true (by decide) (by decide))
    rw [w1, w2]
    exact ⟨_, _, _, Or.inl ⟨rfl, rfl⟩, hd mode, hd _⟩
  · rw [(widen_num z hz (by omega)).2.2.1]
    exact div_pair _ _ mode (widen_lt y hy) (widen_lt z hz)
theorem turn_ok (mode : Int) (h1 : 0 ≤ mode) (h2 : mode ≤ 4) : 0 ≤ turnM mode ∧ turnM mode ≤ 4 := by
  unfold turnM
  split
  · omega
  · split <;> omega
theorem turned_law (x y z : Nat) (mode : Int) (w : World) (hx : x < 18446744073709551616) (hy : y < 4294967296) (hz : z < 4294967296) (_hm : -9223372036854775808 ≤ mode ∧ mode ≤ 9223372036854775807) (hT : Tab w) (hs : 1 < w.heap.size) :
    Calls Tryd.prog 3 #[.int .u64 x, .int .u32 y, .int .u32 z, .int .i64 mode] w fun r w' => r = .returned (.bool true) ∧ Below w.heap.size w w' := by
  by_cases hm : 0 ≤ mode ∧ mode ≤ 4
  case neg => exact turned_out x y z mode w (by omega) hT hs
  obtain ⟨t1, t2⟩ := turn_ok mode hm.1 hm.2
  have fy := (flip_mod32 y hy).2.2
  have fz := (flip_mod32 z hz).2.2
  obtain ⟨n1, n2⟩ := narrow_flip x mode hx
  obtain ⟨M, M', k2, m1, m2, m3⟩ := mul_pair32 y z mode hy hz
  obtain ⟨D, D', k3, d1, d2, d3⟩ := div_pair32 y z mode hy hz
  obtain ⟨A, A', k4, a1, a2, a3⟩ := add_pair y z mode hy hz
  have hN2 : ∀ w, Tab w → 1 < w.heap.size → Calls Tryd.prog 8 #[.float .f64 (flipOf x), .int .i64 (turnM mode)] w fun e w' => e = .returned (.tuple #[.float .f32 (narrowOf (flipOf x) (turnM mode)), .int .i64 (narrowFl x mode), .int .i64 0]) ∧ Below w.heap.size w w' := by
    intro w hT hs
    have := Narrow_any (flipOf x) (turnM mode) w (flip_lt hx) t1 t2 hT hs
    rw [n2] at this
    exact this
  rcases a1 with a1 | ⟨z1, z2⟩
  · exact turned_mir x y z _ _ M M' D D' A A' mode _ _ k2 k3 k4 w hx hy hz hm.1 hm.2 hT hs rfl
      (fun w hT hs => Narrow_any x mode w hx hm.1 hm.2 hT hs) hN2
      (fun w hT hs => Mul_core y z M mode k2 w hy hz hm.1 hm.2 hT hs m2) (fun w hT hs => Mul_core (flip32 y) z M' _ k2 w fy hz t1 t2 hT hs m3)
      (fun w hT hs => Div_core y z D mode k3 w hy hz hm.1 hm.2 hT hs d2) (fun w hT hs => Div_core y (flip32 z) D' _ k3 w hy fz t1 t2 hT hs d3)
      (fun w hT hs => Add_core y z A mode k4 w hy hz hm.1 hm.2 hT hs a2) (fun w hT hs => Add_core (flip32 y) (flip32 z) A' _ k4 w fy fz t1 t2 hT hs a3)
      (fun w => mirror_any _ _ w n1) (fun w => mirror_any _ _ w m1) (fun w => mirror_any _ _ w d1) (fun w => mirror_any _ _ w a1)
  · obtain ⟨v, hv⟩ := mirror_zer A A' z1 z2
    exact turned_zer v x y z _ _ M M' D D' A A' mode _ _ k2 k3 k4 w hx hy hz hm.1 hm.2 hT hs rfl
      (fun w hT hs => Narrow_any x mode w hx hm.1 hm.2 hT hs) hN2
      (fun w hT hs => Mul_core y z M mode k2 w hy hz hm.1 hm.2 hT hs m2) (fun w hT hs => Mul_core (flip32 y) z M' _ k2 w fy hz t1 t2 hT hs m3)
      (fun w hT hs => Div_core y z D mode k3 w hy hz hm.1 hm.2 hT hs d2) (fun w hT hs => Div_core y (flip32 z) D' _ k3 w hy fz t1 t2 hT hs d3)
      (fun w hT hs => Add_core y z A mode k4 w hy hz hm.1 hm.2 hT hs a2) (fun w hT hs => Add_core (flip32 y) (flip32 z) A' _ k4 w fy fz t1 t2 hT hs a3)
      (fun w => mirror_any _ _ w n1) (fun w => mirror_any _ _ w m1) (fun w => mirror_any _ _ w d1) hv (zer_eq A z1) (zer_eq A' z2)

set_option maxRecDepth 100000 in
theorem convertTurned_lifted (os : Os) (started : os.Started) (H : Type) (enc : TypeId × Value → H) :
    ReturnsInHanded {} Tryd.checked os 3 .any (fun w args => (Rows.convertTurnedSpec.pre enc Tryd.prog Tryd.f3 [] false w args ∧ laidMetH Tryd.prog [("math/bits.deBruijn64tab", Rows.laid_math_bits_deBruijn64tab)] w) ∧ sizedMet enc Tryd.prog Tryd.f3 (OpenSpec.ofChange Rows.convertTurnedSpec) false w args)
      (Rows.convertTurnedSpec.post enc Tryd.prog Tryd.f3 false true false false) := by
  refine returnsInHanded_of_change_and (C := Tryd.checked) (X := fun w _ => laidMetH Tryd.prog [("math/bits.deBruijn64tab", Rows.laid_math_bits_deBruijn64tab)] w) (fun _ _ _ hh h => h.of_heap hh) own started (by kernel_rfl) Tryd.func3
    (ChangeSpec.witness_shaped (enc := enc) (C := Tryd.checked) (os := os) (X := fun w _ => laidMetH Tryd.prog [("math/bits.deBruijn64tab", Rows.laid_math_bits_deBruijn64tab)] w) false (World.doorLaid Tryd.prog 400 os) #[.int .u64 0, .int .u32 0, .int .u32 0, .int .i64 0] 8 rfl (World.shaped_of_RefB (by kernel_rfl) (by kernel_rfl)) (by kernel_rfl) (by kernel_rfl) (by kernel_rfl) (door_met os _)) ?_
  intro W base args ds gs before hval0 hW _ _ hL _
  have hval : ∀ (j : Nat) t v, Tryd.f3.params[j]? = some t → args[j]? = some v → Value.okWide Tryd.prog W .any base t v := hval0
  have hW' := hW
  obtain ⟨p, q, hA0, hV, rfl, hfz, hnd⟩ := hW
  have hA : DataW.TrodAll enc Tryd.prog W 0 (fun _ => true) true Tryd.f3.params.toList args.toList ds p := hA0
  rw [Tryd.params3] at hA hval
  obtain ⟨v0, vs0, d0, ds0, p0, q0, hargs, rfl, rfl, h0, r0⟩ := trodAll_cons hA
  obtain ⟨v1, vs1, d1, ds1, p1, q1, rfl, rfl, rfl, h1, r1⟩ := trodAll_cons r0
  obtain ⟨v2, vs2, d2, ds2, p2, q2, rfl, rfl, rfl, h2, r2⟩ := trodAll_cons r1
  obtain ⟨v3, vs3, d3, ds3, p3, q3, rfl, rfl, rfl, h3, r3⟩ := trodAll_cons r2
  obtain ⟨rfl, rfl, rfl⟩ := trodAll_nil r3
  obtain rfl : args = #[v0, v1, v2, v3] := by cases args; simp_all
  obtain ⟨rfl, rfl⟩ := trodVars_none hV
  obtain ⟨a0, rfl, rfl, rfl, w0⟩ := open_int Tryd.underlying22 (hval 0 22 v0 rfl rfl) h0
  obtain ⟨n0, rfl⟩ := Int.eq_ofNat_of_zero_le (bounds_u64 w0).1
  have l0 : n0 < 18446744073709551616 := by have := (bounds_u64 w0).2; omega
  obtain ⟨a1, rfl, rfl, rfl, w1⟩ := open_int Tryd.underlying23 (hval 1 23 v1 rfl rfl) h1
  obtain ⟨n1, rfl⟩ := Int.eq_ofNat_of_zero_le (bounds_u32 w1).1
  have l1 : n1 < 4294967296 := by have := (bounds_u32 w1).2; omega
  obtain ⟨a2, rfl, rfl, rfl, w2⟩ := open_int Tryd.underlying23 (hval 2 23 v2 rfl rfl) h2
  obtain ⟨n2, rfl⟩ := Int.eq_ofNat_of_zero_le (bounds_u32 w2).1
  have l2 : n2 < 4294967296 := by have := (bounds_u32 w2).2; omega
  obtain ⟨a3, rfl, rfl, rfl, w3⟩ := open_int Tryd.underlying3 (hval 3 3 v3 rfl rfl) h3
  obtain ⟨hT, hs⟩ := tab_of_laid hL
  clear hA0 hval0
  simp only [List.append_nil] at hW'
  refine (turned_law n0 n1 n2 a3 W l0 l1 l2 (bounds_i64 w3) hT hs).mono fun e W' ⟨he, bel⟩ => ?_
  subst he
  exact ⟨_, rfl, _, _, _, [], [], [], hW', trodAll_mk1 (shut_bool Tryd.underlying4 _), (trodAll_cons_mk (shut_int Tryd.underlying22 w0) (trodAll_cons_mk (shut_int Tryd.underlying23 w1) (trodAll_cons_mk (shut_int Tryd.underlying23 w2) (trodAll_cons_mk (shut_int Tryd.underlying3 w3) trodAll_mk0)))), rfl, bel.frame _, fun h => by cases h⟩

theorem convertTurned_row : Rows.ConvertTurnedSaid :=
  OpenClaim.holds_of_wide 3 Tryd.f3 rfl rfl rfl rfl rfl rfl rfl ⟨rfl, rfl, rfl, rfl, rfl⟩ rfl rfl rfl rfl rfl (by kernel_rfl) Tryd.func3 (by kernel_rfl)
    (of_decide_eq_true (by kernel_rfl)) (by unfold Func.isWrapper; first | (rw [if_pos (by decide +kernel)]; kernel_rfl) | (rw [if_neg (by decide +kernel)]; exact ⟨rfl, rfl⟩))
    (fun os started H enc _ => convertTurned_lifted os started H enc)

theorem convertTurned_card : Rows.ConvertTurnedCardSaid :=
  Claim7.holds_tied_plain_at .later [] [.data] true (true, "be497768a338a3596177f63c7936f46d0f5e82b40b05bc0f2b41abf2a530300f") false
    convertTurned_row (fun _ h => by cases h) (by kernel_rfl) (fun _ h => by cases h) convertTurned_row_tie rfl ⟨rfl, rfl⟩ (by kernel_rfl) rfl
    (fun f fn hf hfn => by
      obtain rfl : f = 3 := Option.some.inj ((show Tryd.prog.funcNamed "binnacle/binnaclelaw02.ConvertTurned" = some 3 by kernel_rfl).symm.trans hf) |>.symm
      obtain rfl : fn = Tryd.f3 := (Option.some.inj (Tryd.func3.symm.trans hfn)).symm
      exact ⟨by kernel_rfl, fun j t ht => by
        rw [Tryd.params3] at ht
        have hm : t ∈ [22, 23, 23, 3] := by simpa using Array.mem_of_getElem? ht
        have hall : ([22, 23, 23, 3].all fun u => !Tryd.prog.wantsStandIn u) = true := by kernel_rfl
        exact (show Tryd.prog.wantsStandIn t = false by simpa using List.all_eq_true.1 hall t hm)⟩)
    (by kernel_rfl)
#print axioms convertTurned_card
end Go.Proofs.YtdhifmkfdpbpcaaDoor
