
/- Proved: for all bits x of a number and y of a single the law AnatomyNext answers true: Next, Prev and Ulp, and theirs of singles, answer as the document defines them, bit by bit. Its condition: the library's table of trailing zeros starts as the program's text lays it, to which the card ties it. -/
import Derived.Test.YtfeojdmffipinaaDoorS6
import Derived.Test.YtfeojdmffipinaaDoorSeat
import Derived.Test.YtfeojdmffipinaaDoorTie
import Derived.Test.YtfeojdmffipinaaDoorCards
import Derived.SevenTiedAt
namespace Go.Proofs.YtfeojdmffipinaaDoor
open Go.ChangeShapes Go.WideShapes Go.ChangeAt Go.RowKit

theorem num_self (y : Nat) (h : y % 9223372036854775808 ≤ 9218868437227405312) : canonOf y = y := by unfold canonOf; rw [if_neg (by omega)]
theorem next_self (x : Nat) (hx : x < 18446744073709551616) : canonOf (nextOf x) = nextOf x := by
  rcases canon_cases x with h | h
  · have e : nextOf x = 9221120237041090561 := by unfold nextOf; rw [h, if_pos (Or.inl rfl)]
    rw [e]; decide
  · have hl := canon_lt hx
    have e : nextOf x % 9223372036854775808 ≤ 9218868437227405312 := by
      unfold nextOf
      split
      · exact h
      · split
        · omega
        · split <;> omega
    exact num_self _ e
theorem flip_mod (y : Nat) : flipOf y % 9223372036854775808 = y % 9223372036854775808 := by unfold flipOf; split <;> omega
theorem prev_self (x : Nat) (hx : x < 18446744073709551616) : canonOf (prevOf x) = prevOf x := by
  unfold prevOf
  by_cases h : canonOf x = 9221120237041090561
  · rw [if_pos h]; decide
  · rw [if_neg h]
    have h2 : canonOf x % 9223372036854775808 ≤ 9218868437227405312 := by rcases canon_cases x with h3 | h3; exact absurd h3 h; exact h3
    apply num_self
    rw [flip_mod]
    apply next_num _ (flip_lt (canon_lt hx))
    rw [flip_mod]; exact h2
theorem prev_lt (x : Nat) (hx : x < 18446744073709551616) : prevOf x < 18446744073709551616 := by
  unfold prevOf
  split
  · omega
  · exact flip_lt (next_lt (flip_lt (canon_lt hx)))
theorem ulp_self (x : Nat) (hx : x < 18446744073709551616) : canonOf (ulpOf x) = ulpOf x ∧ ulpOf x < 18446744073709551616 := by
  unfold ulpOf
  by_cases h : expOf x = 2047
  · rw [if_pos h]
    rcases canon_cases x with h2 | h2
    · rw [h2]; decide
    · exact ⟨num_self _ (by omega), by omega⟩
  · rw [if_neg h]
    have h2 : x % 9223372036854775808 < 9218868437227405312 := by
      apply Classical.byContradiction
      intro h3
      exact h ((exp_top x hx).2 h3)
    have h3 := pow_lt_inf (stepOf x) (step_le x h2)
    exact ⟨num_self _ (by omega), by omega⟩
theorem num_self32 (y : Nat) (h : y % 2147483648 ≤ 2139095040) : canonOf32 y = y := by unfold canonOf32; rw [if_neg (by omega)]
theorem next_self32 (x : Nat) (hx : x < 4294967296) : canonOf32 (nextOf32 x) = nextOf32 x := by
  rcases canon_cases32 x with h | h
  · have e : nextOf32 x = 2143289344 := by unfold nextOf32; rw [h, if_pos (Or.inl rfl)]
    rw [e]; decide
  · have hl := canon_lt32 hx
    have e : nextOf32 x % 2147483648 ≤ 2139095040 := by
      unfold nextOf32
      split
      · exact h
      · split
        · omega
        · split <;> omega
    exact num_self32 _ e
theorem flip_mod32 (y : Nat) : flipOf32 y % 2147483648 = y % 2147483648 := by unfold flipOf32; split <;> omega
theorem prev_self32 (x : Nat) (hx : x < 4294967296) : canonOf32 (prevOf32 x) = prevOf32 x := by
  unfold prevOf32
  by_cases h : canonOf32 x = 2143289344
  · rw [if_pos h]; decide
  · rw [if_neg h]
    have h2 : canonOf32 x % 2147483648 ≤ 2139095040 := by rcases canon_cases32 x with h3 | h3; exact absurd h3 h; exact h3
    apply num_self32
    rw [flip_mod32]
    apply next_num32 _ (flip_lt32 (canon_lt32 hx))
    rw [flip_mod32]; exact h2
theorem prev_lt32 (x : Nat) (hx : x < 4294967296) : prevOf32 x < 4294967296 := by
  unfold prevOf32
  split
  · omega
  · exact flip_lt32 (next_lt32 (flip_lt32 (canon_lt32 hx)))
theorem ulp_self32 (x : Nat) (hx : x < 4294967296) : canonOf32 (ulpOf32 x) = ulpOf32 x ∧ ulpOf32 x < 4294967296 := by
  unfold ulpOf32
  by_cases h : expOf32 x = 255
  · rw [if_pos h]
    rcases canon_cases32 x with h2 | h2
    · rw [h2]; decide
    · exact ⟨num_self32 _ (by omega), by omega⟩
  · rw [if_neg h]
    have h2 : x % 2147483648 < 2139095040 := by
      apply Classical.byContradiction
      intro h3
      exact h ((exp_top32 x hx).2 h3)
    have h3 := pow_lt_inf32 (stepOf32 x) (step_le32 x h2)
    exact ⟨num_self32 _ (by omega), by omega⟩

set_option maxHeartbeats 1000000 in
theorem next_law (x y : Nat) (w : World) (hx : x < 18446744073709551616) (hy : y < 4294967296) (hT : Tab w) (hs : 1 < w.heap.size) :
    Calls Tryd.prog 6 #[.int .u64 x, .int .u32 y] w fun r w' => r = .returned (.bool true) ∧ Below w.heap.size w w' := by
  have c1 : (nextOf x == canonOf (nextOf x)) = true := by rw [beq_iff_eq]; exact (next_self x hx).symm
  have c2 : (prevOf x == canonOf (prevOf x)) = true := by rw [beq_iff_eq]; exact (prev_self x hx).symm
  have c3 : (ulpOf x == canonOf (ulpOf x)) = true := by rw [beq_iff_eq]; exact (ulp_self x hx).1.symm
  have c4 : (nextOf32 y == canonOf32 (nextOf32 y)) = true := by rw [beq_iff_eq]; exact (next_self32 y hy).symm
  have c5 : (prevOf32 y == canonOf32 (prevOf32 y)) = true := by rw [beq_iff_eq]; exact (prev_self32 y hy).symm
  have c6 : (ulpOf32 y == canonOf32 (ulpOf32 y)) = true := by rw [beq_iff_eq]; exact (ulp_self32 y hy).1.symm
  have L1 : nextOf x < 18446744073709551616 := next_lt hx
  have L2 : prevOf x < 18446744073709551616 := prev_lt x hx
  have L3 : ulpOf x < 18446744073709551616 := (ulp_self x hx).2
  have L4 : nextOf32 y < 4294967296 := next_lt32 hy
  have L5 : prevOf32 y < 4294967296 := prev_lt32 y hy
  have L6 : ulpOf32 y < 4294967296 := (ulp_self32 y hy).2
  go_enter Tryd.func6, Tryd.ntmps6
  go_wp2_with (first
    | (go_at_call 9; refine (f_any _ _).mono ?_; rintro e w' ⟨rfl, rfl⟩)
    | (go_at_call 27; refine (f_any32 _ _).mono ?_; rintro e w' ⟨rfl, rfl⟩)
    | (go_at_call 38; refine (Next_any x _ hx).mono ?_; rintro e w1 ⟨rfl, hb1⟩)
    | (go_at_call 39; refine (rnext_any x _ hx).mono ?_; rintro e w' ⟨rfl, rfl⟩)
    | (go_at_call 40; refine (Prev_any x _ hx).mono ?_; rintro e w2 ⟨rfl, hb2⟩)
    | (go_at_call 41; refine (rprev_any x _ hx).mono ?_; rintro e w' ⟨rfl, rfl⟩)
    | (go_at_call 42; refine (Ulp_any x _ hx (hT.below hs (bl_then hb1 hb2)) (Nat.lt_of_lt_of_le hs (bl_then hb1 hb2).size)).mono ?_; rintro e w3 ⟨rfl, hb3⟩)
    | (go_at_call 43; refine (rulp_any x _ hx).mono ?_; rintro e w' ⟨rfl, rfl⟩)
    | (go_at_call 14; refine (same_any _ _ _ ?_).mono ?_; assumption; rintro r w' ⟨rfl, rfl⟩)
    | (go_at_call 44; refine (Next_any32 y _ hy).mono ?_; rintro e w4 ⟨rfl, hb4⟩)
    | (go_at_call 45; refine (rnext32_any y _ hy).mono ?_; rintro e w' ⟨rfl, rfl⟩)
    | (go_at_call 46; refine (Prev_any32 y _ hy).mono ?_; rintro e w5 ⟨rfl, hb5⟩)
    | (go_at_call 47; refine (rprev32_any y _ hy).mono ?_; rintro e w' ⟨rfl, rfl⟩)
    | (go_at_call 48; refine (Ulp_any32 y _ hy (hT.below hs (bl_then (bl_then (bl_then (bl_then hb1 hb2) hb3) hb4) hb5)) (Nat.lt_of_lt_of_le hs (bl_then (bl_then (bl_then (bl_then hb1 hb2) hb3) hb4) hb5).size)).mono ?_; rintro e w6 ⟨rfl, hb6⟩)
    | (go_at_call 49; refine (rulp32_any y _ hy).mono ?_; rintro e w' ⟨rfl, rfl⟩)
    | (go_at_call 34; refine (same_any32 _ _ _ ?_).mono ?_; assumption; rintro r w' ⟨rfl, rfl⟩))
  have HB6 : Hid (Below _ _ _) := bl_then (bl_then (bl_then (bl_then (bl_then hb1 hb2) hb3) hb4) hb5) hb6
  refine (awake_any _ (hT.below hs HB6.out) (Nat.lt_of_lt_of_le hs HB6.out.size)).mono ?_
  rintro r w9 ⟨rfl, hb9⟩
  go_wp2_with fail
  go_ret
  exact ⟨rfl, bl_then HB6.out hb9⟩

set_option maxRecDepth 100000 in
theorem anatomyNext_lifted (os : Os) (started : os.Started) (H : Type) (enc : TypeId × Value → H) :
    ReturnsInHanded {} Tryd.checked os 6 .any (fun w args => (Rows.anatomyNextSpec.pre enc Tryd.prog Tryd.f6 [] false w args ∧ laidMetH Tryd.prog [("math/bits.deBruijn64tab", Rows.laid_math_bits_deBruijn64tab)] w) ∧ sizedMet enc Tryd.prog Tryd.f6 (OpenSpec.ofChange Rows.anatomyNextSpec) false w args)
      (Rows.anatomyNextSpec.post enc Tryd.prog Tryd.f6 false true false false) := by
  refine returnsInHanded_of_change_and (C := Tryd.checked) (X := fun w _ => laidMetH Tryd.prog [("math/bits.deBruijn64tab", Rows.laid_math_bits_deBruijn64tab)] w) (fun _ _ _ hh h => h.of_heap hh) own started (by kernel_rfl) Tryd.func6
    (ChangeSpec.witness_shaped (enc := enc) (C := Tryd.checked) (os := os) (X := fun w _ => laidMetH Tryd.prog [("math/bits.deBruijn64tab", Rows.laid_math_bits_deBruijn64tab)] w) false (World.doorLaid Tryd.prog 400 os) #[.int .u64 0, .int .u32 0] 8 rfl (World.shaped_of_RefB (by kernel_rfl) (by kernel_rfl)) (by kernel_rfl) (by kernel_rfl) (by kernel_rfl) (door_met os _)) ?_
  intro W base args ds gs before hval0 hW _ _ hL _
  have hval : ∀ (j : Nat) t v, Tryd.f6.params[j]? = some t → args[j]? = some v → Value.okWide Tryd.prog W .any base t v := hval0
  have hW' := hW
  obtain ⟨p, q, hA0, hV, rfl, hfz, hnd⟩ := hW
  have hA : DataW.TrodAll enc Tryd.prog W 0 (fun _ => true) true Tryd.f6.params.toList args.toList ds p := hA0
  rw [Tryd.params6] at hA hval
  obtain ⟨v0, vs0, d0, ds0, p0, q0, hargs, rfl, rfl, h0, r0⟩ := trodAll_cons hA
  obtain ⟨v1, vs1, d1, ds1, p1, q1, rfl, rfl, rfl, h1, r1⟩ := trodAll_cons r0
  obtain ⟨rfl, rfl, rfl⟩ := trodAll_nil r1
  obtain rfl : args = #[v0, v1] := by cases args; simp_all
  obtain ⟨rfl, rfl⟩ := trodVars_none hV
  obtain ⟨a0, rfl, rfl, rfl, w0⟩ := open_int Tryd.underlying22 (hval 0 22 v0 rfl rfl) h0
  obtain ⟨n0, rfl⟩ := Int.eq_ofNat_of_zero_le (bounds_u64 w0).1
  have l0 : n0 < 18446744073709551616 := by have := (bounds_u64 w0).2; omega
  obtain ⟨a1, rfl, rfl, rfl, w1⟩ := open_int Tryd.underlying49 (hval 1 49 v1 rfl rfl) h1
  obtain ⟨n1, rfl⟩ := Int.eq_ofNat_of_zero_le (bounds_u32 w1).1
  have l1 : n1 < 4294967296 := by have := (bounds_u32 w1).2; omega
  obtain ⟨hT, hs⟩ := tab_of_laid hL
  clear hA0 hval0
  simp only [List.append_nil] at hW'
  refine (next_law n0 n1 W l0 l1 hT hs).mono fun e W' ⟨he, bel⟩ => ?_
  subst he
  exact ⟨_, rfl, _, _, _, [], [], [], hW', trodAll_mk1 (shut_bool Tryd.underlying4 _), (trodAll_cons_mk (shut_int Tryd.underlying22 w0) (trodAll_cons_mk (shut_int Tryd.underlying49 w1) trodAll_mk0)), rfl, bel.frame _, fun h => by cases h⟩

theorem anatomyNext_row : Rows.AnatomyNextSaid :=
  OpenClaim.holds_of_wide 6 Tryd.f6 rfl rfl rfl rfl rfl rfl rfl ⟨rfl, rfl, rfl, rfl, rfl⟩ rfl rfl rfl rfl rfl (by kernel_rfl) Tryd.func6 (by kernel_rfl)
    (of_decide_eq_true (by kernel_rfl)) (by unfold Func.isWrapper; first | (rw [if_pos (by decide +kernel)]; kernel_rfl) | (rw [if_neg (by decide +kernel)]; exact ⟨rfl, rfl⟩))
    (fun os started H enc _ => anatomyNext_lifted os started H enc)

theorem anatomyNext_card : Rows.AnatomyNextCardSaid :=
  Claim7.holds_tied_plain_at .later [] [.data] true (true, "a32aba356635e8a6eb3eb2178527088e6073dfbbae84cf0375af625bc9adbcca") false
    anatomyNext_row (fun _ h => by cases h) (by kernel_rfl) (fun _ h => by cases h) anatomyNext_row_tie rfl ⟨rfl, rfl⟩ (by kernel_rfl) rfl
    (fun f fn hf hfn => by
      obtain rfl : f = 6 := Option.some.inj ((show Tryd.prog.funcNamed "binnacle/binnaclelaw01.AnatomyNext" = some 6 by kernel_rfl).symm.trans hf) |>.symm
      obtain rfl : fn = Tryd.f6 := (Option.some.inj (Tryd.func6.symm.trans hfn)).symm
      exact ⟨by kernel_rfl, fun j t ht => by
        rw [Tryd.params6] at ht
        have hm : t ∈ [22, 49] := by simpa using Array.mem_of_getElem? ht
        have hall : ([22, 49].all fun u => !Tryd.prog.wantsStandIn u) = true := by kernel_rfl
        exact (show Tryd.prog.wantsStandIn t = false by simpa using List.all_eq_true.1 hall t hm)⟩)
    (by kernel_rfl)
#print axioms anatomyNext_card
end Go.Proofs.YtfeojdmffipinaaDoor
