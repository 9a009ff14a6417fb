
/- What the document's Next32, Prev32 and Ulp32 do. -/
import Derived.Test.YtfeojdmffipinaaDoorS5
namespace Go.Proofs.YtfeojdmffipinaaDoor
open Go.RowKit Go.IntWalk

theorem ret_f32 {a a' : Nat} (h1 : a = a') : Ending.returned (.float .f32 a) = .returned (.float .f32 a') := by rw [h1]
theorem f32neg (b : Nat) : Op.unary .neg (.float .f32 b) = pure (.float .f32 (b ^^^ 2147483648)) := rfl
theorem sign32 (x : Nat) : ((x : Int) / 2147483648 == 1) = decide (2147483648 ≤ x ∧ x < 4294967296) := by
  rw [Bool.eq_iff_iff, beq_iff_eq, decide_eq_true_eq]; omega

set_option maxHeartbeats 400000 in
theorem rnext32_any (x : Nat) (w : World) (hx : x < 4294967296) :
    Calls Tryd.prog 45 #[.float .f32 x] w fun r w' => r = .returned (.float .f32 (nextOf32 x)) ∧ w' = w := by
  have ho := order_self32 x hx
  have hz := order_zero32 x hx
  have h1 := f64fromI32
  by_cases hn : 2139095040 < x % 2147483648
  · rw [decide_eq_true hn] at ho
    have HN : Hid (canonOf32 x = nextOf32 x) := by
      have hc : canonOf32 x = 2143289344 := by unfold canonOf32; rw [if_pos hn]
      show canonOf32 x = nextOf32 x
      unfold nextOf32
      rw [hc, if_pos (Or.inl rfl)]
    clear hn hz
    go_enter Tryd.func45, Tryd.ntmps45
    go_wp2_with fail
    refine (bits_any32 x _ hx).mono ?_
    rintro r w1 ⟨rfl, rfl⟩
    go_wp2_with fail
    refine (rcanon_any32 x _ hx).mono ?_
    rw [HN.out]
    rintro r w1 ⟨rfl, rfl⟩
    go_wp2_with fail
    go_ret
    exact ⟨rfl, rfl⟩
  · rw [decide_eq_false hn] at ho
    have HC : Hid (canonOf32 x = x) := by show canonOf32 x = x; unfold canonOf32; rw [if_neg hn]
    by_cases hi : x = 2139095040
    · have HN : Hid (canonOf32 x = nextOf32 x) := by
        show canonOf32 x = nextOf32 x
        rw [HC.out, hi]; exact next_inf32.symm
      have hi' : ((x : Int) == 2139095040) = true := by rw [hi]; rfl
      clear hn hz hi
      go_enter Tryd.func45, Tryd.ntmps45
      go_wp2_with fail
      refine (bits_any32 x _ hx).mono ?_
      rw [HC.out]
      rintro r w1 ⟨rfl, rfl⟩
      go_wp2_with fail
      refine (rcanon_any32 x _ hx).mono ?_
      rw [HN.out]
      rintro r w1 ⟨rfl, rfl⟩
      go_wp2_with fail
      go_ret
      exact ⟨rfl, rfl⟩
    · have hi' : ((x : Int) == 2139095040) = false := by rw [beq_eq_false_iff_ne]; omega
      by_cases h0 : x % 2147483648 = 0
      · rw [decide_eq_true h0] at hz
        have HN : Hid (nextOf32 x = 1) := by
          show nextOf32 x = 1
          rcases (show x = 0 ∨ x = 2147483648 by omega) with h | h
          · rw [h]; decide
          · rw [h]; exact next_nzero32
        clear hn hi h0
        go_enter Tryd.func45, Tryd.ntmps45
        go_wp2_with fail
        refine (bits_any32 x _ hx).mono ?_
        rw [HC.out]
        rintro r w1 ⟨rfl, rfl⟩
        go_wp2_with fail
        go_ret
        exact ⟨ret_f32 HN.out.symm, rfl⟩
      · rw [decide_eq_false h0] at hz
        have hsg := sign32 x
        by_cases hs : 2147483648 ≤ x
        · rw [decide_eq_true ⟨hs, hx⟩] at hsg
          have HN : Hid (nextOf32 x = x - 1) := next_neg32 x (by omega) (by omega)
          have HB : Hid (2147483648 ≤ x ∧ x < 4294967296) := ⟨hs, hx⟩
          clear hn hi h0 hs
          go_enter Tryd.func45, Tryd.ntmps45
          go_wp2_with fail
          refine (bits_any32 x _ hx).mono ?_
          rw [HC.out]
          rintro r w1 ⟨rfl, rfl⟩
          go_wp2_with fail
          go_ret
          refine ⟨ret_f32 ?_, rfl⟩
          have := HB.out
          rw [HN.out]
          first | (rw [IntKind.wrap_u32']; omega) | omega
        · rw [decide_eq_false (fun h => hs h.1)] at hsg
          have HN : Hid (nextOf32 x = x + 1) := next_pos32 x (by omega)
          have HB : Hid (x < 2139095040) := by show x < 2139095040; omega
          clear hn hi h0 hs
          go_enter Tryd.func45, Tryd.ntmps45
          go_wp2_with fail
          refine (bits_any32 x _ hx).mono ?_
          rw [HC.out]
          rintro r w1 ⟨rfl, rfl⟩
          go_wp2_with fail
          go_ret
          refine ⟨ret_f32 ?_, rfl⟩
          have := HB.out
          rw [HN.out]
          first | (rw [IntKind.wrap_u32']; omega) | omega

set_option maxHeartbeats 400000 in
theorem rprev32_any (x : Nat) (w : World) (hx : x < 4294967296) :
    Calls Tryd.prog 47 #[.float .f32 x] w fun r w' => r = .returned (.float .f32 (prevOf32 x)) ∧ w' = w := by
  have ho := order_self32 x hx
  have h1 := f32neg
  by_cases hn : 2139095040 < x % 2147483648
  · rw [decide_eq_true hn] at ho
    have HN : Hid (canonOf32 x = prevOf32 x) := by
      have hc : canonOf32 x = 2143289344 := by unfold canonOf32; rw [if_pos hn]
      show canonOf32 x = prevOf32 x
      unfold prevOf32
      rw [if_pos hc, hc]
    clear hn
    go_enter Tryd.func47, Tryd.ntmps47
    go_wp2_with fail
    refine (rcanon_any32 x _ hx).mono ?_
    rintro r w1 ⟨rfl, rfl⟩
    go_wp2_with fail
    go_ret
    exact ⟨ret_f32 HN.out, rfl⟩
  · rw [decide_eq_false hn] at ho
    have HN : Hid (prevOf32 x = flipOf32 (nextOf32 (flipOf32 x))) := by
      have hc : canonOf32 x = x := by unfold canonOf32; rw [if_neg hn]
      show prevOf32 x = _
      unfold prevOf32
      rw [hc, if_neg (by omega)]
    have hx1 := xor_flip32 x hx
    have HF : Hid (flipOf32 x < 4294967296) := flip_lt32 hx
    obtain ⟨d, hd⟩ : ∃ d, Hid (flipOf32 x = d) := ⟨_, rfl⟩
    rw [hd.out] at HF hx1 HN
    have hx2 := xor_flip32 (nextOf32 d) (next_lt32 HF.out)
    clear hn
    go_enter Tryd.func47, Tryd.ntmps47
    go_wp2_with fail
    refine (rnext32_any d _ HF.out).mono ?_
    rintro r w1 ⟨rfl, rfl⟩
    go_wp2_with fail
    go_ret
    exact ⟨ret_f32 HN.out.symm, rfl⟩

theorem canon_of32 (a : Nat) (h : a % 2147483648 < 2139095040) : canonOf32 a = a := by unfold canonOf32; rw [if_neg (by omega)]
/- The walk of Ulp32, a the magnitude, behind the first test. -/
set_option maxHeartbeats 800000 in
theorem rulp32_any (x : Nat) (w : World) (hx : x < 4294967296) :
    Calls Tryd.prog 49 #[.float .f32 x] w fun r w' => r = .returned (.float .f32 (ulpOf32 x)) ∧ w' = w := by
  have ho := order_self32 x hx
  have h1 := f64bits32
  have h2 := f32neg
  have hsg := sign32 x
  obtain ⟨a, ha⟩ : ∃ a, Hid (x % 2147483648 = a) := ⟨_, rfl⟩
  have HAL : Hid (a < 4294967296) := by show a < _; rw [← ha.out]; omega
  have hab : (2147483648 ≤ x → x ^^^ 2147483648 = a) ∧ (¬ 2147483648 ≤ x → x = a) := by
    have e1 := xor_flip32 x hx
    have e2 := ha.out
    constructor
    · intro h
      rw [e1]
      unfold flipOf32
      rw [if_pos h]
      omega
    · intro h; omega
  by_cases he : expOf32 x = 255
  · have hnf := (exp_top32 x hx).1 he
    have HU : Hid (ulpOf32 x = canonOf32 a) := by
      show ulpOf32 x = canonOf32 a
      unfold ulpOf32
      rw [if_pos he, ← ha.out]
      unfold canonOf32
      by_cases hn : 2139095040 < x % 2147483648
      · rw [if_pos hn, if_pos (by omega)]
      · rw [if_neg hn, if_neg (by omega)]
    by_cases hn : 2139095040 < x % 2147483648
    · rw [decide_eq_true hn] at ho
      clear he hnf hn
      by_cases hs : 2147483648 ≤ x
      · rw [decide_eq_true ⟨hs, hx⟩] at hsg
        have hxa := hab.1 hs
        clear hab hs
        go_enter Tryd.func49, Tryd.ntmps49
        go_wp2_with fail
        refine (rcanon_any32 a _ HAL.out).mono ?_
        rintro r w1 ⟨rfl, rfl⟩
        go_wp2_with fail
        go_ret
        exact ⟨ret_f32 HU.out.symm, rfl⟩
      · rw [decide_eq_false (fun h => hs h.1)] at hsg
        have HXA : Hid (x = a) := hab.2 hs
        clear hab hs
        go_enter Tryd.func49, Tryd.ntmps49
        go_wp2_with fail
        refine (rcanon_any32 x _ hx).mono ?_
        rintro r w1 ⟨rfl, rfl⟩
        go_wp2_with fail
        go_ret
        exact ⟨ret_f32 (by rw [HU.out, ← HXA.out]), rfl⟩
    · rw [decide_eq_false hn] at ho
      have hai : a = 2139095040 := by have := ha.out; omega
      have HCA : Hid (canonOf32 a = a) := by show canonOf32 a = a; rw [hai]; decide
      have hii : ((a : Int) == 2139095040) = true := by rw [hai]; rfl
      clear he hnf hn hai
      by_cases hs : 2147483648 ≤ x
      · rw [decide_eq_true ⟨hs, hx⟩] at hsg
        have hxa := hab.1 hs
        clear hab hs
        go_enter Tryd.func49, Tryd.ntmps49
        go_wp2_with fail
        refine (bits_any32 a _ HAL.out).mono ?_
        rw [HCA.out]
        rintro r w1 ⟨rfl, rfl⟩
        go_wp2_with fail
        refine (rcanon_any32 a _ HAL.out).mono ?_
        rintro r w1 ⟨rfl, rfl⟩
        go_wp2_with fail
        go_ret
        exact ⟨ret_f32 HU.out.symm, rfl⟩
      · rw [decide_eq_false (fun h => hs h.1)] at hsg
        obtain rfl : x = a := hab.2 hs
        clear hab hs
        go_enter Tryd.func49, Tryd.ntmps49
        go_wp2_with fail
        refine (bits_any32 x _ hx).mono ?_
        rw [HCA.out]
        rintro r w1 ⟨rfl, rfl⟩
        go_wp2_with fail
        refine (rcanon_any32 x _ hx).mono ?_
        rintro r w1 ⟨rfl, rfl⟩
        go_wp2_with fail
        go_ret
        exact ⟨ret_f32 HU.out.symm, rfl⟩
  · have hfin : a < 2139095040 := by
      apply Classical.byContradiction
      intro h3
      exact he ((exp_top32 x hx).2 (by rw [ha.out]; exact h3))
    rw [decide_eq_false (by have := ha.out; omega)] at ho
    have HCA : Hid (canonOf32 a = a) := canon_of32 a (by omega)
    have hii : ((a : Int) == 2139095040) = false := by rw [beq_eq_false_iff_ne]; omega
    have hm := max_test32 a hfin
    -- what the difference is, in either case
    by_cases hmx : a = 2139095039
    · rw [decide_eq_true hmx] at hm
      have HU : Hid (powN32 (stepOf32 (a - 1)) = ulpOf32 x) := by
        show powN32 (stepOf32 (a - 1)) = ulpOf32 x
        unfold ulpOf32
        rw [if_neg he]
        congr 1
        unfold stepOf32
        rw [ha.out, hmx]
      have HPV : Hid (prevOf32 a = a - 1) := by
        show prevOf32 a = a - 1
        have := prev_pos32 (a - 1) (by omega) (by omega)
        rwa [Nat.sub_add_cancel (by omega)] at this
      have hsb : ∀ t w, (binOp .sub t (.float .f32 a) (.float .f32 (a - 1))).run Tryd.prog w = .ok (.float .f32 (powN32 (stepOf32 (a - 1)))) w := by
        intro t w
        have e := sub_next32 (a - 1) (by omega)
        rw [Nat.sub_add_cancel (by omega)] at e
        exact run_float_arith w .sub t .f32 _ _ _ e
      obtain ⟨b, hb⟩ : ∃ b, Hid (a - 1 = b) := ⟨_, rfl⟩
      rw [hb.out] at hsb HPV HU
      obtain ⟨p, hp⟩ : ∃ p, Hid (powN32 (stepOf32 b) = p) := ⟨_, rfl⟩
      rw [hp.out] at hsb HU
      clear he hfin hmx
      by_cases hs : 2147483648 ≤ x
      · rw [decide_eq_true ⟨hs, hx⟩] at hsg
        have hxa := hab.1 hs
        clear hab hs
        go_enter Tryd.func49, Tryd.ntmps49
        go_wp2_with fail
        refine (bits_any32 a _ HAL.out).mono ?_
        rw [HCA.out]
        rintro r w1 ⟨rfl, rfl⟩
        go_wp2_with fail
        refine (rprev32_any a _ HAL.out).mono ?_
        rw [HPV.out]
        rintro r w1 ⟨rfl, rfl⟩
        go_wp2_with fail
        go_ret
        exact ⟨ret_f32 HU.out, rfl⟩
      · rw [decide_eq_false (fun h => hs h.1)] at hsg
        obtain rfl : x = a := hab.2 hs
        clear hab hs
        go_enter Tryd.func49, Tryd.ntmps49
        go_wp2_with fail
        refine (bits_any32 x _ hx).mono ?_
        rw [HCA.out]
        rintro r w1 ⟨rfl, rfl⟩
        go_wp2_with fail
        refine (rprev32_any x _ hx).mono ?_
        rw [HPV.out]
        rintro r w1 ⟨rfl, rfl⟩
        go_wp2_with fail
        go_ret
        exact ⟨ret_f32 HU.out, rfl⟩
    · rw [decide_eq_false hmx] at hm
      have HU : Hid (powN32 (stepOf32 a) = ulpOf32 x) := by
        show powN32 (stepOf32 a) = ulpOf32 x
        unfold ulpOf32
        rw [if_neg he]
        congr 1
        unfold stepOf32
        rw [ha.out, Nat.mod_eq_of_lt (by omega)]
      have HNX : Hid (nextOf32 a = a + 1) := next_pos32 a hfin
      have hsb : ∀ t w, (binOp .sub t (.float .f32 (a + 1)) (.float .f32 a)).run Tryd.prog w = .ok (.float .f32 (powN32 (stepOf32 a))) w := fun t w =>
        run_float_arith w .sub t .f32 _ _ _ (sub_next32 a (by omega))
      obtain ⟨b, hb⟩ : ∃ b, Hid (a + 1 = b) := ⟨_, rfl⟩
      rw [hb.out] at hsb HNX
      obtain ⟨p, hp⟩ : ∃ p, Hid (powN32 (stepOf32 a) = p) := ⟨_, rfl⟩
      rw [hp.out] at hsb HU
      clear he hfin hmx
      by_cases hs : 2147483648 ≤ x
      · rw [decide_eq_true ⟨hs, hx⟩] at hsg
        have hxa := hab.1 hs
        clear hab hs
        go_enter Tryd.func49, Tryd.ntmps49
        go_wp2_with fail
        refine (bits_any32 a _ HAL.out).mono ?_
        rw [HCA.out]
        rintro r w1 ⟨rfl, rfl⟩
        go_wp2_with fail
        refine (rnext32_any a _ HAL.out).mono ?_
        rw [HNX.out]
        rintro r w1 ⟨rfl, rfl⟩
        go_wp2_with fail
        go_ret
        exact ⟨ret_f32 HU.out, rfl⟩
      · rw [decide_eq_false (fun h => hs h.1)] at hsg
        obtain rfl : x = a := hab.2 hs
        clear hab hs
        go_enter Tryd.func49, Tryd.ntmps49
        go_wp2_with fail
        refine (bits_any32 x _ hx).mono ?_
        rw [HCA.out]
        rintro r w1 ⟨rfl, rfl⟩
        go_wp2_with fail
        refine (rnext32_any x _ hx).mono ?_
        rw [HNX.out]
        rintro r w1 ⟨rfl, rfl⟩
        go_wp2_with fail
        go_ret
        exact ⟨ret_f32 HU.out, rfl⟩
end Go.Proofs.YtfeojdmffipinaaDoor
