/- What the law AnatomyNear answers. -/
import Derived.Test.YtcfbahaclmehaabDoorNearWalk
namespace Go.Proofs.YtcfbahaclmehaabDoor
open Go.RowKit Go.IntWalk

theorem sv_max : sv 9218868437227405311 = (nv 9218868437227405311 : Int) := sv_pos _ (by omega)
theorem inf_test (x : Nat) (hx : x < 18446744073709551616) (nx : x % 9223372036854775808 ≤ 9218868437227405312) : (FloatKind.f64.format.order x 9218868437227405311 == some .gt) = decide (x = 9218868437227405312) := by
  rw [order_gt x _ hx (by omega) nx (by omega), sv_max]
  apply decide_eq_decide.2
  by_cases h : 9223372036854775808 ≤ x
  · rw [sv_neg x h hx]
    constructor
    · intro h2; omega
    · intro h2; omega
  · rw [sv_pos x (by omega)]
    constructor
    · intro h2
      apply Classical.byContradiction
      intro h3
      have := nv_le (r := x) (s := 9218868437227405311) (by omega)
      omega
    · intro h2
      have := nv_lt (r := 9218868437227405311) (s := x) (by omega)
      omega
theorem xor_flip (x : Nat) (hx : x < 18446744073709551616) : x ^^^ 9223372036854775808 = flipOf x := by
  have h := u64_xor_nat x 9223372036854775808 hx (by omega)
  have h2 := xor_sign x hx
  have h3 : ((x ^^^ 9223372036854775808 : Nat) : Int) = (flipOf x : Int) := by rw [← h2, ← h]; rfl
  omega
theorem order_refl (x : Nat) (hx : x < 18446744073709551616) (nx : x % 9223372036854775808 ≤ 9218868437227405312) : (FloatKind.f64.format.order x x == some .eq) = true := by
  rw [order_eq' x x hx hx nx nx]; exact decide_eq_true rfl

set_option maxHeartbeats 1000000 in
theorem near_nan (x y : Nat) (w : World) (hx : x < 18446744073709551616) (hT : Tab w) (hs : 1 < w.heap.size) (h : 9218868437227405312 < x % 9223372036854775808) :
    Calls Tryd.prog 3 #[.int .u64 x, .int .u64 y] w fun r w' => r = .returned (.bool true) ∧ Below w.heap.size w w' := by
  have ho := order_self x hx
  rw [decide_eq_true h] at ho
  have ho2 : (FloatKind.f64.format.order 9221120237041090561 9221120237041090561 != some .eq) = true := by decide
  have HNX : Hid (nextOf x = 9221120237041090561) := by
    have hc : canonOf x = 9221120237041090561 := by unfold canonOf; rw [if_pos h]
    show nextOf x = _
    unfold nextOf
    rw [hc, if_pos (Or.inl rfl)]
  clear h
  go_enter Tryd.func3, Tryd.ntmps3
  go_wp2_with (first | (go_at_call 6; refine (f_any _ _).mono ?_; rintro e w' ⟨rfl, rfl⟩))
  refine (Next_any x _ hx).mono ?_
  rw [HNX.out]
  rintro e w1 ⟨rfl, hb1⟩
  go_wp2_with fail
  refine (awake_any _ (hT.below hs hb1) (Nat.lt_of_lt_of_le hs hb1.size)).mono ?_
  rintro e w2 ⟨rfl, hb2⟩
  go_wp2_with fail
  have hb12 := bl_then hb1 hb2
  refine (awake_any _ (hT.below hs hb12) (Nat.lt_of_lt_of_le hs hb12.size)).mono ?_
  rintro e w3 ⟨rfl, hb3⟩
  go_wp2_with fail
  go_ret
  exact ⟨rfl, bl_then hb12 hb3⟩

set_option maxHeartbeats 1000000 in
theorem near_inf (x y : Nat) (w : World) (hT : Tab w) (hs : 1 < w.heap.size) (h : x = 9218868437227405312) :
    Calls Tryd.prog 3 #[.int .u64 x, .int .u64 y] w fun r w' => r = .returned (.bool true) ∧ Below w.heap.size w w' := by
  have hx : x < 18446744073709551616 := by omega
  have ho := order_self x hx
  rw [decide_eq_false (by omega)] at ho
  have hi := inf_test x hx (by omega)
  rw [decide_eq_true h] at hi
  have HNX : Hid (nextOf x = x) := by show nextOf x = x; rw [h]; exact next_inf
  clear h
  go_enter Tryd.func3, Tryd.ntmps3
  go_wp2_with (first | (go_at_call 6; refine (f_any _ _).mono ?_; rintro e w' ⟨rfl, rfl⟩))
  refine (Next_any x _ hx).mono ?_
  rw [HNX.out]
  rintro e w1 ⟨rfl, hb1⟩
  go_wp2_with fail
  refine (awake_any _ (hT.below hs hb1) (Nat.lt_of_lt_of_le hs hb1.size)).mono ?_
  rintro e w2 ⟨rfl, hb2⟩
  go_wp2_with (first | (go_at_call 9; refine (isinf_pos _ _).mono ?_; rintro e w' ⟨rfl, rfl⟩))
  go_ret
  exact ⟨rfl, bl_then hb1 hb2⟩

-- The walk where a is a number below +infinity: the facts that the tests ask, each by its own.
set_option maxHeartbeats 2000000 in
theorem near_core (x y N B : Nat) (w : World) (hx : x < 18446744073709551616) (hN : N < 18446744073709551616) (hT : Tab w) (hs : 1 < w.heap.size)
    (hnx : nextOf x = N) (hpv : prevOf N = B)
    (ho : (FloatKind.f64.format.order x x != some .eq) = false) (hi : (FloatKind.f64.format.order x 9218868437227405311 == some .gt) = false)
    (hg : (FloatKind.f64.format.order N x == some .gt) = true) (hbt : FloatKind.f64.format.order x y = some .lt → FloatKind.f64.format.order y N = some .lt → False)
    (hbk : (FloatKind.f64.format.order B x == some .eq) = true) (hz : (FloatKind.f64.format.order x 0 == some .eq) = true ∨ (FloatKind.f64.format.order x 0 == some .eq) = false ∧ (B == canonOf x) = true)
    (hend : (FloatKind.f64.format.order N 9218868437227405311 == some .gt) = true ∨ (FloatKind.f64.format.order (x ^^^ 9223372036854775808) 9218868437227405311 == some .gt) = true ∨ (FloatKind.f64.format.order x 0 == some .eq) = true ∨
      ∃ u k P : Nat, (∀ t w, (binOp .sub t (.float .f64 N) (.float .f64 x)).run Tryd.prog w = .ok (.float .f64 P) w) ∧ (∀ w, Calls Tryd.prog 13 #[.float .f64 (x % 9223372036854775808), .float .f64 (N % 9223372036854775808)] w fun r w' => r = .returned (.float .f64 u) ∧ w' = w) ∧
        u < 18446744073709551616 ∧ expOf u < 2047 ∧ max (expOf u) 1 = k + 1 ∧ powN k = P ∧ (FloatKind.f64.format.order P P == some .eq) = true) :
    Calls Tryd.prog 3 #[.int .u64 x, .int .u64 y] w fun r w' => r = .returned (.bool true) ∧ Below w.heap.size w w' := by
  have HNX := hid hnx
  have HPV := hid hpv
  have HBT := hid hbt
  have HEND := hid hend
  have HZ := hid hz
  clear hnx hpv hbt hend hz
  go_enter Tryd.func3, Tryd.ntmps3
  go_wp2_with (first | (go_at_call 6; refine (f_any _ _).mono ?_; rintro e w' ⟨rfl, rfl⟩))
  refine (Next_any x _ hx).mono ?_
  rw [HNX.out]
  rintro e w1 ⟨rfl, hb1⟩
  go_wp2_with fail
  refine (awake_any _ (hT.below hs hb1) (Nat.lt_of_lt_of_le hs hb1.size)).mono ?_
  rintro e w2 ⟨rfl, hb2⟩
  go_wp2_with (first | (go_at_call 9; refine (isinf_pos _ _).mono ?_; rintro e w' ⟨rfl, rfl⟩))
  · exact (HBT.out ‹_› (eq_of_beq ‹(FloatKind.f64.format.order y N == some Ordering.lt) = true›)).elim
  all_goals
    refine (Prev_any N _ hN).mono ?_
    rw [HPV.out]
    rintro e w3 ⟨rfl, hb3⟩
    have hB3 : Hid (Below _ _ w3) := bl_then (bl_then hb1 hb2) hb3
    rcases HZ.out with hz | ⟨hz, hsm⟩
    · go_wp2_with (first
        | (go_at_call_of 9 (Value.float FloatKind.f64 N); refine (isinf_pos _ _).mono ?_; rintro e w' ⟨rfl, rfl⟩)
        | (go_at_call_of 9 (Value.float FloatKind.f64 x); refine (isinf_neg _ _).mono ?_; rintro e w' ⟨rfl, rfl⟩))
      all_goals (go_ret; exact ⟨rfl, hB3.out⟩)
    · rcases HEND.out with he | he | he | ⟨u, k, P, hsb, hmn, hu, hue, huk, hP, hpp⟩
      · go_wp2_with (first
          | (go_at_call 11; refine (same_any B x _ hx).mono ?_; rw [hsm]; rintro e w' ⟨rfl, rfl⟩)
          | (go_at_call_of 9 (Value.float FloatKind.f64 N); refine (isinf_pos _ _).mono ?_; rintro e w' ⟨rfl, rfl⟩))
        all_goals (go_ret; exact ⟨rfl, hB3.out⟩)
      · go_wp2_with (first
          | (go_at_call 11; refine (same_any B x _ hx).mono ?_; rw [hsm]; rintro e w' ⟨rfl, rfl⟩)
          | (go_at_call_of 9 (Value.float FloatKind.f64 N); refine (isinf_pos _ _).mono ?_; rintro e w' ⟨rfl, rfl⟩)
          | (go_at_call_of 9 (Value.float FloatKind.f64 x); refine (isinf_neg _ _).mono ?_; rintro e w' ⟨rfl, rfl⟩))
        all_goals (go_ret; exact ⟨rfl, hB3.out⟩)
      · rw [he] at hz; cases hz
      · have HMN := hid hmn
        have HU := hid hu
        have HUE := hid hue
        have HUK := hid huk
        have HP := hid hP
        have HSM := hid hsm
        clear hmn hu hue huk hP hsm
        have hT3 : Hid (Tab w3) := hT.below hs hB3.out
        have hs3 : Hid (1 < w3.heap.size) := Nat.lt_of_lt_of_le hs hB3.out.size
        go_wp2_with (first
          | (go_at_call 11; refine (same_any B x _ hx).mono ?_; rw [HSM.out]; rintro e w' ⟨rfl, rfl⟩)
          | (go_at_call_of 9 (Value.float FloatKind.f64 N); refine (isinf_pos _ _).mono ?_; rintro e w' ⟨rfl, rfl⟩)
          | (go_at_call_of 9 (Value.float FloatKind.f64 x); refine (isinf_neg _ _).mono ?_; rintro e w' ⟨rfl, rfl⟩)
          | (go_at_call 14; refine (abs_any _ _ ?_).mono ?_; assumption; rintro e w' ⟨rfl, rfl⟩)
          | (go_at_call 13; refine (HMN.out _).mono ?_; rintro e w' ⟨rfl, rfl⟩)
          | (go_at_call 12; refine (Ulp_fin u k _ HU.out HUE.out HUK.out hT3.out hs3.out).mono ?_; rw [HP.out]; rintro e w4 ⟨rfl, hb4⟩))
        all_goals first
          | (go_ret; exact ⟨rfl, hB3.out⟩)
          | (go_ret; exact ⟨rfl, bl_then hB3.out hb4⟩)
end Go.Proofs.YtcfbahaclmehaabDoor
