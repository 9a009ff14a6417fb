/- What the law AnatomySteps answers. -/
import Derived.Test.YtcfbahaclmehaabDoorAwake
import Derived.Test.YtcfbahaclmehaabDoorPlaces
import Derived.Test.YtcfbahaclmehaabDoorNeigh
namespace Go.Proofs.YtcfbahaclmehaabDoor
open Go.RowKit Go.IntWalk

theorem sign_w (x : Nat) (hx : x < 18446744073709551616) : decide (wrap64 (x : Int) < 0) = decide (9223372036854775808 ≤ x) := by
  have e : wrap64 (x : Int) < 0 ↔ 9223372036854775808 ≤ x := by unfold wrap64; omega
  exact decide_eq_decide.2 e
set_option maxHeartbeats 400000 in
theorem signbit_any (x : Nat) (w : World) (hx : x < 18446744073709551616) :
    Calls Tryd.prog 20 #[.float .f64 x] w fun r w' => r = .returned (.bool (decide (9223372036854775808 ≤ x))) ∧ w' = w := by
  have h1 := f64bits
  go_enter Tryd.func20, Tryd.ntmps20
  go_wp2
  go_ret
  exact ⟨ret_bool (sign_w x hx), rfl⟩

set_option maxHeartbeats 1000000 in
theorem steps_early (x : Nat) (n : Int) (w : World) (h : 9218868437227405312 < x % 9223372036854775808 ∨ n < 0 ∨ 300 < n) (hx : x < 18446744073709551616) (hT : Tab w) (hs : 1 < w.heap.size) :
    Calls Tryd.prog 5 #[.int .u64 x, .int .i64 n] w fun r w' => r = .returned (.bool true) ∧ Below w.heap.size w w' := by
  have ho := order_self x hx
  by_cases h1 : 9218868437227405312 < x % 9223372036854775808
  · rw [decide_eq_true h1] at ho
    clear h h1
    go_enter Tryd.func5, Tryd.ntmps5
    go_wp2_with (first
      | (go_at_call 6; refine (f_any _ _).mono ?_; rintro e w' ⟨rfl, rfl⟩)
      | (go_at_call 8; refine (awake_any _ hT hs).mono ?_; rintro e w1 ⟨rfl, hb1⟩))
    go_ret
    exact ⟨rfl, hb1⟩
  · rw [decide_eq_false h1] at ho
    have h2 : n < 0 ∨ 300 < n := by rcases h with h | h; exact absurd h h1; exact h
    clear h h1
    rcases h2 with h2 | h2
    all_goals
      go_enter Tryd.func5, Tryd.ntmps5
      go_wp2_with (first
        | (go_at_call 6; refine (f_any _ _).mono ?_; rintro e w' ⟨rfl, rfl⟩)
        | (go_at_call 8; refine (awake_any _ hT hs).mono ?_; rintro e w1 ⟨rfl, hb1⟩))
      go_ret
      exact ⟨rfl, hb1⟩

set_option maxHeartbeats 1000000 in
theorem steps_over (x : Nat) (n : Nat) (w : World) (hx : x < 18446744073709551616) (hT : Tab w) (hs : 1 < w.heap.size) (h1 : ¬ 9218868437227405312 < x % 9223372036854775808) (hn : n ≤ 300) (hk : 9218868437227405312 - (n : Int) < keyOf x) :
    Calls Tryd.prog 5 #[.int .u64 x, .int .i64 n] w fun r w' => r = .returned (.bool true) ∧ Below w.heap.size w w' := by
  have ho := order_self x hx
  rw [decide_eq_false h1] at ho
  clear h1
  go_enter Tryd.func5, Tryd.ntmps5
  go_wp2_with (first
    | (go_at_call 6; refine (f_any _ _).mono ?_; rintro e w' ⟨rfl, rfl⟩)
    | (go_at_call 17; refine (key_any _ _ hx).mono ?_; rintro e w' ⟨rfl, rfl⟩)
    | (go_at_call 8; refine (awake_any _ hT hs).mono ?_; rintro e w1 ⟨rfl, hb1⟩))
  go_ret
  exact ⟨rfl, hb1⟩

theorem unkey_num (k : Int) (h1 : -9218868437227405313 ≤ k) (h2 : k ≤ 9218868437227405312) : keyOf (unkeyOf k) = k ∧ unkeyErr k = 0 ∧ unkeyOf k % 9223372036854775808 ≤ 9218868437227405312 ∧ canonOf (unkeyOf k) = unkeyOf k := by
  have e2 : unkeyErr k = 0 := by unfold unkeyErr; rw [if_neg (by omega)]
  have e1 : unkeyOf k = if k < 0 then (-1 - k).toNat + 9223372036854775808 else k.toNat := by unfold unkeyOf; rw [if_neg (by omega), if_neg (by omega)]
  rw [e1]
  by_cases h0 : k < 0
  · rw [if_pos h0]
    refine ⟨?_, e2, by omega, by unfold canonOf; rw [if_neg (by omega)]⟩
    rw [key_num _ (by omega), if_pos (by omega)]
    omega
  · rw [if_neg h0]
    refine ⟨?_, e2, by omega, by unfold canonOf; rw [if_neg (by omega)]⟩
    rw [key_num _ (by omega), if_neg (by omega)]
    omega
theorem key_inj (x y : Nat) (hx : x < 18446744073709551616) (hy : y < 18446744073709551616) (nx : x % 9223372036854775808 ≤ 9218868437227405312) (ny : y % 9223372036854775808 ≤ 9218868437227405312) (h : keyOf x = keyOf y) : x = y := by
  have := (canon_key x y hx hy).2 h
  unfold canonOf at this
  rwa [if_neg (by omega), if_neg (by omega)] at this

set_option maxHeartbeats 1000000 in
theorem steps_main (x : Nat) (n : Nat) (w : World) (hx : x < 18446744073709551616) (hT : Tab w) (hs : 1 < w.heap.size) (h1 : ¬ 9218868437227405312 < x % 9223372036854775808) (hn : n ≤ 300) (hk : keyOf x ≤ 9218868437227405312 - (n : Int)) :
    Calls Tryd.prog 5 #[.int .u64 x, .int .i64 n] w fun r w' => r = .returned (.bool true) ∧ Below w.heap.size w w' := by
  have ho := order_self x hx
  rw [decide_eq_false h1] at ho
  have bk := key_bd x
  obtain ⟨uk, ue, un, uc⟩ := unkey_num (keyOf x + (n : Int)) (by omega) (by omega)
  have HX : Hid (x % 9223372036854775808 ≤ 9218868437227405312) := by show x % 9223372036854775808 ≤ 9218868437227405312; omega
  obtain ⟨y, hy⟩ : ∃ y, Hid (unkeyOf (keyOf x + (n : Int)) = y) := ⟨_, rfl⟩
  have HYL : Hid (y < 18446744073709551616) := by show y < 18446744073709551616; rw [← hy.out]; exact unkey_lt _
  rw [hy.out] at uk un uc
  have HUK : Hid (keyOf y = keyOf x + (n : Int)) := uk
  have HUN : Hid (y % 9223372036854775808 ≤ 9218868437227405312) := un
  have HUC : Hid (canonOf y = y) := uc
  have HN1 : Hid (keyOf x ≠ 9218868437227405313) := by show keyOf x ≠ _; omega
  have HN2 : Hid (keyOf y ≠ 9218868437227405313) := by show keyOf y ≠ _; rw [uk]; omega
  have HS : Hid ((keyOf x - keyOf y).natAbs = n) := by show (keyOf x - keyOf y).natAbs = n; rw [uk]; omega
  have HUE : Hid (unkeyErr (keyOf x + (n : Int)) = 0) := ue
  have hne : ((n : Int) != IntKind.u64.wrap (n : Int)) = false := by rw [IntKind.wrap_u64]; simp; omega
  clear uk un uc ue h1
  go_enter Tryd.func5, Tryd.ntmps5
  go_wp2_with (first
    | (go_at_call 6; refine (f_any _ _).mono ?_; rintro e w' ⟨rfl, rfl⟩)
    | (go_at_call 17; refine (key_any _ _ hx).mono ?_; rintro e w' ⟨rfl, rfl⟩)
    | (go_at_call 18; refine (unkey_any (keyOf x + (n : Int)) _ (by omega) (by omega)).mono ?_; rw [hy.out, HUE.out]; rintro e w1 ⟨rfl, hb1⟩)
    | (go_at_call 19; refine (steps_num x y _ hx HYL.out HN1.out HN2.out).mono ?_; rw [HS.out]; rintro e w' ⟨rfl, rfl⟩)
    | (go_at_call 8; refine (awake_any _ (hT.below hs hb1) (Nat.lt_of_lt_of_le hs hb1.size)).mono ?_; rintro e w2 ⟨rfl, hb2⟩))
  go_loopw [5, 11] (fun a i wr => ∃ z k : Nat, k ≤ n ∧ i = .int .i64 k ∧ a = .float .f64 z ∧ Hid (z < 18446744073709551616 ∧ z % 9223372036854775808 ≤ 9218868437227405312 ∧ keyOf z = keyOf x + (k : Int)) ∧ Below w2.heap.size w2 wr) (fun _ i _ => n - (intOf i).toNat)
  case atStart => exact ⟨x, 0, Nat.zero_le _, rfl, rfl, ⟨hx, HX.out, by omega⟩, Below.refl _ _⟩
  case round =>
    obtain ⟨z, k, hkn, rfl, rfl, HZ, hbr⟩ := hrel
    by_cases hlt : k < n
    · have hoz := order_zero z HZ.out.1
      by_cases hz0 : z % 9223372036854775808 = 0
      · rw [decide_eq_true hz0] at hoz
        by_cases hsg : 9223372036854775808 ≤ z
        · have HZ2 : Hid (0 < 18446744073709551616 ∧ 0 % 9223372036854775808 ≤ 9218868437227405312 ∧ keyOf 0 = keyOf x + ((k + 1 : Nat) : Int)) := by
            have h3 := HZ.out.2.2
            rw [key_num z (by omega), if_pos hsg, hz0] at h3
            exact ⟨by omega, by omega, by rw [key_num 0 (by omega), if_neg (by omega)]; omega⟩
          have HSB : Hid (decide (9223372036854775808 ≤ z) = true) := decide_eq_true hsg
          clear hz0 hsg
          go_wp2_with (first | (go_at_call 20; refine (signbit_any z _ HZ.out.1).mono ?_; rw [HSB.out]; rintro e w' ⟨rfl, rfl⟩))
          go_roundw
          case rel => exact ⟨0, k + 1, by omega, by go_num, rfl, HZ2, hbr⟩
          case measure => simp [intOf]; omega
        · have HZ2 : Hid (nextOf z < 18446744073709551616 ∧ nextOf z % 9223372036854775808 ≤ 9218868437227405312 ∧ keyOf (nextOf z) = keyOf x + ((k + 1 : Nat) : Int)) := by
            obtain ⟨g1, g2, g3⟩ := HZ.out
            exact ⟨next_lt g1, next_num z g1 g2, by rw [key_next z g1 g2 (by omega) (by omega), g3]; omega⟩
          have HSB : Hid (decide (9223372036854775808 ≤ z) = false) := decide_eq_false hsg
          clear hz0 hsg
          go_wp2_with (first
            | (go_at_call 20; refine (signbit_any z _ HZ.out.1).mono ?_; rw [HSB.out]; rintro e w' ⟨rfl, rfl⟩)
            | (go_at_call 7; refine (Next_any z _ HZ.out.1).mono ?_; rintro e w3 ⟨rfl, hb3⟩))
          go_roundw
          case rel => exact ⟨nextOf z, k + 1, by omega, by go_num, rfl, HZ2, bl_then hbr hb3⟩
          case measure => simp [intOf]; omega
      · rw [decide_eq_false hz0] at hoz
        have HZ2 : Hid (nextOf z < 18446744073709551616 ∧ nextOf z % 9223372036854775808 ≤ 9218868437227405312 ∧ keyOf (nextOf z) = keyOf x + ((k + 1 : Nat) : Int)) := by
          obtain ⟨g1, g2, g3⟩ := HZ.out
          have hi : z ≠ 9218868437227405312 := by
            intro he
            rw [he] at g3
            have e : keyOf 9218868437227405312 = 9218868437227405312 := by decide
            rw [e] at g3
            omega
          exact ⟨next_lt g1, next_num z g1 g2, by rw [key_next z g1 g2 hi (by omega), g3]; omega⟩
        clear hz0
        go_wp2_with (first
          | (go_at_call 7; refine (Next_any z _ HZ.out.1).mono ?_; rintro e w3 ⟨rfl, hb3⟩))
        go_roundw
        case rel => exact ⟨nextOf z, k + 1, by omega, by go_num, rfl, HZ2, bl_then hbr hb3⟩
        case measure => simp [intOf]; omega
    · have HE : Hid ((z == canonOf y) = true) := by
        obtain ⟨g1, g2, g3⟩ := HZ.out
        show (z == canonOf y) = true
        rw [HUC.out, beq_iff_eq]
        apply key_inj z y g1 HYL.out g2 HUN.out
        rw [g3, HUK.out]
        omega
      go_wp2_with (first
        | (go_at_call 11; refine (same_any z y _ HYL.out).mono ?_; rw [HE.out]; rintro e w' ⟨rfl, rfl⟩))
      go_ret
      exact ⟨rfl, bl_then (bl_then hb1 hb2) hbr⟩

theorem steps_law (x : Nat) (n : Int) (w : World) (hx : x < 18446744073709551616) (_hn : -9223372036854775808 ≤ n ∧ n ≤ 9223372036854775807) (hT : Tab w) (hs : 1 < w.heap.size) :
    Calls Tryd.prog 5 #[.int .u64 x, .int .i64 n] w fun r w' => r = .returned (.bool true) ∧ Below w.heap.size w w' := by
  by_cases h : 9218868437227405312 < x % 9223372036854775808 ∨ n < 0 ∨ 300 < n
  · exact steps_early x n w h hx hT hs
  · obtain ⟨m, rfl⟩ := Int.eq_ofNat_of_zero_le (show 0 ≤ n by omega)
    by_cases hk : 9218868437227405312 - (m : Int) < keyOf x
    · exact steps_over x m w hx hT hs (by omega) (by omega) hk
    · exact steps_main x m w hx hT hs (by omega) (by omega) (by omega)
end Go.Proofs.YtcfbahaclmehaabDoor
