/- What the law AnatomyKeys answers. -/
import Derived.Test.YtcfbahaclmehaaaDoorAwake
import Derived.Test.YtcfbahaclmehaaaDoorRefKeys
namespace Go.Proofs.YtcfbahaclmehaaaDoor
open Go.RowKit

theorem canon_unkey (k : Int) : (unkeyOf k == canonOf (unkeyOf k)) = true := by
  rw [beq_iff_eq]
  unfold canonOf unkeyOf
  split
  · rfl
  · split
    · rfl
    · split
      · rw [if_neg (by omega)]
      · rw [if_neg (by omega)]

set_option maxHeartbeats 1000000 in
theorem keys_law (x y : Nat) (k : Int) (w : World) (hx : x < 18446744073709551616) (hy : y < 18446744073709551616) (hk : -9223372036854775808 ≤ k ∧ k ≤ 9223372036854775807) (hT : Tab w) (hs : 1 < w.heap.size) :
    Calls Tryd.prog 7 #[.int .u64 x, .int .u64 y, .int .i64 k] w fun r w' => r = .returned (.bool true) ∧ Below w.heap.size w w' := by
  have hU := canon_unkey k
  have HK1 : Hid (-9223372036854775808 ≤ k) := hk.1
  have HK2 : Hid (k ≤ 9223372036854775807) := hk.2
  clear hk
  by_cases hn : keyOf x = 9218868437227405313 ∨ keyOf y = 9218868437227405313
  · have HN : Hid (keyOf x = 9218868437227405313 ∨ keyOf y = 9218868437227405313) := hn
    clear hn
    go_enter Tryd.func7, Tryd.ntmps7
    go_wp2_with (first
      | (go_at_call 9; refine (f_any _ _).mono ?_; rintro e w' ⟨rfl, rfl⟩)
      | (go_at_call 55; refine (unkey_any k _ HK1.out HK2.out).mono ?_; rintro e w1 ⟨rfl, hb1⟩)
      | (go_at_call 56; refine (runkey_any k _ HK1.out HK2.out).mono ?_; rintro e w' ⟨rfl, rfl⟩)
      | (go_at_call 57; refine (steps_nan x y _ hx hy HN.out).mono ?_; rintro e w' ⟨rfl, rfl⟩)
      | (go_at_call 58; refine (rsteps_nan x y _ hx hy HN.out).mono ?_; rintro e w' ⟨rfl, rfl⟩)
      | (go_at_call 59; refine (key_any x _ hx).mono ?_; rintro e w' ⟨rfl, rfl⟩)
      | (go_at_call 60; refine (rkey_any x _ hx).mono ?_; rintro e w' ⟨rfl, rfl⟩)
      | (go_at_call 16; refine (same_any _ _ _ (unkey_lt k)).mono ?_; rintro e w' ⟨rfl, rfl⟩)
      | (go_at_call 61; refine (compare_any x y _ hx hy).mono ?_; rintro e w' ⟨rfl, rfl⟩)
      | (go_at_call 62; refine (rcompare_any x y _ hx hy).mono ?_; rintro e w' ⟨rfl, rfl⟩)
      | (go_at_call 22; refine (awake_any _ (hT.below hs hb1) (Nat.lt_of_lt_of_le hs hb1.size)).mono ?_; rintro e w2 ⟨rfl, hb2⟩))
    go_ret
    exact ⟨rfl, bl_then hb1 hb2⟩
  · have HN1 : Hid (keyOf x ≠ 9218868437227405313) := fun h => hn (Or.inl h)
    have HN2 : Hid (keyOf y ≠ 9218868437227405313) := fun h => hn (Or.inr h)
    clear hn
    go_enter Tryd.func7, Tryd.ntmps7
    go_wp2_with (first
      | (go_at_call 9; refine (f_any _ _).mono ?_; rintro e w' ⟨rfl, rfl⟩)
      | (go_at_call 55; refine (unkey_any k _ HK1.out HK2.out).mono ?_; rintro e w1 ⟨rfl, hb1⟩)
      | (go_at_call 56; refine (runkey_any k _ HK1.out HK2.out).mono ?_; rintro e w' ⟨rfl, rfl⟩)
      | (go_at_call 57; refine (steps_num x y _ hx hy HN1.out HN2.out).mono ?_; rintro e w' ⟨rfl, rfl⟩)
      | (go_at_call 58; refine (rsteps_num x y _ hx hy HN1.out HN2.out).mono ?_; rintro e w' ⟨rfl, rfl⟩)
      | (go_at_call 59; refine (key_any x _ hx).mono ?_; rintro e w' ⟨rfl, rfl⟩)
      | (go_at_call 60; refine (rkey_any x _ hx).mono ?_; rintro e w' ⟨rfl, rfl⟩)
      | (go_at_call 16; refine (same_any _ _ _ (unkey_lt k)).mono ?_; rintro e w' ⟨rfl, rfl⟩)
      | (go_at_call 61; refine (compare_any x y _ hx hy).mono ?_; rintro e w' ⟨rfl, rfl⟩)
      | (go_at_call 62; refine (rcompare_any x y _ hx hy).mono ?_; rintro e w' ⟨rfl, rfl⟩)
      | (go_at_call 22; refine (awake_any _ (hT.below hs hb1) (Nat.lt_of_lt_of_le hs hb1.size)).mono ?_; rintro e w2 ⟨rfl, hb2⟩))
    go_ret
    exact ⟨rfl, bl_then hb1 hb2⟩
end Go.Proofs.YtcfbahaclmehaaaDoor
