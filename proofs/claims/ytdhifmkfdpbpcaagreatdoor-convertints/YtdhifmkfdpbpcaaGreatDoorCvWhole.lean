
/- What convert's Whole and wholeOf do. -/
import Derived.Test.YtdhifmkfdpbpcaaGreatDoorCvTop
namespace Go.Proofs.YtdhifmkfdpbpcaaGreatDoor
open Go.RowKit Go.IntWalk

theorem ret_fii {a a' : Nat} {b b' c c' : Int} (h0 : a = a') (h1 : b = b') (h2 : c = c') : Ending.returned (.tuple #[.float .f64 a, .int .i64 b, .int .i64 c]) = .returned (.tuple #[.float .f64 a', .int .i64 b', .int .i64 c']) := by rw [h0, h1, h2]
set_option maxHeartbeats 400000 in
theorem Whole_plain (x : Nat) (mode : Int) (w : World) (hx : x < 18446744073709551616) (hm1 : 0 ≤ mode) (hm2 : mode ≤ 4) (h : pErr x ≠ 0 ∨ 0 ≤ pExp x) (hT : Tab w) (hs : 1 < w.heap.size) :
    Calls Tryz.prog 15 #[.float .f64 x, .int .i64 mode] w fun r w' => r = .returned (.tuple #[.float .f64 (canonOf x), .int .i64 0, .int .i64 0]) ∧ Below w.heap.size w w' := by
  have hk : decide (0 ≤ mode ∧ mode ≤ 4) = true := decide_eq_true ⟨hm1, hm2⟩
  have HP := hid (fun (w : World) => Parts_any x w hx)
  obtain ⟨N, HN⟩ : ∃ N, Hid (pNeg x = N) := ⟨_, rfl⟩
  obtain ⟨M, HM⟩ : ∃ M, Hid (pMant x = M) := ⟨_, rfl⟩
  obtain ⟨E, HE⟩ : ∃ E, Hid (pExp x = E) := ⟨_, rfl⟩
  obtain ⟨R, HR⟩ : ∃ R, Hid (pErr x = R) := ⟨_, rfl⟩
  rw [HN.out, HM.out, HE.out, HR.out] at HP
  rw [HE.out, HR.out] at h
  clear hm1 hm2
  by_cases hR : R = 0
  · have hE : 0 ≤ E := by
      rcases h with h | h
      · exact absurd hR h
      · exact h
    subst hR
    clear h
    go_enter Tryz.func15, Tryz.ntmps15
    go_wp2_with fail
    refine (known_any mode _).mono ?_
    rintro e w1 ⟨rfl, rfl⟩
    rw [hk]
    clear hk
    go_wp2_with fail
    refine (HP.out _ hT hs).mono ?_
    rintro r w1 ⟨rfl, hb⟩
    go_wp2_with fail
    refine (Canon_any x _ hx).mono ?_
    rintro r w2 ⟨rfl, hb2⟩
    go_wp2
    go_ret3
    exact ⟨rfl, bl_then (bl_al hb _) hb2⟩
  · have hR0 : (R != 0) = true := by simpa using hR
    have HRN := hid hR
    clear hR h
    go_enter Tryz.func15, Tryz.ntmps15
    go_wp2_with fail
    refine (known_any mode _).mono ?_
    rintro e w1 ⟨rfl, rfl⟩
    rw [hk]
    clear hk
    go_wp2_with fail
    refine (HP.out _ hT hs).mono ?_
    rintro r w1 ⟨rfl, hb⟩
    go_wp2_with fail
    refine (Canon_any x _ hx).mono ?_
    rintro r w2 ⟨rfl, hb2⟩
    go_wp2
    go_ret3
    exact ⟨rfl, bl_then (bl_al hb _) hb2⟩
set_option maxHeartbeats 400000 in
theorem wholeOf_core (x X : Nat) (width mode Y : Int) (w : World) (hw : width = 8 ∨ width = 16 ∨ width = 32 ∨ width = 64)
    (h : Calls Tryz.prog 15 #[.float .f64 x, .int .i64 mode] w fun r w' => r = .returned (.tuple #[.float .f64 X, .int .i64 Y, .int .i64 0]) ∧ Below w.heap.size w w') :
    Calls Tryz.prog 61 #[.float .f64 x, .int .i64 width, .int .i64 mode] w fun r w' => r = .returned (.tuple #[.float .f64 X, .int .i64 Y, .int .i64 0]) ∧ Below w.heap.size w w' := by
  have H := hid h
  clear h
  rcases hw with rfl | rfl | rfl | rfl
  all_goals
    go_enter Tryz.func61, Tryz.ntmps61
    go_wp2_with fail
    refine H.out.mono ?_
    rintro r w1 ⟨rfl, hb⟩
    go_wp2
    go_ret3
    exact ⟨rfl, hb⟩
set_option maxHeartbeats 400000 in
theorem isnan_any (x : Nat) (w : World) (hx : x < 18446744073709551616) :
    Calls Tryz.prog 62 #[.float .f64 x] w fun r w' => r = .returned (.bool (decide (9218868437227405312 < x % 9223372036854775808))) ∧ w' = w := by
  have h := order_self x hx
  obtain ⟨b, hb⟩ : ∃ b, Hid (decide (9218868437227405312 < x % 9223372036854775808) = b) := ⟨_, rfl⟩
  rw [hb.out] at h ⊢
  go_enter Tryz.func62, Tryz.ntmps62
  go_wp2
  go_ret
  exact ⟨rfl, rfl⟩
end Go.Proofs.YtdhifmkfdpbpcaaGreatDoor
