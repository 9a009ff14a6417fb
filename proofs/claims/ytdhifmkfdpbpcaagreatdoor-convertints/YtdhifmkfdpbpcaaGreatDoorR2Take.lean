
/- What the document's formats, Known, None, IsZero and Take do. -/
import Derived.Test.YtdhifmkfdpbpcaaGreatDoorR2Doc
namespace Go.Proofs.YtdhifmkfdpbpcaaGreatDoor
open Go.RowKit Go.IntWalk

set_option maxHeartbeats 400000 in
theorem Single_any (w : World) :
    Calls Tryz.prog 42 #[] w fun e w' => e = .returned (.agg #[.int .i64 24, .int .i64 (-126), .int .i64 127, .int .i64 8]) ∧ Below w.heap.size w w' := by
  go_enter Tryz.func42, Tryz.ntmps42
  go_wp2
  exact bodyPost_ret (v := .agg #[.int .i64 24, .int .i64 (-126), .int .i64 127, .int .i64 8]) (by simp [results, Tryz.results42, go_sem]) rfl ⟨rfl, (Below.refl _ _).alloc (Nat.le_refl _) _⟩
set_option maxHeartbeats 400000 in
theorem Double_any (w : World) :
    Calls Tryz.prog 37 #[] w fun e w' => e = .returned (.agg #[.int .i64 53, .int .i64 (-1022), .int .i64 1023, .int .i64 11]) ∧ Below w.heap.size w w' := by
  go_enter Tryz.func37, Tryz.ntmps37
  go_wp2
  exact bodyPost_ret (v := .agg #[.int .i64 53, .int .i64 (-1022), .int .i64 1023, .int .i64 11]) (by simp [results, Tryz.results37, go_sem]) rfl ⟨rfl, (Below.refl _ _).alloc (Nat.le_refl _) _⟩
set_option maxHeartbeats 400000 in
theorem Known_any (mode : Int) (w : World) :
    Calls Tryz.prog 53 #[.int .i64 mode] w fun e w' => e = .returned (.bool (decide (0 ≤ mode ∧ mode ≤ 4))) ∧ w' = w := by
  by_cases h1 : 0 ≤ mode
  · by_cases h2 : mode ≤ 4
    · rw [decide_eq_true ⟨h1, h2⟩]
      go_enter Tryz.func53, Tryz.ntmps53
      go_wp2
      go_ret
      exact ⟨rfl, rfl⟩
    · rw [decide_eq_false (fun c => h2 c.2)]
      go_enter Tryz.func53, Tryz.ntmps53
      go_wp2
      go_ret
      exact ⟨rfl, rfl⟩
  · rw [decide_eq_false (fun c => h1 c.1)]
    go_enter Tryz.func53, Tryz.ntmps53
    go_wp2
    go_ret
    exact ⟨rfl, rfl⟩
set_option maxHeartbeats 400000 in
theorem None64_any (w : World) :
    Calls Tryz.prog 98 #[.agg #[.int .i64 53, .int .i64 (-1022), .int .i64 1023, .int .i64 11]] w fun e w' => e = .returned (.int .u64 9221120237041090561) ∧ Below w.heap.size w w' := by
  go_enter Tryz.func98, Tryz.ntmps98
  go_wp2
  go_ret
  exact ⟨rfl, (Below.refl _ _).alloc (Nat.le_refl _) _⟩
set_option maxHeartbeats 400000 in
theorem None32_any (w : World) :
    Calls Tryz.prog 98 #[.agg #[.int .i64 24, .int .i64 (-126), .int .i64 127, .int .i64 8]] w fun e w' => e = .returned (.int .u64 2143289344) ∧ Below w.heap.size w w' := by
  go_enter Tryz.func98, Tryz.ntmps98
  go_wp2
  go_ret
  exact ⟨rfl, (Below.refl _ _).alloc (Nat.le_refl _) _⟩
set_option maxHeartbeats 400000 in
theorem IsZero_any (kind : Int) (neg : Bool) (z m bd : Nat) (e : Int) (w : World) (h : NumAt w z m bd) :
    Calls Tryz.prog 55 #[.agg #[.int .i64 kind, .bool neg, .pointer (some ⟨z, 0, none⟩), .int .i64 e]] w fun r w' => r = .returned (.bool (decide (kind = 0) && decide (m = 0))) ∧ Below w.heap.size w w' := by
  have HS : Hid (∀ W, NumAt W z m bd → Calls Tryz.prog 58 #[.pointer (some ⟨z, 0, none⟩)] W fun r w' => r = .returned (.int .i64 (if m = 0 then 0 else 1)) ∧ w' = W) := fun W h => by
    have := NSign z m bd W h
    rw [sgnZ_nat] at this
    exact this
  have HN := hid h
  clear h
  by_cases hk : kind = 0
  · subst hk
    by_cases hm : m = 0
    · rw [if_pos hm] at HS
      rw [decide_eq_true hm]
      clear hm
      go_enter Tryz.func55, Tryz.ntmps55
      go_wp2_with fail
      refine (HS.out _ (HN.out.al _)).mono ?_
      rintro r w1 ⟨rfl, rfl⟩
      go_wp2
      go_ret
      exact ⟨rfl, al_below _ _⟩
    · rw [if_neg hm] at HS
      rw [decide_eq_false hm]
      clear hm
      go_enter Tryz.func55, Tryz.ntmps55
      go_wp2_with fail
      refine (HS.out _ (HN.out.al _)).mono ?_
      rintro r w1 ⟨rfl, rfl⟩
      go_wp2
      go_ret
      exact ⟨rfl, al_below _ _⟩
  · rw [decide_eq_false hk, Bool.false_and]
    have hkb : (kind == 0) = false := by simpa using hk
    clear hk
    go_enter Tryz.func55, Tryz.ntmps55
    go_wp2
    go_ret
    exact ⟨rfl, al_below _ _⟩
end Go.Proofs.YtdhifmkfdpbpcaaGreatDoor
