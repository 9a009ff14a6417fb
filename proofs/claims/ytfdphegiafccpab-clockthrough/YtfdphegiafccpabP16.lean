
/- Chapter 13's first examples. -/
import Derived.Test.YtfdphegiafccpabP15
namespace Go.Proofs.Ytfdphegiafccpab
open Go.RowKit Go.IntWalk

set_option maxHeartbeats 2000000 in
theorem awake13_any (w : World) :
    Calls Try.prog 6 #[] w fun r w' => r = .returned (.bool true) ∧ Below w.heap.size w w' := by
  have HK := hid (fun W => @ckbox w W 100 3 2)
  have HT : Hid (∀ W, Calls Try.prog 9 #[.agg #[.int .i64 100, .int .i64 3, .int .i64 2], .int .i64 5] W fun r w' => r = .returned (.tuple #[.int .i64 107, .int .i64 0]) ∧ Below W.heap.size W w') := fun W => by
    have := Time_any 100 3 2 5 W (by decide) (by decide)
    rw [show tmV 100 3 2 5 = 107 by decide, show tmE 100 3 2 5 = 0 by decide] at this
    exact this
  have HC : Hid (∀ W, Calls Try.prog 12 #[.agg #[.int .i64 100, .int .i64 3, .int .i64 2], .int .i64 108] W fun r w' => r = .returned (.tuple #[.int .i64 6, .int .i64 0]) ∧ Below W.heap.size W w') := fun W => by
    have := Count_any 100 3 2 108 W
    rw [show cnV 100 3 2 108 = 6 by decide, show cnE 100 3 2 108 = 0 by decide] at this
    exact this
  have HU : Hid (∀ W, Calls Try.prog 7 #[.int .i64 4294967290, .int .u32 5] W fun r w' => r = .returned (.tuple #[.int .i64 4294967301, .int .i64 0]) ∧ w' = W) := fun W => by
    have := Unwrap_any 4294967290 5 W
    rw [show unV 4294967290 5 = 4294967301 by decide, show unE 4294967290 5 = 0 by decide] at this
    exact this
  obtain ⟨W0, hW0⟩ : ∃ V, Hid (w.alloc (CBox 100 3 2) = V) := ⟨_, rfl⟩
  rw [hW0.out] at HK
  obtain ⟨⟨c0, c1, c2⟩, _⟩ := HK.out W0 (Below.refl _ _)
  unfold CBox at hW0
  have hW0' := hW0.out
  go_enter Try.func6, Try.ntmps6
  go_wp2_with fail
  refine (HT.out _).mono ?_
  rintro e w1 ⟨rfl, hb⟩
  have HB := hid hb
  obtain ⟨⟨c0, c1, c2⟩, _⟩ := HK.out w1 hb
  clear hb
  go_wp2_with fail
  refine (HC.out _).mono ?_
  rintro e w2 ⟨rfl, hb⟩
  have HB2 := hid (HB.out.trans (hb.mono HB.out.size))
  clear hb
  go_wp2_with fail
  refine (HU.out _).mono ?_
  rintro e w3 ⟨rfl, hw⟩
  rw [hw]
  clear hw
  go_wp2
  go_ret
  exact ⟨rfl, (HK.out _ HB2.out).2⟩
end Go.Proofs.Ytfdphegiafccpab
