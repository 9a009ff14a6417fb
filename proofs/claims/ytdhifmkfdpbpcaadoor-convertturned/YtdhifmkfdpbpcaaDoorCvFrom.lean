
/- What convert's partsOfInt, fromWhole and FromInt do. -/
import Derived.Test.YtdhifmkfdpbpcaaDoorCvInt
namespace Go.Proofs.YtdhifmkfdpbpcaaDoor
open Go.RowKit Go.IntWalk

set_option maxHeartbeats 400000 in
theorem stepsOf_nil (neg : Bool) (mode : Int) (w : World) :
    Calls Tryd.prog 81 #[.agg #[.bool neg, .int .u64 0, .int .i64 0], .int .i64 (-53), .int .i64 mode] w fun r w' => r = .returned (.tuple #[.int .u64 0, .int .i64 0]) ∧ Below w.heap.size w w' := by
  have HC := hid (fun (w : World) => cut_low neg 0 53 0 w (by decide) (by decide))
  go_enter Tryd.func81, Tryd.ntmps81
  go_wp2_with fail
  refine (HC.out _).mono ?_
  rintro r w1 ⟨rfl, hb⟩
  go_wp2
  go_ret2
  exact ⟨rfl, bl_alloc hb⟩
theorem len_zero (w : World) : Calls Tryd.prog 80 #[.int .u64 0] w fun r w' => r = .returned (.int .i64 0) ∧ w' = w := len_l 0 0 w (by decide) bitLen_zero
set_option maxHeartbeats 400000 in
theorem round64_nil (neg : Bool) (mode : Int) (w : World) (hT : Tab w) (hs : 1 < w.heap.size) :
    Calls Tryd.prog 59 #[.agg #[.bool neg, .int .u64 0, .int .i64 0], .agg #[.int .i64 53, .int .i64 (-1022), .int .i64 1023], .int .i64 mode] w fun r w' => r = .returned (.tuple #[.float .f64 (signN neg 0), .int .i64 0]) ∧ Below w.heap.size w w' := by
  have HO := hid (fun (w : World) hT hs => Of_good64 neg 0 (-53) w (by decide) (by decide) (by rw [bitLen_zero]; decide) hT hs)
  have hw0 : wMag 0 (-53) = 0 := by unfold wMag; rw [if_pos rfl]
  rw [hw0] at HO
  go_enter Tryd.func59, Tryd.ntmps59
  go_wp2_with fail
  go_quiet (first | (go_at_call 80; exact Calls.quiet_of_same (len_zero _)))
  go_wp2_with fail
  refine (stepsOf_nil neg mode _).mono ?_
  rintro r w1 ⟨rfl, hb⟩
  obtain ⟨hcl, hf⟩ := bcell hb
  have hz : w.heap.size + 1 < w1.heap.size := by have := hb.size; simp at this; omega
  have hcells : (w1.cell? ⟨w.heap.size, 0, none⟩ = some (.bool neg) ∧ w1.cell? ⟨w.heap.size + 1, 0, none⟩ = some (.int .i64 53) ∧ w1.cell? ⟨w.heap.size + 1, 1, none⟩ = some (.int .i64 (-1022)) ∧ w1.cell? ⟨w.heap.size + 1, 2, none⟩ = some (.int .i64 1023)) := by
    refine ⟨?_, ?_, ?_, ?_⟩ <;> (rw [hcl _ _ (by simp <;> omega)]; simp [go_sem])
  obtain ⟨c0, c1, c2, c3⟩ := hcells
  have hbb : Hid (Below w.heap.size w w1) := by
    refine bl_then ?_ hb
    repeat (first | exact Below.refl _ _ | refine bl_al ?_ _ | refine bl_drewN _ ?_ | refine Below.drew ?_ | refine Below.setCell ?_ (by simp) _)
  clear hcl hf hb
  go_wp2_with fail
  go_quiet (first | (go_at_call 80; exact Calls.quiet_of_same (len_zero _)))
  go_wp2_with fail
  refine (HO.out _ (hT.below hs (bl_drewN _ hbb.out)) ?_).mono ?_
  · have := hbb.out.size; first | (simp; omega) | omega
  rintro r w2 ⟨rfl, hb2⟩
  go_wp2
  go_ret2
  exact ⟨rfl, bl_then (bl_drewN _ hbb.out) hb2⟩
end Go.Proofs.YtdhifmkfdpbpcaaDoor
