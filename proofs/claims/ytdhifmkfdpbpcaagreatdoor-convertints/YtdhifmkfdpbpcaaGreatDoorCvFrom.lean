
/- What convert's partsOfInt, fromWhole and FromInt do. -/
import Derived.Test.YtdhifmkfdpbpcaaGreatDoorCvInt
namespace Go.Proofs.YtdhifmkfdpbpcaaGreatDoor
open Go.RowKit Go.IntWalk

set_option maxHeartbeats 400000 in
theorem partsOfInt_pos (k : Nat) (w : World) (hk : k ≤ 9223372036854775807) :
    Calls Tryz.prog 34 #[.int .i64 k] w fun r w' => r = .returned (.agg #[.bool false, .int .u64 k, .int .i64 0]) ∧ Below w.heap.size w w' := by
  have hw : IntKind.u64.wrap (k : Int) = (k : Int) := by rw [IntKind.wrap_u64]; omega
  have h0 : (0 : Int) ≤ (k : Int) := by omega
  have H := hid hk
  clear hk
  go_enter Tryz.func34, Tryz.ntmps34
  go_wp2
  refine bodyPost_ret (v := .agg #[.bool false, .int .u64 k, .int .i64 0]) (by simp [results, Tryz.results34, go_sem]) rfl ⟨rfl, ?_⟩
  repeat (first | exact Below.refl _ _ | refine bl_al ?_ _ | refine bl_drewN _ ?_ | refine Below.drew ?_ | refine Below.setCell ?_ (by simp <;> omega) _)
set_option maxHeartbeats 400000 in
theorem partsOfInt_neg (k : Nat) (w : World) (hk0 : 0 < k) (hk : k ≤ 9223372036854775808) :
    Calls Tryz.prog 34 #[.int .i64 (-(k : Int))] w fun r w' => r = .returned (.agg #[.bool true, .int .u64 k, .int .i64 0]) ∧ Below w.heap.size w w' := by
  obtain ⟨V, hV⟩ : ∃ V : Int, Hid (18446744073709551616 - (k : Int) = V) := ⟨_, rfl⟩
  have hw : IntKind.u64.wrap (-(k : Int)) = V := by have := hV.out; rw [IntKind.wrap_u64]; omega
  have hw2 : IntKind.u64.wrap (-V) = (k : Int) := by have := hV.out; rw [IntKind.wrap_u64]; omega
  have h0 : -(k : Int) < 0 := by omega
  have H := hid hk
  have H0 := hid hk0
  clear hk hk0
  go_enter Tryz.func34, Tryz.ntmps34
  go_wp2
  refine bodyPost_ret (v := .agg #[.bool true, .int .u64 k, .int .i64 0]) (by simp [results, Tryz.results34, go_sem]) rfl ⟨rfl, ?_⟩
  repeat (first | exact Below.refl _ _ | refine bl_al ?_ _ | refine bl_drewN _ ?_ | refine Below.drew ?_ | refine Below.setCell ?_ (by simp <;> omega) _)

set_option maxHeartbeats 400000 in
theorem fromWhole64_core (neg : Bool) (m X : Nat) (e mode Y : Int) (w : World) (hm1 : 0 ≤ mode) (hm2 : mode ≤ 4) (hT : Tab w) (hs : 1 < w.heap.size)
    (h : ∀ w, Tab w → 1 < w.heap.size → Calls Tryz.prog 82 #[.agg #[.bool neg, .int .u64 m, .int .i64 e], .agg #[.int .i64 53, .int .i64 (-1022), .int .i64 1023], .int .i64 mode] w fun r w' => r = .returned (.tuple #[.float .f64 X, .int .i64 Y]) ∧ Below w.heap.size w w') :
    Calls Tryz.prog 33 #[.agg #[.bool neg, .int .u64 m, .int .i64 e], .agg #[.int .i64 53, .int .i64 (-1022), .int .i64 1023], .int .i64 mode] w fun r w' => r = .returned (.tuple #[.float .f64 X, .int .i64 Y, .int .i64 0]) ∧ Below w.heap.size w w' := by
  have hk : decide (0 ≤ mode ∧ mode ≤ 4) = true := decide_eq_true ⟨hm1, hm2⟩
  have H := hid h
  clear h hm1 hm2
  go_enter Tryz.func33, Tryz.ntmps33
  go_wp2_with fail
  refine (known_any mode _).mono ?_
  rintro r w1 ⟨rfl, rfl⟩
  rw [hk]
  clear hk
  go_wp2_with fail
  refine (H.out _ ?_ ?_).mono ?_
  · refine hT.below hs ?_
    repeat (first | exact Below.refl _ _ | refine bl_al ?_ _)
  · first | (simp; done) | (simp; omega)
  rintro r w2 ⟨rfl, hb⟩
  go_wp2
  go_ret3
  refine ⟨rfl, bl_then ?_ hb⟩
  repeat (first | exact Below.refl _ _ | refine bl_al ?_ _)
set_option maxHeartbeats 400000 in
theorem FromInt_core (n : Int) (neg : Bool) (m X : Nat) (mode Y : Int) (w : World) (hm1 : 0 ≤ mode) (hm2 : mode ≤ 4) (hT : Tab w) (hs : 1 < w.heap.size)
    (hp : ∀ w, Calls Tryz.prog 34 #[.int .i64 n] w fun r w' => r = .returned (.agg #[.bool neg, .int .u64 m, .int .i64 0]) ∧ Below w.heap.size w w')
    (h : ∀ w, Tab w → 1 < w.heap.size → Calls Tryz.prog 82 #[.agg #[.bool neg, .int .u64 m, .int .i64 0], .agg #[.int .i64 53, .int .i64 (-1022), .int .i64 1023], .int .i64 mode] w fun r w' => r = .returned (.tuple #[.float .f64 X, .int .i64 Y]) ∧ Below w.heap.size w w') :
    Calls Tryz.prog 6 #[.int .i64 n, .int .i64 mode] w fun r w' => r = .returned (.tuple #[.float .f64 X, .int .i64 Y, .int .i64 0]) ∧ Below w.heap.size w w' := by
  have H := hid (fun (w : World) hT hs => fromWhole64_core neg m X 0 mode Y w hm1 hm2 hT hs h)
  have HP := hid hp
  clear h hm1 hm2 hp
  go_enter Tryz.func6, Tryz.ntmps6
  go_wp2_with fail
  refine (HP.out _).mono ?_
  rintro r w1 ⟨rfl, hb1⟩
  go_wp2_with fail
  refine (binary64_any _).mono ?_
  rintro r w2 ⟨rfl, hb2⟩
  go_wp2_with fail
  refine (H.out _ (hT.below hs (bl_then hb1 hb2)) (Nat.lt_of_lt_of_le hs (bl_then hb1 hb2).size)).mono ?_
  rintro r w3 ⟨rfl, hb3⟩
  go_wp2
  go_ret3
  exact ⟨rfl, bl_then (bl_then hb1 hb2) hb3⟩

set_option maxHeartbeats 400000 in
theorem stepsOf_nil (neg : Bool) (mode : Int) (w : World) :
    Calls Tryz.prog 50 #[.agg #[.bool neg, .int .u64 0, .int .i64 0], .int .i64 (-53), .int .i64 mode] w fun r w' => r = .returned (.tuple #[.int .u64 0, .int .i64 0]) ∧ Below w.heap.size w w' := by
  have HC := hid (fun (w : World) => cut_low neg 0 53 0 w (by decide) (by decide))
  go_enter Tryz.func50, Tryz.ntmps50
  go_wp2_with fail
  refine (HC.out _).mono ?_
  rintro r w1 ⟨rfl, hb⟩
  go_wp2
  go_ret2
  exact ⟨rfl, bl_alloc hb⟩
theorem len_zero (w : World) : Calls Tryz.prog 123 #[.int .u64 0] w fun r w' => r = .returned (.int .i64 0) ∧ w' = w := len_l 0 0 w (by decide) bitLen_zero
set_option maxHeartbeats 400000 in
theorem round64_nil (neg : Bool) (mode : Int) (w : World) (hT : Tab w) (hs : 1 < w.heap.size) :
    Calls Tryz.prog 82 #[.agg #[.bool neg, .int .u64 0, .int .i64 0], .agg #[.int .i64 53, .int .i64 (-1022), .int .i64 1023], .int .i64 mode] w fun r w' => r = .returned (.tuple #[.float .f64 (signN neg 0), .int .i64 0]) ∧ Below w.heap.size w w' := by
  have HO := hid (fun (w : World) hT hs => Of_good64 neg 0 (-53) w (by decide) (by decide) (by rw [bitLen_zero]; decide) hT hs)
  have hw0 : wMag 0 (-53) = 0 := by unfold wMag; rw [if_pos rfl]
  rw [hw0] at HO
  go_enter Tryz.func82, Tryz.ntmps82
  go_wp2_with fail
  go_quiet (first | (go_at_call 123; exact Calls.quiet_of_same (len_zero _)))
  go_wp2_with fail
  refine (stepsOf_nil neg mode _).mono ?_
  rintro r w1 ⟨rfl, hb⟩
  obtain ⟨hcl, hf⟩ := bcell hb
  have hz : w.heap.size + 1 < w1.heap.size := by have := hb.size; simp at this; omega
  have hcells : (w1.cell? ⟨w.heap.size, 0, none⟩ = some (.bool neg) ∧ w1.cell? ⟨w.heap.size + 1, 0, none⟩ = some (.int .i64 53) ∧ w1.cell? ⟨w.heap.size + 1, 1, none⟩ = some (.int .i64 (-1022)) ∧ w1.cell? ⟨w.heap.size + 1, 2, none⟩ = some (.int .i64 1023)) := by
    refine ⟨?_, ?_, ?_, ?_⟩ <;> (rw [hcl _ _ (by simp <;> omega)]; simp [go_sem])
  obtain ⟨c0, c1, c2, c3⟩ := hcells
  have hbb : Hid (Below w.heap.size w w1) := by
    refine bl_then ?_ hb
    repeat (first | exact Below.refl _ _ | refine bl_al ?_ _ | refine bl_drewN _ ?_ | refine Below.drew ?_ | refine Below.setCell ?_ (by simp) _)
  clear hcl hf hb
  go_wp2_with fail
  go_quiet (first | (go_at_call 123; exact Calls.quiet_of_same (len_zero _)))
  go_wp2_with fail
  refine (HO.out _ (hT.below hs (bl_drewN _ hbb.out)) ?_).mono ?_
  · have := hbb.out.size; first | (simp; omega) | omega
  rintro r w2 ⟨rfl, hb2⟩
  go_wp2
  go_ret2
  exact ⟨rfl, bl_then (bl_drewN _ hbb.out) hb2⟩
end Go.Proofs.YtdhifmkfdpbpcaaGreatDoor
