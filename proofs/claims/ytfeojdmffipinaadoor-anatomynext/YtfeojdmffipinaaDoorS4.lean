
/- What next, prev and ulp do with singles. -/
import Derived.Test.YtfeojdmffipinaaDoorS2
import Derived.Test.YtfeojdmffipinaaDoorS3
namespace Go.Proofs.YtfeojdmffipinaaDoor
open Go.RowKit Go.IntWalk

open Go.RowKit

set_option maxHeartbeats 400000 in
theorem next64_any32 (x : Nat) (w : World) (hx : x < 4294967296) :
    Calls Tryd.prog 91 #[.agg #[.int .i64 23, .int .u32 8388607, .int .u32 255, .int .u32 2147483648, .int .u32 2139095040, .int .u32 2143289344, .int .i64 150], .int .u32 x] w fun e w' => e = .returned (.int .u32 (nextOf32 x)) ∧ Below w.heap.size w w' := by
  have HL : Hid (canonOf32 x < 4294967296) := canon_lt32 hx
  have HC : Hid (canonOf32 x = 2143289344 ∨ canonOf32 x % 2147483648 ≤ 2139095040) := canon_cases32 x
  obtain ⟨c, hc⟩ : ∃ c, Hid (canonOf32 x = c) := ⟨_, rfl⟩
  rw [hc.out] at HL HC
  go_enter Tryd.func91, Tryd.ntmps91
  go_wp2_with fail
  refine (canon_any32 x _ hx).mono ?_
  rintro e w1 ⟨rfl, hb⟩
  rw [hc.out]
  obtain ⟨hcl, hf⟩ := bcell hb
  go_wp2
  all_goals go_ret
  · first | exact ⟨ret_int (next_w132 hc.out ‹_›), bl_alloc hb⟩ | exact ⟨ret_int (by rw [← next_w132 hc.out ‹_›]; exact Eq.symm ‹_›), bl_alloc hb⟩
  · exact ⟨ret_int (next_w232 hc.out ‹_›), bl_alloc hb⟩
  · exact ⟨ret_int (next_w332 hc.out ‹_›), bl_alloc hb⟩
  · exact ⟨ret_int (next_w432 hc.out HL.out ‹_› ‹_› ‹_›), bl_alloc hb⟩
  · exact ⟨ret_int (next_w532 hc.out HL.out HC.out ‹_› ‹_› ‹_›), bl_alloc hb⟩

set_option maxHeartbeats 400000 in
theorem Next_any32 (x : Nat) (w : World) (hx : x < 4294967296) :
    Calls Tryd.prog 44 #[.float .f32 x] w fun r w' => r = .returned (.float .f32 (nextOf32 x)) ∧ Below w.heap.size w w' := by
  have h1 := f64bits32
  have h2 := f64from32
  go_enter Tryd.func44, Tryd.ntmps44
  go_wp2_with fail
  refine (layout64_any32 _).mono ?_
  rintro r w1 ⟨rfl, hb⟩
  go_wp2_with fail
  refine (next64_any32 x _ hx).mono ?_
  rintro r w2 ⟨rfl, hb2⟩
  go_wp2_with fail
  go_ret
  exact ⟨rfl, bl_then hb hb2⟩

set_option maxHeartbeats 400000 in
theorem prev64_nan32 (x : Nat) (w : World) (hx : x < 4294967296) (hn : canonOf32 x = 2143289344) :
    Calls Tryd.prog 92 #[.agg #[.int .i64 23, .int .u32 8388607, .int .u32 255, .int .u32 2147483648, .int .u32 2139095040, .int .u32 2143289344, .int .i64 150], .int .u32 x] w fun e w' => e = .returned (.int .u32 2143289344) ∧ Below w.heap.size w w' := by
  have HN : Hid (canonOf32 x = 2143289344) := hn
  clear hn
  go_enter Tryd.func92, Tryd.ntmps92
  go_wp2_with fail
  refine (canon_any32 x _ hx).mono ?_
  rintro e w1 ⟨rfl, hb⟩
  rw [HN.out]
  obtain ⟨hcl, hf⟩ := bcell hb
  go_wp2
  go_ret
  exact ⟨rfl, bl_alloc hb⟩
set_option maxHeartbeats 400000 in
theorem prev64_num32 (x : Nat) (w : World) (hx : x < 4294967296) (hn : canonOf32 x ≠ 2143289344) :
    Calls Tryd.prog 92 #[.agg #[.int .i64 23, .int .u32 8388607, .int .u32 255, .int .u32 2147483648, .int .u32 2139095040, .int .u32 2143289344, .int .i64 150], .int .u32 x] w fun e w' => e = .returned (.int .u32 (flipOf32 (nextOf32 (flipOf32 (canonOf32 x))))) ∧ Below w.heap.size w w' := by
  have HL : Hid (canonOf32 x < 4294967296) := canon_lt32 hx
  obtain ⟨c, hc⟩ : ∃ c, Hid (canonOf32 x = c) := ⟨_, rfl⟩
  rw [hc.out] at HL hn ⊢
  have hn' : ((c : Int) == 2143289344) = false := by simp; omega
  have hx1 := xor_sign32 c HL.out
  have HF : Hid (flipOf32 c < 4294967296) := flip_lt32 HL.out
  obtain ⟨d, hd⟩ : ∃ d, Hid (flipOf32 c = d) := ⟨_, rfl⟩
  rw [hd.out] at HF hx1 ⊢
  have hx2 := xor_sign32 (nextOf32 d) (next_lt32 HF.out)
  clear hn
  go_enter Tryd.func92, Tryd.ntmps92
  go_wp2_with fail
  refine (canon_any32 x _ hx).mono ?_
  rintro e w1 ⟨rfl, hb⟩
  rw [hc.out]
  obtain ⟨hcl, hf⟩ := bcell hb
  have hcells : (w1.cell? ⟨w.heap.size, 0, none⟩ = some (.int .i64 23) ∧ w1.cell? ⟨w.heap.size, 1, none⟩ = some (.int .u32 8388607) ∧ w1.cell? ⟨w.heap.size, 2, none⟩ = some (.int .u32 255) ∧ w1.cell? ⟨w.heap.size, 3, none⟩ = some (.int .u32 2147483648) ∧ w1.cell? ⟨w.heap.size, 4, none⟩ = some (.int .u32 2139095040) ∧ w1.cell? ⟨w.heap.size, 5, none⟩ = some (.int .u32 2143289344) ∧ w1.cell? ⟨w.heap.size, 6, none⟩ = some (.int .i64 150)) := by
    refine ⟨?_, ?_, ?_, ?_, ?_, ?_, ?_⟩ <;> (rw [hcl _ _ (by simp)]; simp [go_sem])
  have hz : w.heap.size < w1.heap.size := by have := hb.size; simp at this; omega
  have hbb : Hid (Below w.heap.size w w1) := bl_alloc hb
  clear hcl hf hb
  obtain ⟨q0, q1, q2, q3, q4, q5, q6⟩ := hcells
  go_wp2_with fail
  go_region_held3 (fun w' => (w'.cell? ⟨w.heap.size, 0, none⟩ = some (.int .i64 23) ∧ w'.cell? ⟨w.heap.size, 1, none⟩ = some (.int .u32 8388607) ∧ w'.cell? ⟨w.heap.size, 2, none⟩ = some (.int .u32 255) ∧ w'.cell? ⟨w.heap.size, 3, none⟩ = some (.int .u32 2147483648) ∧ w'.cell? ⟨w.heap.size, 4, none⟩ = some (.int .u32 2139095040) ∧ w'.cell? ⟨w.heap.size, 5, none⟩ = some (.int .u32 2143289344) ∧ w'.cell? ⟨w.heap.size, 6, none⟩ = some (.int .i64 150))) (go_keep)
    (first | (go_at_call 91; refine (next64_any32 d _ HF.out).mono ?_; rintro r w' ⟨rfl, hb⟩; obtain ⟨hc2, hf2⟩ := bcell hb; have hS : (w'.cell? ⟨w.heap.size, 0, none⟩ = some (.int .i64 23) ∧ w'.cell? ⟨w.heap.size, 1, none⟩ = some (.int .u32 8388607) ∧ w'.cell? ⟨w.heap.size, 2, none⟩ = some (.int .u32 255) ∧ w'.cell? ⟨w.heap.size, 3, none⟩ = some (.int .u32 2147483648) ∧ w'.cell? ⟨w.heap.size, 4, none⟩ = some (.int .u32 2139095040) ∧ w'.cell? ⟨w.heap.size, 5, none⟩ = some (.int .u32 2143289344) ∧ w'.cell? ⟨w.heap.size, 6, none⟩ = some (.int .i64 150)) := (by refine ⟨?_, ?_, ?_, ?_, ?_, ?_, ?_⟩ <;> (rw [hc2 _ _ (by simp; omega)]; simp [go_sem, q0, q1, q2, q3, q4, q5, q6])); obtain ⟨s0, s1, s2, s3, s4, s5, s6⟩ := hS; clear hc2 hf2))
  go_wp2
  go_ret
  exact ⟨rfl, bl_then (Below.drew hbb.out) hb⟩

theorem prev64_any32 (x : Nat) (w : World) (hx : x < 4294967296) :
    Calls Tryd.prog 92 #[.agg #[.int .i64 23, .int .u32 8388607, .int .u32 255, .int .u32 2147483648, .int .u32 2139095040, .int .u32 2143289344, .int .i64 150], .int .u32 x] w fun e w' => e = .returned (.int .u32 (prevOf32 x)) ∧ Below w.heap.size w w' := by
  unfold prevOf32
  by_cases h : canonOf32 x = 2143289344
  · rw [if_pos h]; exact prev64_nan32 x w hx h
  · rw [if_neg h]; exact prev64_num32 x w hx h
set_option maxHeartbeats 400000 in
theorem Prev_any32 (x : Nat) (w : World) (hx : x < 4294967296) :
    Calls Tryd.prog 46 #[.float .f32 x] w fun r w' => r = .returned (.float .f32 (prevOf32 x)) ∧ Below w.heap.size w w' := by
  have h1 := f64bits32
  have h2 := f64from32
  go_enter Tryd.func46, Tryd.ntmps46
  go_wp2_with fail
  refine (layout64_any32 _).mono ?_
  rintro r w1 ⟨rfl, hb⟩
  go_wp2_with fail
  refine (prev64_any32 x _ hx).mono ?_
  rintro r w2 ⟨rfl, hb2⟩
  go_wp2_with fail
  go_ret
  exact ⟨rfl, bl_then hb hb2⟩
set_option maxHeartbeats 400000 in
theorem ulp_top32 (x : Nat) (w : World) (hx : x < 4294967296) (he : expOf32 x = 255) :
    Calls Tryd.prog 93 #[.agg #[.int .i64 23, .int .u32 8388607, .int .u32 255, .int .u32 2147483648, .int .u32 2139095040, .int .u32 2143289344, .int .i64 150], .int .u32 x] w fun r w' => r = .returned (.int .u32 ((canonOf32 x % 2147483648 : Nat) : Int)) ∧ Below w.heap.size w w' := by
  have HE := hid he
  have hA := andNot_sign32 (canonOf32 x) (canon_lt32 hx)
  obtain ⟨c, hc⟩ : ∃ c, Hid (canonOf32 x % 2147483648 = c) := ⟨_, rfl⟩
  rw [hc.out] at hA ⊢
  clear he
  go_enter Tryd.func93, Tryd.ntmps93
  go_wp2_with fail
  refine (split64_any32 x _ hx).mono ?_
  rw [HE.out]
  rintro r w1 ⟨rfl, hb⟩
  obtain ⟨hcl, hf⟩ := bcell hb
  have hcells : (w1.cell? ⟨w.heap.size, 0, none⟩ = some (.int .i64 23) ∧ w1.cell? ⟨w.heap.size, 1, none⟩ = some (.int .u32 8388607) ∧ w1.cell? ⟨w.heap.size, 2, none⟩ = some (.int .u32 255) ∧ w1.cell? ⟨w.heap.size, 3, none⟩ = some (.int .u32 2147483648) ∧ w1.cell? ⟨w.heap.size, 4, none⟩ = some (.int .u32 2139095040) ∧ w1.cell? ⟨w.heap.size, 5, none⟩ = some (.int .u32 2143289344) ∧ w1.cell? ⟨w.heap.size, 6, none⟩ = some (.int .i64 150)) := by
    refine ⟨?_, ?_, ?_, ?_, ?_, ?_, ?_⟩ <;> (rw [hcl _ _ (by simp)]; simp [go_sem])
  have hz : w.heap.size < w1.heap.size := by have := hb.size; simp at this; omega
  have hbb : Hid (Below w.heap.size w w1) := bl_alloc hb
  clear hcl hf hb
  obtain ⟨q0, q1, q2, q3, q4, q5, q6⟩ := hcells
  go_wp2_with fail
  go_region_held3 (fun w' => (w'.cell? ⟨w.heap.size, 0, none⟩ = some (.int .i64 23) ∧ w'.cell? ⟨w.heap.size, 1, none⟩ = some (.int .u32 8388607) ∧ w'.cell? ⟨w.heap.size, 2, none⟩ = some (.int .u32 255) ∧ w'.cell? ⟨w.heap.size, 3, none⟩ = some (.int .u32 2147483648) ∧ w'.cell? ⟨w.heap.size, 4, none⟩ = some (.int .u32 2139095040) ∧ w'.cell? ⟨w.heap.size, 5, none⟩ = some (.int .u32 2143289344) ∧ w'.cell? ⟨w.heap.size, 6, none⟩ = some (.int .i64 150))) (go_keep)
    (first | (go_at_call 83; refine (canon_eq32 x _ hx).mono ?_; rintro r w' ⟨rfl, rfl⟩))
  go_wp2
  go_ret
  refine ⟨rfl, ?_⟩
  repeat (first | exact hbb.out | refine bl_al ?_ _ | refine bl_drewN _ ?_ | refine Below.drew ?_)
end Go.Proofs.YtfeojdmffipinaaDoor
