
/- What next, Next, prev and Prev do. -/
import Derived.Test.YtdahhpimhmloiaaDoorP2
import Derived.Test.YtdahhpimhmloiaaDoorP19
namespace Go.Proofs.YtdahhpimhmloiaaDoor
open Go.RowKit

set_option maxHeartbeats 400000 in
theorem next64_any (x : Nat) (w : World) (hx : x < 18446744073709551616) :
    Calls Tryd.prog 82 #[.agg #[.int .i64 52, .int .u64 4503599627370495, .int .u64 2047, .int .u64 9223372036854775808, .int .u64 9218868437227405312, .int .u64 9221120237041090561, .int .i64 1075], .int .u64 x] w fun e w' => e = .returned (.int .u64 (nextOf x)) ∧ Below w.heap.size w w' := by
  have HL : Hid (canonOf x < 18446744073709551616) := canon_lt hx
  have HC : Hid (canonOf x = 9221120237041090561 ∨ canonOf x % 9223372036854775808 ≤ 9218868437227405312) := canon_cases x
  obtain ⟨c, hc⟩ : ∃ c, Hid (canonOf x = c) := ⟨_, rfl⟩
  rw [hc.out] at HL HC
  go_enter Tryd.func82, Tryd.ntmps82
  go_wp2_with fail
  refine (canon_any x _ hx).mono ?_
  rintro e w1 ⟨rfl, hb⟩
  rw [hc.out]
  obtain ⟨hcl, hf⟩ := bcell hb
  go_wp2
  all_goals go_ret
  · first | exact ⟨ret_int (next_w1 hc.out ‹_›), bl_alloc hb⟩ | exact ⟨ret_int (by rw [← next_w1 hc.out ‹_›]; exact Eq.symm ‹_›), bl_alloc hb⟩
  · exact ⟨ret_int (next_w2 hc.out ‹_›), bl_alloc hb⟩
  · exact ⟨ret_int (next_w3 hc.out ‹_›), bl_alloc hb⟩
  · exact ⟨ret_int (next_w4 hc.out HL.out ‹_› ‹_› ‹_›), bl_alloc hb⟩
  · exact ⟨ret_int (next_w5 hc.out HL.out HC.out ‹_› ‹_› ‹_›), bl_alloc hb⟩

set_option maxHeartbeats 400000 in
theorem Next_any (x : Nat) (w : World) (hx : x < 18446744073709551616) :
    Calls Tryd.prog 73 #[.float .f64 x] w fun r w' => r = .returned (.float .f64 (nextOf x)) ∧ Below w.heap.size w w' := by
  have h1 := f64bits
  have h2 := f64from
  go_enter Tryd.func73, Tryd.ntmps73
  go_wp2_with fail
  refine (layout64_any _).mono ?_
  rintro r w1 ⟨rfl, hb⟩
  go_wp2_with fail
  refine (next64_any x _ hx).mono ?_
  rintro r w2 ⟨rfl, hb2⟩
  go_wp2_with fail
  go_ret
  exact ⟨rfl, bl_then hb hb2⟩

set_option maxHeartbeats 400000 in
theorem prev64_nan (x : Nat) (w : World) (hx : x < 18446744073709551616) (hn : canonOf x = 9221120237041090561) :
    Calls Tryd.prog 84 #[.agg #[.int .i64 52, .int .u64 4503599627370495, .int .u64 2047, .int .u64 9223372036854775808, .int .u64 9218868437227405312, .int .u64 9221120237041090561, .int .i64 1075], .int .u64 x] w fun e w' => e = .returned (.int .u64 9221120237041090561) ∧ Below w.heap.size w w' := by
  have HN : Hid (canonOf x = 9221120237041090561) := hn
  clear hn
  go_enter Tryd.func84, Tryd.ntmps84
  go_wp2_with fail
  refine (canon_any x _ hx).mono ?_
  rintro e w1 ⟨rfl, hb⟩
  rw [HN.out]
  obtain ⟨hcl, hf⟩ := bcell hb
  go_wp2
  go_ret
  exact ⟨rfl, bl_alloc hb⟩
set_option maxHeartbeats 400000 in
theorem prev64_num (x : Nat) (w : World) (hx : x < 18446744073709551616) (hn : canonOf x ≠ 9221120237041090561) :
    Calls Tryd.prog 84 #[.agg #[.int .i64 52, .int .u64 4503599627370495, .int .u64 2047, .int .u64 9223372036854775808, .int .u64 9218868437227405312, .int .u64 9221120237041090561, .int .i64 1075], .int .u64 x] w fun e w' => e = .returned (.int .u64 (flipOf (nextOf (flipOf (canonOf x))))) ∧ Below w.heap.size w w' := by
  have HL : Hid (canonOf x < 18446744073709551616) := canon_lt hx
  obtain ⟨c, hc⟩ : ∃ c, Hid (canonOf x = c) := ⟨_, rfl⟩
  rw [hc.out] at HL hn ⊢
  have hn' : ((c : Int) == 9221120237041090561) = false := by simp; omega
  have hx1 := xor_sign c HL.out
  have HF : Hid (flipOf c < 18446744073709551616) := flip_lt HL.out
  obtain ⟨d, hd⟩ : ∃ d, Hid (flipOf c = d) := ⟨_, rfl⟩
  rw [hd.out] at HF hx1 ⊢
  have hx2 := xor_sign (nextOf d) (next_lt HF.out)
  clear hn
  go_enter Tryd.func84, Tryd.ntmps84
  go_wp2_with fail
  refine (canon_any x _ hx).mono ?_
  rintro e w1 ⟨rfl, hb⟩
  rw [hc.out]
  obtain ⟨hcl, hf⟩ := bcell hb
  have hcells : (w1.cell? ⟨w.heap.size, 0, none⟩ = some (.int .i64 52) ∧ w1.cell? ⟨w.heap.size, 1, none⟩ = some (.int .u64 4503599627370495) ∧ w1.cell? ⟨w.heap.size, 2, none⟩ = some (.int .u64 2047) ∧ w1.cell? ⟨w.heap.size, 3, none⟩ = some (.int .u64 9223372036854775808) ∧ w1.cell? ⟨w.heap.size, 4, none⟩ = some (.int .u64 9218868437227405312) ∧ w1.cell? ⟨w.heap.size, 5, none⟩ = some (.int .u64 9221120237041090561) ∧ w1.cell? ⟨w.heap.size, 6, none⟩ = some (.int .i64 1075)) := by
    refine ⟨?_, ?_, ?_, ?_, ?_, ?_, ?_⟩ <;> (rw [hcl _ _ (by simp)]; simp [go_sem])
  have hz : w.heap.size < w1.heap.size := by have := hb.size; simp at this; omega
  have hbb : Hid (Below w.heap.size w w1) := bl_alloc hb
  clear hcl hf hb
  obtain ⟨q0, q1, q2, q3, q4, q5, q6⟩ := hcells
  go_wp2_with fail
  go_region_held3 (fun w' => (w'.cell? ⟨w.heap.size, 0, none⟩ = some (.int .i64 52) ∧ w'.cell? ⟨w.heap.size, 1, none⟩ = some (.int .u64 4503599627370495) ∧ w'.cell? ⟨w.heap.size, 2, none⟩ = some (.int .u64 2047) ∧ w'.cell? ⟨w.heap.size, 3, none⟩ = some (.int .u64 9223372036854775808) ∧ w'.cell? ⟨w.heap.size, 4, none⟩ = some (.int .u64 9218868437227405312) ∧ w'.cell? ⟨w.heap.size, 5, none⟩ = some (.int .u64 9221120237041090561) ∧ w'.cell? ⟨w.heap.size, 6, none⟩ = some (.int .i64 1075))) (go_keep)
    (first | (go_at_call 82; refine (next64_any d _ HF.out).mono ?_; rintro r w' ⟨rfl, hb⟩; obtain ⟨hc2, hf2⟩ := bcell hb; have hS : (w'.cell? ⟨w.heap.size, 0, none⟩ = some (.int .i64 52) ∧ w'.cell? ⟨w.heap.size, 1, none⟩ = some (.int .u64 4503599627370495) ∧ w'.cell? ⟨w.heap.size, 2, none⟩ = some (.int .u64 2047) ∧ w'.cell? ⟨w.heap.size, 3, none⟩ = some (.int .u64 9223372036854775808) ∧ w'.cell? ⟨w.heap.size, 4, none⟩ = some (.int .u64 9218868437227405312) ∧ w'.cell? ⟨w.heap.size, 5, none⟩ = some (.int .u64 9221120237041090561) ∧ w'.cell? ⟨w.heap.size, 6, none⟩ = some (.int .i64 1075)) := (by refine ⟨?_, ?_, ?_, ?_, ?_, ?_, ?_⟩ <;> (rw [hc2 _ _ (by simp; omega)]; simp [go_sem, q0, q1, q2, q3, q4, q5, q6])); obtain ⟨s0, s1, s2, s3, s4, s5, s6⟩ := hS; clear hc2 hf2))
  go_wp2
  go_ret
  exact ⟨rfl, bl_then (Below.drew hbb.out) hb⟩

theorem prev64_any (x : Nat) (w : World) (hx : x < 18446744073709551616) :
    Calls Tryd.prog 84 #[.agg #[.int .i64 52, .int .u64 4503599627370495, .int .u64 2047, .int .u64 9223372036854775808, .int .u64 9218868437227405312, .int .u64 9221120237041090561, .int .i64 1075], .int .u64 x] w fun e w' => e = .returned (.int .u64 (prevOf x)) ∧ Below w.heap.size w w' := by
  unfold prevOf
  by_cases h : canonOf x = 9221120237041090561
  · rw [if_pos h]; exact prev64_nan x w hx h
  · rw [if_neg h]; exact prev64_num x w hx h
set_option maxHeartbeats 400000 in
theorem Prev_any (x : Nat) (w : World) (hx : x < 18446744073709551616) :
    Calls Tryd.prog 75 #[.float .f64 x] w fun r w' => r = .returned (.float .f64 (prevOf x)) ∧ Below w.heap.size w w' := by
  have h1 := f64bits
  have h2 := f64from
  go_enter Tryd.func75, Tryd.ntmps75
  go_wp2_with fail
  refine (layout64_any _).mono ?_
  rintro r w1 ⟨rfl, hb⟩
  go_wp2_with fail
  refine (prev64_any x _ hx).mono ?_
  rintro r w2 ⟨rfl, hb2⟩
  go_wp2_with fail
  go_ret
  exact ⟨rfl, bl_then hb hb2⟩
end Go.Proofs.YtdahhpimhmloiaaDoor
