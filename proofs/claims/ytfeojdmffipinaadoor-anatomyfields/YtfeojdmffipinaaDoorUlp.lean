
/- What ulp and Ulp do. -/
import Derived.Test.YtfeojdmffipinaaDoorWord
namespace Go.Proofs.YtfeojdmffipinaaDoor
open Go.RowKit

theorem word_one (k : Nat) (w : World) (hk : k ≤ 2045) (hT : Tab w) (hs : 1 < w.heap.size) :
    Calls Tryd.prog 70 #[.agg #[.int .i64 52, .int .u64 4503599627370495, .int .u64 2047, .int .u64 9223372036854775808, .int .u64 9218868437227405312, .int .u64 9221120237041090561, .int .i64 1075], .agg #[.bool false, .int .u64 1, .int .i64 ((k : Int) - 1074)]] w fun r w' => r = .returned (.tuple #[.int .u64 (powN k), .int .i64 0]) ∧ Below w.heap.size w w' := by
  have h1 := tz_one
  have h2 := len_one
  by_cases h : k ≤ 51
  · refine (wordOf_sub false 1 ((k : Int) - 1074) w (by decide) (by decide) hT hs (by omega) (by omega) (by rw [h1]; decide) (by rw [h2]; decide) k (by rw [h1]; omega) (by omega)).mono ?_
    rintro r w' ⟨rfl, hb⟩
    exact ⟨by rw [one_sub k h], hb⟩
  · refine (wordOf_norm false 1 ((k : Int) - 1074) w (by decide) (by decide) hT hs (by omega) (by omega) (by rw [h1]; decide) (by rw [h2]; decide) (by rw [h1]; omega) (k - 51) (by rw [h1, h2]; omega) (by omega) (by omega)).mono ?_
    rintro r w' ⟨rfl, hb⟩
    exact ⟨by rw [one_norm k h], hb⟩

set_option maxHeartbeats 400000 in
theorem ulp_fin (x k : Nat) (w : World) (hx : x < 18446744073709551616) (he : expOf x < 2047) (hk : max (expOf x) 1 = k + 1) (hT : Tab w) (hs : 1 < w.heap.size) :
    Calls Tryd.prog 89 #[.agg #[.int .i64 52, .int .u64 4503599627370495, .int .u64 2047, .int .u64 9223372036854775808, .int .u64 9218868437227405312, .int .u64 9221120237041090561, .int .i64 1075], .int .u64 x] w fun r w' => r = .returned (.int .u64 (powN k)) ∧ Below w.heap.size w w' := by
  have HK : Hid (max (expOf x) 1 = k + 1) := hk
  have HE : Hid (expOf x < 2047) := he
  have hne : ((expOf x : Int) == 2047) = false := by simp; omega
  have hk2 : k ≤ 2045 := by omega
  clear hk he
  go_enter Tryd.func89, Tryd.ntmps89
  go_wp2_with fail
  refine (split64_any x _ hx).mono ?_
  rintro r w1 ⟨rfl, hb⟩
  obtain ⟨hc, hf⟩ := bcell hb
  have hcells : (w1.cell? ⟨w.heap.size, 0, none⟩ = some (.int .i64 52) ∧ w1.cell? ⟨w.heap.size, 1, none⟩ = some (.int .u64 4503599627370495) ∧ w1.cell? ⟨w.heap.size, 2, none⟩ = some (.int .u64 2047) ∧ w1.cell? ⟨w.heap.size, 3, none⟩ = some (.int .u64 9223372036854775808) ∧ w1.cell? ⟨w.heap.size, 4, none⟩ = some (.int .u64 9218868437227405312) ∧ w1.cell? ⟨w.heap.size, 5, none⟩ = some (.int .u64 9221120237041090561) ∧ w1.cell? ⟨w.heap.size, 6, none⟩ = some (.int .i64 1075)) := by
    refine ⟨?_, ?_, ?_, ?_, ?_, ?_, ?_⟩ <;> (rw [hc _ _ (by simp)]; simp [go_sem])
  have hT1 : Hid (Tab w1) := hT.below hs (bl_alloc hb)
  have hz : w.heap.size < w1.heap.size := by have := hb.size; simp at this; omega
  have hbb : Hid (Below w.heap.size w w1) := bl_alloc hb
  clear hc hf hb
  obtain ⟨q0, q1, q2, q3, q4, q5, q6⟩ := hcells
  go_wp2_with fail
  go_region_held3 (fun w' => (w'.cell? ⟨w.heap.size, 0, none⟩ = some (.int .i64 52) ∧ w'.cell? ⟨w.heap.size, 1, none⟩ = some (.int .u64 4503599627370495) ∧ w'.cell? ⟨w.heap.size, 2, none⟩ = some (.int .u64 2047) ∧ w'.cell? ⟨w.heap.size, 3, none⟩ = some (.int .u64 9223372036854775808) ∧ w'.cell? ⟨w.heap.size, 4, none⟩ = some (.int .u64 9218868437227405312) ∧ w'.cell? ⟨w.heap.size, 5, none⟩ = some (.int .u64 9221120237041090561) ∧ w'.cell? ⟨w.heap.size, 6, none⟩ = some (.int .i64 1075))) (go_keep)
    (first | (go_at_call 107; refine (lowest_k (expOf x) k _ ?_ HK.out).mono ?_; (have := HE.out; omega); rintro r w' ⟨rfl, rfl⟩) | (go_at_call 70; refine (word_one k _ hk2 ?_ ?_).mono ?_; (exact hT1.out.below (by omega) ((Below.refl _ _).alloc (Nat.le_refl _) _).drew); (simp; omega); rintro r w' ⟨rfl, hb⟩; obtain ⟨hc, hf⟩ := bcell hb; have hS : (w'.cell? ⟨w.heap.size, 0, none⟩ = some (.int .i64 52) ∧ w'.cell? ⟨w.heap.size, 1, none⟩ = some (.int .u64 4503599627370495) ∧ w'.cell? ⟨w.heap.size, 2, none⟩ = some (.int .u64 2047) ∧ w'.cell? ⟨w.heap.size, 3, none⟩ = some (.int .u64 9223372036854775808) ∧ w'.cell? ⟨w.heap.size, 4, none⟩ = some (.int .u64 9218868437227405312) ∧ w'.cell? ⟨w.heap.size, 5, none⟩ = some (.int .u64 9221120237041090561) ∧ w'.cell? ⟨w.heap.size, 6, none⟩ = some (.int .i64 1075)) := (by refine ⟨?_, ?_, ?_, ?_, ?_, ?_, ?_⟩ <;> (rw [hc _ _ (by simp; omega)]; simp [go_sem, hz, q0, q1, q2, q3, q4, q5, q6])); obtain ⟨s0, s1, s2, s3, s4, s5, s6⟩ := hS; clear hc hf))
  go_wp2
  go_ret
  exact ⟨rfl, bl_then (Below.drew (bl_al hbb.out _)) hb⟩

set_option maxHeartbeats 400000 in
theorem Ulp_fin (x k : Nat) (w : World) (hx : x < 18446744073709551616) (he : expOf x < 2047) (hk : max (expOf x) 1 = k + 1) (hT : Tab w) (hs : 1 < w.heap.size) :
    Calls Tryd.prog 42 #[.float .f64 x] w fun r w' => r = .returned (.float .f64 (powN k)) ∧ Below w.heap.size w w' := by
  have h1 := f64bits
  have h2 := f64from
  have HK : Hid (max (expOf x) 1 = k + 1) := hk
  have HE : Hid (expOf x < 2047) := he
  clear hk he
  go_enter Tryd.func42, Tryd.ntmps42
  go_wp2_with fail
  refine (layout64_any _).mono ?_
  rintro r w1 ⟨rfl, hb⟩
  go_wp2_with fail
  refine (ulp_fin x k _ hx HE.out HK.out (hT.below hs hb) (Nat.lt_of_lt_of_le hs hb.size)).mono ?_
  rintro r w2 ⟨rfl, hb2⟩
  go_wp2_with fail
  go_ret
  exact ⟨rfl, bl_then hb hb2⟩
end Go.Proofs.YtfeojdmffipinaaDoor
