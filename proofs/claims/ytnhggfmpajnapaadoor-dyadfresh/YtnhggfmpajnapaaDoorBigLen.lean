
/- What the document's BitLen and Bit(0) do. -/
import Derived.Test.YtnhggfmpajnapaaDoorBigCopy
import Derived.Test.YtnhggfmpajnapaaDoorZeros
namespace Go.Proofs.YtnhggfmpajnapaaDoor
open Go.RowKit Go.IntWalk

set_option maxHeartbeats 1000000 in
set_option maxRecDepth 100000 in
theorem len32_int (x : Int) (w : World) (h0 : 0 ≤ x) (h1 : x ≤ 4294967295) :
    Calls Tryd.prog 110 #[.int .u32 x] w fun r w' => r = .returned (.int .i64 (bitLen x.toNat)) ∧ w' = w := by
  go_enter Tryd.func110, Tryd.ntmps110
  rw [fold_len]
  go_wp2
  all_goals first
    | (exfalso; rename_i hno; apply hno; rw [len8_size]; omega)
    | (go_ret; refine ⟨ret_int ?_, rfl⟩; first | exact len_close x _ 24 (by omega) (by simp only [Nat.reducePow]; omega) (by omega) (by omega) _ | exact len_close x _ 16 (by omega) (by simp only [Nat.reducePow]; omega) (by omega) (by omega) _ | exact len_close x _ 8 (by omega) (by simp only [Nat.reducePow]; omega) (by omega) (by omega) _ | exact len_close0 x (by omega) (by omega) _ | exact len_close00 x (by omega) (by omega) _)
theorem len32_any (x : Nat) (w : World) (hx : x < 4294967296) :
    Calls Tryd.prog 110 #[.int .u32 x] w fun r w' => r = .returned (.int .i64 (bitLen x)) ∧ w' = w :=
  len32_int (x : Int) w (by omega) (by omega)
/-- How many bits a list of words has. -/
theorem bitLen_words (L : List Nat) (k : Nat) (hk : L.length = k + 1) (hD : DigL L) (h0 : L.getD k 0 ≠ 0) : bitLen (natL L) = 32 * k + bitLen (L.getD k 0) := by
  have e := natL_take_succ L k (by omega)
  rw [← hk, List.take_length] at e
  have hl := natL_lt (L.take k) (hD.take k)
  rw [List.length_take, Nat.min_eq_left (by omega)] at hl
  obtain ⟨d, hd⟩ : ∃ d, L.getD k 0 = d := ⟨_, rfl⟩
  rw [hd] at e h0 ⊢
  have hs := bitLen_shift (natL L) (32 * k) (by
    rw [e, ← pow32]
    have : 4294967296 ^ k * 1 ≤ 4294967296 ^ k * d := Nat.mul_le_mul_left _ (by omega)
    have hp := Nat.pow_pos (n := k) (show 0 < 4294967296 by decide)
    rw [Nat.add_mul_div_left _ _ hp, Nat.div_eq_of_lt hl]
    omega)
  rw [hs, e, ← pow32]
  have hp := Nat.pow_pos (n := k) (show 0 < 4294967296 by decide)
  rw [Nat.add_mul_div_left _ _ hp, Nat.div_eq_of_lt hl, Nat.zero_add]
set_option maxHeartbeats 1000000 in
theorem BitLen_any (x : Nat) (neg : Bool) (L : List Nat) (w : World) (h : BigAt w x neg L) (hn : L.length ≤ 1000000) :
    Calls Tryd.prog 88 #[.pointer (some ⟨x, 0, none⟩)] w fun r w' => r = .returned (.int .i64 (bitLen (natL L))) ∧ ∃ m, w' = w.drewN m := by
  obtain ⟨a, cap, ho, hcap, hm, hd, hc, hneg⟩ := h
  obtain ⟨c0, c1, hf, hlt⟩ := int_cells ho
  by_cases h0 : L.length = 0
  · have e : L = [] := List.length_eq_zero_iff.1 h0
    subst e
    clear hm hd hc hneg ho hcap hf h0 hn c0
    go_enter Tryd.func88, Tryd.ntmps88
    go_wp2
    go_ret
    exact ⟨rfl, ⟨0, rfl⟩⟩
  · obtain ⟨k, hk⟩ : ∃ k, L.length = k + 1 := ⟨L.length - 1, by omega⟩
    obtain ⟨b, off, rfl, hb, hcell⟩ := hm k (by omega)
    have hne := hc (fun c => h0 (by rw [c]; rfl))
    rw [hk, Nat.add_sub_cancel] at hne
    rw [bitLen_words L k hk hd hne]
    have hdl := hd.get k
    obtain ⟨d, hdd⟩ : ∃ d, Hid (L.getD k 0 = d) := ⟨_, rfl⟩
    rw [hdd.out] at hcell hdl ⊢
    have hbl := bitLen_le d 32 (by simpa using hdl)
    obtain ⟨l, hl⟩ : ∃ l, Hid (bitLen d = l) := ⟨_, rfl⟩
    have HL : Hid (∀ w : World, Calls Tryd.prog 110 #[.int .u32 d] w fun r w' => r = .returned (.int .i64 l) ∧ w' = w) := fun w => by
      rw [← hl.out]; exact len32_any d w hdl
    rw [hl.out] at hbl ⊢
    obtain ⟨n, hnn⟩ : ∃ n : Nat, Hid (k + 1 = n) := ⟨_, rfl⟩
    have hk1 : (n : Int) - 1 = (k : Int) := by have := hnn.out; omega
    have hwk : IntKind.i64.wrap (k : Int) = (k : Int) := by rw [IntWalk.i64_in _ (by omega)]
    have hkI : (k : Int) < (n : Int) := by omega
    have hkn : k ≤ 1000000 := by omega
    have hnz : ((n : Int) == 0) = false := by simp; omega
    have hw1 : IntKind.i64.wrap (32 * (k : Int)) = 32 * (k : Int) := by rw [IntWalk.i64_in _ (by omega)]
    have hw2 : IntKind.i64.wrap (32 * (k : Int) + (l : Int)) = 32 * (k : Int) + (l : Int) := by rw [IntWalk.i64_in _ (by omega)]
    rw [hk, hnn.out] at c1
    clear hm hd hc hneg ho hcap hf h0 hn c0 hne hdl hk
    go_enter Tryd.func88, Tryd.ntmps88
    go_wp2_with fail
    go_quiet (first | (go_at_call 110; exact Calls.quiet_of_same (HL.out _)))
    go_wp2
    go_ret
    exact ⟨ret_int (by omega), _, rfl⟩
end Go.Proofs.YtnhggfmpajnapaaDoor
