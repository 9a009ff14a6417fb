
/- A list of pairs (structs of two int64) where it lies; what clock's rising does. -/
import Derived.Test.YtfdphegiafccpabP17
import Derived.Test.YtfdphegiafccpabP5
namespace Go.Proofs.Ytfdphegiafccpab
open Go.RowKit Go.IntWalk

/-- The pairs of a list, where it lies: counts C, times T. -/
def PrAt (W : World) (sa : Option Addr) (n : Nat) (C T : Nat → Int) : Prop := (∀ i, i < n → (-9223372036854775808 ≤ C i ∧ C i ≤ 9223372036854775807) ∧ (-9223372036854775808 ≤ T i ∧ T i ≤ 9223372036854775807)) ∧ (n ≠ 0 → ∃ b off, sa = some ⟨b, off, none⟩ ∧ b < W.heap.size ∧ ∀ i, i < n → W.cell? ⟨b, off + i * 2, none⟩ = some (.int .i64 (C i)) ∧ W.cell? ⟨b, off + i * 2 + 1, none⟩ = some (.int .i64 (T i)))
theorem PrAt.below {W W' : World} {sa : Option Addr} {n : Nat} {C T : Nat → Int} (h : PrAt W sa n C T) (hb : Below W.heap.size W W') : PrAt W' sa n C T := by
  refine ⟨h.1, fun hn => ?_⟩
  obtain ⟨b, off, e, hl, hc⟩ := h.2 hn
  refine ⟨b, off, e, Nat.lt_of_lt_of_le hl hb.size, fun i hi => ?_⟩
  rw [hb.cell (p := ⟨b, off + i * 2, none⟩) hl, hb.cell (p := ⟨b, off + i * 2 + 1, none⟩) hl]
  exact hc i hi
/-- Counts and times rise. -/
def Ris (C T : Nat → Int) (n : Nat) : Prop := ∀ i, i + 1 < n → C i < C (i + 1) ∧ T i < T (i + 1)
def RiOk (C T : Nat → Int) (n : Nat) (r : Ending) : Prop := ∃ B, r = .returned (.bool B) ∧ (B = true ↔ Ris C T n)
set_option maxRecDepth 2000 in
set_option maxHeartbeats 2000000 in
theorem rising_any (b off n cap : Nat) (C T : Nat → Int) (w : World) (hc : ∀ i, i < n → w.cell? ⟨b, off + i * 2, none⟩ = some (.int .i64 (C i)) ∧ w.cell? ⟨b, off + i * 2 + 1, none⟩ = some (.int .i64 (T i))) (hn0 : 0 < n) (hn : n ≤ 1024) :
    Calls Try.prog 23 #[.slice (some ⟨b, off, none⟩) n cap] w fun r w' => RiOk C T n r ∧ ∃ m, w' = w.drewN m := by
  have HC := hid hc
  clear hc
  have hn1 : wrap64 ((n : Int) - 1) = (n : Int) - 1 := wrap64_in _ (by omega)
  obtain ⟨N, hN⟩ : ∃ N, (n : Int) - 1 = N := ⟨_, rfl⟩
  rw [hN] at hn1
  go_enter Try.func23, Try.ntmps23
  go_wp2
  go_loopw [7] (fun iv wr => ∃ (k m : Nat) (i : Int), iv = .int .i64 i ∧ i = (k : Int) ∧ k < n ∧ Hid (∀ j, j < k → C j < C (j + 1) ∧ T j < T (j + 1)) ∧ wr = w.drewN m) (fun iv _ => n - (intOf iv).toNat)
  case atStart => exact ⟨0, 0, 0, rfl, rfl, hn0, fun j hj => absurd hj (Nat.not_lt_zero _), rfl⟩
  case round =>
    obtain ⟨k, m, i, rfl, rfl, hk, HI, hw⟩ := hrel
    rw [hw]
    clear hw
    by_cases hlt : k + 1 < n
    · obtain ⟨K, hK⟩ : ∃ t, k + 1 = t := ⟨_, rfl⟩
      rw [hK] at hlt
      obtain ⟨a1, a2⟩ := HC.out k (by omega)
      obtain ⟨a3, a4⟩ := HC.out K hlt
      have hk1 : (k : Int) < N := by omega
      have hk2 : (k : Int) < (n : Int) := by omega
      have hk3 : (K : Int) < (n : Int) := by omega
      have hw1 : IntKind.i64.wrap ((k : Int) + 1) = (K : Int) := by rw [IntWalk.i64_in _ (by omega)]; omega
      have hw2 : (k : Int) + 1 = (K : Int) := by omega
      have hw3 : wrap64 (K : Int) = (K : Int) := wrap64_in _ (by omega)
      have hw4 : IntKind.i64.wrap (K : Int) = (K : Int) := IntWalk.i64_in _ (by omega)
      have HCK : Hid (C K = C (k + 1) ∧ T K = T (k + 1)) := hid (by rw [hK]; exact ⟨rfl, rfl⟩)
      obtain ⟨x, hx⟩ : ∃ t, C k = t := ⟨_, rfl⟩
      obtain ⟨x', hx'⟩ : ∃ t, C K = t := ⟨_, rfl⟩
      obtain ⟨y, hy⟩ : ∃ t, T k = t := ⟨_, rfl⟩
      obtain ⟨y', hy'⟩ : ∃ t, T K = t := ⟨_, rfl⟩
      rw [hx] at a1
      rw [hx'] at a3
      rw [hy] at a2
      rw [hy'] at a4
      have HX : Hid (x = C k ∧ x' = C (k + 1) ∧ y = T k ∧ y' = T (k + 1)) := hid ⟨hx.symm, by rw [← hx']; exact HCK.out.1, hy.symm, by rw [← hy']; exact HCK.out.2⟩
      have HKK := hid hK
      clear hx hx' hy hy' hK
      by_cases h1 : x < x'
      · have h1' : ¬ x' ≤ x := by omega
        by_cases h2 : y < y'
        · have h2' : ¬ y' ≤ y := by omega
          have HI2 : Hid (∀ j, j < K → C j < C (j + 1) ∧ T j < T (j + 1)) := hid (fun j hj => by
            by_cases hjk : j = k
            · subst hjk
              obtain ⟨g1, g2, g3, g4⟩ := HX.out
              omega
            · exact HI.out j (by have := HKK.out; omega))
          have HME : Hid (k < K) := hid (by have := HKK.out; omega)
          go_wp2
          go_quiet (fail)
          go_wp2
          go_roundw
          case rel => exact ⟨K, _, (K : Int), rfl, rfl, hlt, HI2, rfl⟩
          case measure => have := HME.out; simp [intOf]; omega
        · have h2' : y' ≤ y := by omega
          have HF : Hid (¬ Ris C T n) := hid (fun h => by
            obtain ⟨g1, g2, g3, g4⟩ := HX.out
            have := h k (by have := HKK.out; omega)
            omega)
          go_wp2
          go_quiet (fail)
          go_wp2
          go_ret
          exact ⟨⟨false, rfl, by simp [HF.out]⟩, _, World.drewN_drewN _ _ _⟩
      · have h1' : x' ≤ x := by omega
        have HF : Hid (¬ Ris C T n) := hid (fun h => by
          obtain ⟨g1, g2, g3, g4⟩ := HX.out
          have := h k (by have := HKK.out; omega)
          omega)
        clear h1
        go_wp2
        refine wp_region_held_drew (S := fun W => W.cell? ⟨b, off + k * 2, none⟩ = some (.int .i64 x) ∧ W.cell? ⟨b, off + K * 2, none⟩ = some (.int .i64 x')) (by kernel_rfl) ⟨a1, a3⟩ (fun hHeld => ?_)
        refine take_at 0 10 (.slice (some ⟨b, off, none⟩) n cap) rfl rfl (by kernel_rfl) (by kernel_rfl) (by kernel_rfl) (fun _ _ _ h => h) (Or.inl ⟨by rfl, fun w hSw => by (try dsimp only at hSw); go_simp⟩) (by assumption) ?_
        simp only [Act.put, List.setIfInBounds_toArray, List.set_cons_zero, List.set_cons_succ]
        refine take_at 1 11 (.int .i64 k) rfl rfl (by kernel_rfl) (by kernel_rfl) (by kernel_rfl) (fun _ _ _ h => h) (Or.inl ⟨by rfl, fun w hSw => by (try dsimp only at hSw); go_simp⟩) (by assumption) ?_
        simp only [Act.put, List.setIfInBounds_toArray, List.set_cons_zero, List.set_cons_succ]
        refine take_at 2 12 (.pointer (some ⟨b, off + k * 2, none⟩)) rfl rfl (by kernel_rfl) (by kernel_rfl) (by kernel_rfl) (fun _ _ _ h => h) (Or.inl ⟨by rfl, fun w hSw => by (try dsimp only at hSw); go_simp⟩) (by assumption) ?_
        simp only [Act.put, List.setIfInBounds_toArray, List.set_cons_zero, List.set_cons_succ]
        refine take_at 3 13 (.pointer (some ⟨b, off + k * 2, none⟩)) rfl rfl (by kernel_rfl) (by kernel_rfl) (by kernel_rfl) (fun _ _ _ h => h) (Or.inl ⟨by rfl, fun w hSw => by (try dsimp only at hSw); go_simp⟩) (by assumption) ?_
        simp only [Act.put, List.setIfInBounds_toArray, List.set_cons_zero, List.set_cons_succ]
        refine take_at 4 14 (.int .i64 x) rfl rfl (by kernel_rfl) (by kernel_rfl) (by kernel_rfl) (fun _ _ _ h => h) (Or.inl ⟨by rfl, fun w hSw => by (try dsimp only at hSw); go_simp⟩) (by assumption) ?_
        simp only [Act.put, List.setIfInBounds_toArray, List.set_cons_zero, List.set_cons_succ]
        refine take_at 5 15 (.slice (some ⟨b, off, none⟩) n cap) rfl rfl (by kernel_rfl) (by kernel_rfl) (by kernel_rfl) (fun _ _ _ h => h) (Or.inl ⟨by rfl, fun w hSw => by (try dsimp only at hSw); go_simp⟩) (by assumption) ?_
        simp only [Act.put, List.setIfInBounds_toArray, List.set_cons_zero, List.set_cons_succ]
        refine take_at 6 16 (.int .i64 k) rfl rfl (by kernel_rfl) (by kernel_rfl) (by kernel_rfl) (fun _ _ _ h => h) (Or.inl ⟨by rfl, fun w hSw => by (try dsimp only at hSw); go_simp⟩) (by assumption) ?_
        simp only [Act.put, List.setIfInBounds_toArray, List.set_cons_zero, List.set_cons_succ]
        refine take_at 7 17 (.int .i64 K) rfl rfl (by kernel_rfl) (by kernel_rfl) (by kernel_rfl) (fun _ _ _ h => h) (Or.inl ⟨by rfl, fun w hSw => by (try dsimp only at hSw); go_simp⟩) (by assumption) ?_
        simp only [Act.put, List.setIfInBounds_toArray, List.set_cons_zero, List.set_cons_succ]
        refine take_at 8 18 (.pointer (some ⟨b, off + K * 2, none⟩)) rfl rfl (by kernel_rfl) (by kernel_rfl) (by kernel_rfl) (fun _ _ _ h => h) (Or.inl ⟨by rfl, fun w hSw => by (try dsimp only at hSw); go_simp⟩) (by assumption) ?_
        simp only [Act.put, List.setIfInBounds_toArray, List.set_cons_zero, List.set_cons_succ]
        refine take_at 9 19 (.pointer (some ⟨b, off + K * 2, none⟩)) rfl rfl (by kernel_rfl) (by kernel_rfl) (by kernel_rfl) (fun _ _ _ h => h) (Or.inl ⟨by rfl, fun w hSw => by (try dsimp only at hSw); go_simp⟩) (by assumption) ?_
        simp only [Act.put, List.setIfInBounds_toArray, List.set_cons_zero, List.set_cons_succ]
        refine take_at 10 20 (.int .i64 x') rfl rfl (by kernel_rfl) (by kernel_rfl) (by kernel_rfl) (fun _ _ _ h => h) (Or.inl ⟨by rfl, fun w hSw => by (try dsimp only at hSw); go_simp⟩) (by assumption) ?_
        simp only [Act.put, List.setIfInBounds_toArray, List.set_cons_zero, List.set_cons_succ]
        refine take_at 11 21 (.bool true) rfl rfl (by kernel_rfl) (by kernel_rfl) (by kernel_rfl) (fun _ _ _ h => h) (Or.inl ⟨by rfl, fun w hSw => by (try dsimp only at hSw); go_simp⟩) (by assumption) ?_
        simp only [Act.put, List.setIfInBounds_toArray, List.set_cons_zero, List.set_cons_succ]
        refine take_at 12 22 (.bool true) rfl rfl (by kernel_rfl) (by kernel_rfl) (by kernel_rfl) (fun _ _ _ h => h) (Or.inl ⟨by rfl, fun w hSw => by (try dsimp only at hSw); go_simp⟩) (by assumption) ?_
        simp only [Act.put, List.setIfInBounds_toArray, List.set_cons_zero, List.set_cons_succ]
        refine take_at 13 23 (undef) rfl rfl (by kernel_rfl) (by kernel_rfl) (by kernel_rfl) (fun _ _ _ h => h) (Or.inr ⟨by rfl, rfl⟩) (by assumption) ?_
        simp only [Act.put, List.setIfInBounds_toArray, List.set_cons_zero, List.set_cons_succ]
        refine take_at 14 24 (undef) rfl rfl (by kernel_rfl) (by kernel_rfl) (by kernel_rfl) (fun _ _ _ h => h) (Or.inr ⟨by rfl, rfl⟩) (by assumption) ?_
        simp only [Act.put, List.setIfInBounds_toArray, List.set_cons_zero, List.set_cons_succ]
        refine take_at 15 25 (undef) rfl rfl (by kernel_rfl) (by kernel_rfl) (by kernel_rfl) (fun _ _ _ h => h) (Or.inr ⟨by rfl, rfl⟩) (by assumption) ?_
        simp only [Act.put, List.setIfInBounds_toArray, List.set_cons_zero, List.set_cons_succ]
        refine take_at 16 26 (undef) rfl rfl (by kernel_rfl) (by kernel_rfl) (by kernel_rfl) (fun _ _ _ h => h) (Or.inr ⟨by rfl, rfl⟩) (by assumption) ?_
        simp only [Act.put, List.setIfInBounds_toArray, List.set_cons_zero, List.set_cons_succ]
        refine take_at 17 27 (undef) rfl rfl (by kernel_rfl) (by kernel_rfl) (by kernel_rfl) (fun _ _ _ h => h) (Or.inr ⟨by rfl, rfl⟩) (by assumption) ?_
        simp only [Act.put, List.setIfInBounds_toArray, List.set_cons_zero, List.set_cons_succ]
        refine take_at 18 28 (undef) rfl rfl (by kernel_rfl) (by kernel_rfl) (by kernel_rfl) (fun _ _ _ h => h) (Or.inr ⟨by rfl, rfl⟩) (by assumption) ?_
        simp only [Act.put, List.setIfInBounds_toArray, List.set_cons_zero, List.set_cons_succ]
        refine take_at 19 29 (undef) rfl rfl (by kernel_rfl) (by kernel_rfl) (by kernel_rfl) (fun _ _ _ h => h) (Or.inr ⟨by rfl, rfl⟩) (by assumption) ?_
        simp only [Act.put, List.setIfInBounds_toArray, List.set_cons_zero, List.set_cons_succ]
        refine take_at 20 30 (undef) rfl rfl (by kernel_rfl) (by kernel_rfl) (by kernel_rfl) (fun _ _ _ h => h) (Or.inr ⟨by rfl, rfl⟩) (by assumption) ?_
        simp only [Act.put, List.setIfInBounds_toArray, List.set_cons_zero, List.set_cons_succ]
        refine take_at 21 31 (undef) rfl rfl (by kernel_rfl) (by kernel_rfl) (by kernel_rfl) (fun _ _ _ h => h) (Or.inr ⟨by rfl, rfl⟩) (by assumption) ?_
        simp only [Act.put, List.setIfInBounds_toArray, List.set_cons_zero, List.set_cons_succ]
        refine take_at 22 32 (undef) rfl rfl (by kernel_rfl) (by kernel_rfl) (by kernel_rfl) (fun _ _ _ h => h) (Or.inr ⟨by rfl, rfl⟩) (by assumption) ?_
        simp only [Act.put, List.setIfInBounds_toArray, List.set_cons_zero, List.set_cons_succ]
        refine take_at 23 33 (undef) rfl rfl (by kernel_rfl) (by kernel_rfl) (by kernel_rfl) (fun _ _ _ h => h) (Or.inr ⟨by rfl, rfl⟩) (by assumption) ?_
        simp only [Act.put, List.setIfInBounds_toArray, List.set_cons_zero, List.set_cons_succ]
        refine take_at 24 34 (undef) rfl rfl (by kernel_rfl) (by kernel_rfl) (by kernel_rfl) (fun _ _ _ h => h) (Or.inr ⟨by rfl, rfl⟩) (by assumption) ?_
        simp only [Act.put, List.setIfInBounds_toArray, List.set_cons_zero, List.set_cons_succ]
        refine take_at 25 35 (.bool true) rfl rfl (by kernel_rfl) (by kernel_rfl) (by kernel_rfl) (fun _ _ _ h => h) (Or.inl ⟨by rfl, fun w hSw => by (try dsimp only at hSw); go_simp⟩) (by assumption) ?_
        simp only [Act.put, List.setIfInBounds_toArray, List.set_cons_zero, List.set_cons_succ]
        refine wpAnyH_done (by kernel_rfl) ?_ _
        go_wp2
        go_ret
        exact ⟨⟨false, rfl, by simp [HF.out]⟩, m + 1, rfl⟩
    · have hk1 : ¬ (k : Int) < N := by omega
      have HF : Hid (Ris C T n) := hid (fun j hj => HI.out j (by omega))
      go_wp2
      go_ret
      exact ⟨⟨true, rfl, by simp [HF.out]⟩, m, rfl⟩
end Go.Proofs.Ytfdphegiafccpab
