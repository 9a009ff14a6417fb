
/- matrix: mirrored, of each of its closures. (Written by mkmx.py.) -/
import Derived.Test.YtglgjkhfoajflaaP21
namespace Go.Proofs.Ytglgjkhfoajflaa
open Go.RowKit Go.IntWalk

/-- One place and the one mirrored. -/
def MirP (P : Nat → Nat → Nat → Prop) (n : Nat) (o : Nat → Nat) (a b : Nat) : Prop := (P a b (o (a * n + b)) ∧ o (a * n + b) < 18446744073709551616) ∧ o (b * n + a) = o (a * n + b)
def MirR (P : Nat → Nat → Nat → Prop) (n N B : Nat) (e : Ending) (w' : World) : Prop := ∃ (g : Nat) (o : Nat → Nat), e = .returned (MV n n (some ⟨g, 0, none⟩) N N) ∧ B ≤ g ∧ w'.rowIs g 28 N (fun k => .float .f64 (o k)) ∧ ∀ i j, i < n → j ≤ i → MirP P n o i j
theorem mir_step {P : Nat → Nat → Nat → Prop} {n i j k l x : Nat} {o2 : Nat → Nat} (hj1 : j < i + 1) (hi1 : i < n) (hk : i * n + j = k) (hl : j * n + i = l) (hX : ∀ {y : Nat}, y = x → P i j y ∧ y < 18446744073709551616) {a b : Nat} (hab : a < i ∨ (a = i ∧ b < j + 1)) (hb : b ≤ a) (ho : ∀ a b, (a < i ∨ (a = i ∧ b < j)) → b ≤ a → MirP P n o2 a b) :
    MirP P n (fun t => if t = l then x else if t = k then x else o2 t) a b := by
  have ha : a < n := by omega
  have hbn : b < n := by omega
  have hjn : j < n := by omega
  by_cases h : a = i ∧ b = j
  · obtain ⟨rfl, rfl⟩ := h
    have e1 : (if a * n + b = l then x else if a * n + b = k then x else o2 (a * n + b)) = x := by
      by_cases c : a * n + b = l
      · rw [if_pos c]
      · rw [if_neg c, if_pos hk]
    have e2 : (if b * n + a = l then x else if b * n + a = k then x else o2 (b * n + a)) = x := by rw [if_pos hl]
    exact ⟨hX e1, by dsimp only; rw [e1, e2]⟩
  · have n1 : a * n + b ≠ k := fun c => h (place_ne hbn hjn (c.trans hk.symm))
    have n2 : a * n + b ≠ l := fun c => by
      have := place_ne hbn hi1 (c.trans hl.symm)
      exact h ⟨by omega, by omega⟩
    have n3 : b * n + a ≠ k := fun c => by
      have := place_ne ha hjn (c.trans hk.symm)
      exact h ⟨by omega, by omega⟩
    have n4 : b * n + a ≠ l := fun c => by
      have := place_ne ha hi1 (c.trans hl.symm)
      exact h ⟨by omega, by omega⟩
    have e1 : (if a * n + b = l then x else if a * n + b = k then x else o2 (a * n + b)) = o2 (a * n + b) := by rw [if_neg n2, if_neg n1]
    have e2 : (if b * n + a = l then x else if b * n + a = k then x else o2 (b * n + a)) = o2 (b * n + a) := by rw [if_neg n4, if_neg n3]
    obtain ⟨q1, q2⟩ := ho a b (by omega) hb
    exact ⟨by dsimp only; rw [e1]; exact q1, by dsimp only; rw [e1, e2]; exact q2⟩
end Go.Proofs.Ytglgjkhfoajflaa

namespace Go.Proofs.Ytglgjkhfoajflaa
open Go.RowKit Go.IntWalk

/-- A dot product in order, of canonical numbers. -/
def dotM (f g : Nat → Nat) : Nat → Nat
  | 0 => 0
  | k + 1 => caf .add (dotM f g k) (caf .mul (canonOf (f k)) (canonOf (g k)))
theorem dotM_congr {f g f2 g2 : Nat → Nat} (n : Nat) (h1 : ∀ k, k < n → f k = f2 k) (h2 : ∀ k, k < n → g k = g2 k) : dotM f g n = dotM f2 g2 n := by
  induction n with
  | zero => rfl
  | succ n ih => rw [dotM, dotM, ih (fun k hk => h1 k (by omega)) (fun k hk => h2 k (by omega)), h1 n (by omega), h2 n (by omega)]
set_option maxHeartbeats 2000000 in
theorem dot_some (b off b2 off2 N ca cb : Nat) (f g : Nat → Nat) (w : World) (hN : N ≤ 17592186043904) (hb1 : b < w.heap.size) (hb2 : b2 < w.heap.size) (hc1 : ∀ j, j < N → w.cell? ⟨b, off + j, none⟩ = some (.float .f64 (f j)) ∧ f j < 18446744073709551616) (hc2 : ∀ j, j < N → w.cell? ⟨b2, off2 + j, none⟩ = some (.float .f64 (g j)) ∧ g j < 18446744073709551616) :
    Calls Try.prog 85 #[.slice (some ⟨b, off, none⟩) N ca, .slice (some ⟨b2, off2, none⟩) N cb] w fun e w' => ∃ z : Nat, e = .returned (.float .f64 z) ∧ (z < 18446744073709551616 ∧ canonOf z = dotM f g N) ∧ Below w.heap.size w w' := by
  have r1 := ar_run .add ok_a
  have r3 := ar_run .mul ok_m
  have HC1 := hid hc1
  have HC2 := hid hc2
  have HB1 := hid hb1
  have HB2 := hid hb2
  clear hc1 hc2 hb1 hb2
  go_enter Try.func85, Try.ntmps85
  go_wp2_with fail
  go_loopw [5, 9] (fun s i wr => ∃ k s0 : Nat, k ≤ N ∧ s = .float .f64 s0 ∧ i = .int .i64 k ∧ Hid (s0 < 18446744073709551616 ∧ canonOf s0 = dotM f g k) ∧ Hid (Below w.heap.size w wr)) (fun _ i _ => N - (intOf i).toNat)
  case atStart => exact ⟨0, 0, Nat.zero_le _, rfl, rfl, ⟨by decide, by show canonOf 0 = 0; decide⟩, Below.refl _ _⟩
  case round =>
    obtain ⟨k, s0, hk, rfl, rfl, HS, HBW⟩ := hrel
    by_cases hlt : k < N
    · have HKS : Hid (∀ W, Hid (Below w.heap.size w W) → (W.cell? ⟨b, off + k, none⟩ = some (.float .f64 (f k)) ∧ W.cell? ⟨b2, off2 + k, none⟩ = some (.float .f64 (g k))) ∧ Hid (Below w.heap.size w W)) := fun W hW => ⟨⟨(hW.out.cell (p := ⟨b, off + k, none⟩) HB1.out).trans (HC1.out k hlt).1, (hW.out.cell (p := ⟨b2, off2 + k, none⟩) HB2.out).trans (HC2.out k hlt).1⟩, hW⟩
      have hx := (HC1.out k hlt).2
      have hy := (HC2.out k hlt).2
      have HD : Hid (∀ W W', arF .add s0 (arF .mul (f k) (g k) W) W' < 18446744073709551616 ∧ canonOf (arF .add s0 (arF .mul (f k) (g k) W) W') = dotM f g (k + 1)) := fun W W' => ⟨arF_lt ok_a _ _ _, by rw [canon_ar ok_a _ _ _ HS.out.1 (arF_lt ok_m _ _ _), canon_ar ok_m _ _ _ hx hy, HS.out.2]; rfl⟩
      obtain ⟨x, hxx⟩ : ∃ x, Hid (f k = x) := ⟨_, rfl⟩
      obtain ⟨y, hyy⟩ : ∃ y, Hid (g k = y) := ⟨_, rfl⟩
      rw [hxx.out, hyy.out] at HKS HD
      have hkI : (k : Int) < (N : Int) := by omega
      have hk0 : (0 : Int) ≤ (k : Int) := by omega
      have HQ0 : Hid (Below w.heap.size w wr.drew) := HBW.out.drew
      have HQ1 : Hid (Below w.heap.size w (arG .mul x y wr.drew)) := bl_ar HQ0.out _ _ _
      have HQ2 : Hid (Below w.heap.size w (arG .add s0 (arF .mul x y wr.drew) (arG .mul x y wr.drew))) := bl_ar HQ1.out _ _ _
      have HK := hid hlt
      clear hx hy hlt
      go_wp2_with fail
      refine wp_region_held_drew (S := fun W => (W.cell? ⟨b, off + k, none⟩ = some (.float .f64 x) ∧ W.cell? ⟨b2, off2 + k, none⟩ = some (.float .f64 y)) ∧ Hid (Below w.heap.size w W)) (by kernel_rfl) (HKS.out _ HQ0) (fun hHeld => ?_)
      refine take_at 0 12 (.float .f64 s0) rfl rfl (by kernel_rfl) (by kernel_rfl) (by kernel_rfl) (fun _ _ _ h => h) (Or.inl ⟨by rfl, fun w hSw => by (try dsimp only at hSw); go_simp⟩) (by assumption) ?_
      simp only [Act.put, List.setIfInBounds_toArray, List.set_cons_zero, List.set_cons_succ]
      refine take_at 1 13 (.slice (some ⟨b, off, none⟩) N ca) rfl rfl (by kernel_rfl) (by kernel_rfl) (by kernel_rfl) (fun _ _ _ h => h) (Or.inl ⟨by rfl, fun w hSw => by (try dsimp only at hSw); go_simp⟩) (by assumption) ?_
      simp only [Act.put, List.setIfInBounds_toArray, List.set_cons_zero, List.set_cons_succ]
      refine take_at 2 14 (.int .i64 k) rfl rfl (by kernel_rfl) (by kernel_rfl) (by kernel_rfl) (fun _ _ _ h => h) (Or.inl ⟨by rfl, fun w hSw => by (try dsimp only at hSw); go_simp⟩) (by assumption) ?_
      simp only [Act.put, List.setIfInBounds_toArray, List.set_cons_zero, List.set_cons_succ]
      refine take_at 3 15 (.pointer (some ⟨b, off + k, none⟩)) rfl rfl (by kernel_rfl) (by kernel_rfl) (by kernel_rfl) (fun _ _ _ h => h) (Or.inl ⟨by rfl, fun w hSw => by (try dsimp only at hSw); go_simp⟩) (by assumption) ?_
      simp only [Act.put, List.setIfInBounds_toArray, List.set_cons_zero, List.set_cons_succ]
      refine take_at 4 16 (.float .f64 x) rfl rfl (by kernel_rfl) (by kernel_rfl) (by kernel_rfl) (fun _ _ _ h => h) (Or.inl ⟨by rfl, fun w hSw => by (try dsimp only at hSw); go_simp⟩) (by assumption) ?_
      simp only [Act.put, List.setIfInBounds_toArray, List.set_cons_zero, List.set_cons_succ]
      refine take_at 5 17 (.slice (some ⟨b2, off2, none⟩) N cb) rfl rfl (by kernel_rfl) (by kernel_rfl) (by kernel_rfl) (fun _ _ _ h => h) (Or.inl ⟨by rfl, fun w hSw => by (try dsimp only at hSw); go_simp⟩) (by assumption) ?_
      simp only [Act.put, List.setIfInBounds_toArray, List.set_cons_zero, List.set_cons_succ]
      refine take_at 6 18 (.int .i64 k) rfl rfl (by kernel_rfl) (by kernel_rfl) (by kernel_rfl) (fun _ _ _ h => h) (Or.inl ⟨by rfl, fun w hSw => by (try dsimp only at hSw); go_simp⟩) (by assumption) ?_
      simp only [Act.put, List.setIfInBounds_toArray, List.set_cons_zero, List.set_cons_succ]
      refine take_at 7 19 (.pointer (some ⟨b2, off2 + k, none⟩)) rfl rfl (by kernel_rfl) (by kernel_rfl) (by kernel_rfl) (fun _ _ _ h => h) (Or.inl ⟨by rfl, fun w hSw => by (try dsimp only at hSw); go_simp⟩) (by assumption) ?_
      simp only [Act.put, List.setIfInBounds_toArray, List.set_cons_zero, List.set_cons_succ]
      refine take_at 8 20 (.float .f64 y) rfl rfl (by kernel_rfl) (by kernel_rfl) (by kernel_rfl) (fun _ _ _ h => h) (Or.inl ⟨by rfl, fun w hSw => by (try dsimp only at hSw); go_simp⟩) (by assumption) ?_
      simp only [Act.put, List.setIfInBounds_toArray, List.set_cons_zero, List.set_cons_succ]
      refine wpAnyH_ready (rs := [9]) (by kernel_rfl) (by simp) ?_
      refine AllReadyH.cons (o := _) rfl (fun K hK => ?_) AllReadyH.nil
      go_simp
      go_wp2_with fail
      refine hK.out _ _ (HKS.out _ HQ1) (fun hHeld1 => ?_)
      clear hK K
      try simp only [Act.put, List.setIfInBounds_toArray, List.set_cons_zero, List.set_cons_succ]
      refine wpAnyH_ready (rs := [10]) (by kernel_rfl) (by simp) ?_
      refine AllReadyH.cons (o := _) rfl (fun K hK => ?_) AllReadyH.nil
      go_simp
      go_wp2_with fail
      refine hK.out _ _ (HKS.out _ HQ2) (fun hHeld2 => ?_)
      clear hK K
      try simp only [Act.put, List.setIfInBounds_toArray, List.set_cons_zero, List.set_cons_succ]
      refine take_at 11 5 (.float .f64 (arF .add s0 (arF .mul x y wr.drew) (arG .mul x y wr.drew))) rfl rfl (by kernel_rfl) (by kernel_rfl) (by kernel_rfl) (fun _ _ _ h => h) (Or.inl ⟨by rfl, fun w hSw => by (try dsimp only at hSw); go_simp⟩) (by assumption) ?_
      simp only [Act.put, List.setIfInBounds_toArray, List.set_cons_zero, List.set_cons_succ]
      refine wpAnyH_done (by kernel_rfl) ?_ _
      go_wp2_with fail
      have hk1 := HK.out
      refine ⟨⟨k + 1, _, by omega, rfl, by go_num, HD.out _ _, HQ2⟩, ?_⟩
      simp [intOf]; omega
    · obtain rfl : k = N := by omega
      go_wp2_with fail
      go_ret
      exact ⟨_, rfl, HS.out, HBW.out⟩
end Go.Proofs.Ytglgjkhfoajflaa
