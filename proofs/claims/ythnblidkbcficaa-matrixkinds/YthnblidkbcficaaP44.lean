
/- SameList, Equal of any two, Symmetric: by matrix and by the document. (Written by mkncc.py.) -/
import Derived.Test.YthnblidkbcficaaP43
import Derived.Test.YthnblidkbcficaaP28
namespace Go.Proofs.Ythnblidkbcficaa
open Go.RowKit Go.IntWalk

set_option maxHeartbeats 1000000 in
theorem SameL_all (sa sb : Option Addr) (n ca cb : Nat) (f g : Nat → Nat) (w : World) (ha : FnM w sa n ca f) (hb : FnM w sb n cb g) :
    Calls Try.prog 85 #[.slice sa n ca, .slice sb n cb] w fun e w' => e = .returned (.bool (eqF n f g)) ∧ Below w.heap.size w w' := by
  have hne : ((n : Int) != (n : Int)) = false := by simp
  have HA := hid ha
  have HB := hid hb
  obtain ⟨D, hD⟩ : ∃ D, Hid (eqF n f g = D) := ⟨_, rfl⟩
  rw [hD.out]
  clear ha hb
  go_enter Try.func85, Try.ntmps85
  go_wp2_with fail
  go_loopw [13] (fun iv wr => ∃ k : Nat, k ≤ n ∧ iv = .int .i64 k ∧ Hid (Below w.heap.size w wr) ∧ Hid (∀ j, j < k → canonOf (f j) = canonOf (g j))) (fun iv _ => n - (intOf iv).toNat)
  case atStart => exact ⟨0, Nat.zero_le _, rfl, Below.refl _ _, fun j hj => absurd hj (Nat.not_lt_zero j)⟩
  case round =>
    obtain ⟨k, hk, rfl, HBW, HP⟩ := hrel
    by_cases hlt : k < n
    · rcases HA.out with ⟨_, h2, _⟩ | ⟨b, off, rfl, q1, _, _, q4⟩
      · omega
      rcases HB.out with ⟨_, h2, _⟩ | ⟨b2, off2, rfl, q5, _, _, q8⟩
      · omega
      have HKS : Hid (∀ W, Hid (Below w.heap.size w W) → (W.cell? ⟨b, off + k, none⟩ = some (.float .f64 (f k)) ∧ W.cell? ⟨b2, off2 + k, none⟩ = some (.float .f64 (g k))) ∧ Hid (Below w.heap.size w W)) := fun W hW => ⟨⟨(hW.out.cell (p := ⟨b, off + k, none⟩) q1).trans (q4 k hlt).1, (hW.out.cell (p := ⟨b2, off2 + k, none⟩) q5).trans (q8 k hlt).1⟩, hW⟩
      by_cases heq : canonOf (f k) = canonOf (g k)
      · have HSM : Hid (∀ W, Calls Try.prog 121 #[.float .f64 (f k), .float .f64 (g k)] W fun e w' => e = .returned (.bool true) ∧ w' = W) := fun W => by
          have := rsameM_any (f k) (g k) W (q4 k hlt).2 (q8 k hlt).2
          rw [heq] at this
          simpa using this
        obtain ⟨x, hxx⟩ : ∃ x, Hid (f k = x) := ⟨_, rfl⟩
        obtain ⟨y, hyy⟩ : ∃ y, Hid (g k = y) := ⟨_, rfl⟩
        rw [hxx.out, hyy.out] at HKS HSM
        have hkI : (k : Int) < (n : Int) := by omega
        have hk0 : (0 : Int) ≤ (k : Int) := by omega
        have HQ0 : Hid (Below w.heap.size w wr.drew) := HBW.out.drew
        have HK := hid hlt
        have HEQ := hid heq
        clear q1 q4 q5 q8 hlt heq
        go_wp2_with fail
        refine wp_region_held_drew (S := fun W => (W.cell? ⟨b, off + k, none⟩ = some (.float .f64 x) ∧ W.cell? ⟨b2, off2 + k, none⟩ = some (.float .f64 y)) ∧ Hid (Below w.heap.size w W)) (by kernel_rfl) (HKS.out _ HQ0) (fun hHeld => ?_)
        refine take_at 0 16 (.slice (some ⟨b, off, none⟩) n ca) rfl rfl (by kernel_rfl) (by kernel_rfl) (by kernel_rfl) (fun _ _ _ h => h) (Or.inl ⟨by rfl, fun w hSw => by (try dsimp only at hSw); go_simp⟩) (by assumption) ?_
        simp only [Act.put, List.setIfInBounds_toArray, List.set_cons_zero, List.set_cons_succ]
        refine take_at 1 17 (.int .i64 k) rfl rfl (by kernel_rfl) (by kernel_rfl) (by kernel_rfl) (fun _ _ _ h => h) (Or.inl ⟨by rfl, fun w hSw => by (try dsimp only at hSw); go_simp⟩) (by assumption) ?_
        simp only [Act.put, List.setIfInBounds_toArray, List.set_cons_zero, List.set_cons_succ]
        refine take_at 2 18 (.pointer (some ⟨b, off + k, none⟩)) rfl rfl (by kernel_rfl) (by kernel_rfl) (by kernel_rfl) (fun _ _ _ h => h) (Or.inl ⟨by rfl, fun w hSw => by (try dsimp only at hSw); go_simp⟩) (by assumption) ?_
        simp only [Act.put, List.setIfInBounds_toArray, List.set_cons_zero, List.set_cons_succ]
        refine take_at 3 19 (.float .f64 x) rfl rfl (by kernel_rfl) (by kernel_rfl) (by kernel_rfl) (fun _ _ _ h => h) (Or.inl ⟨by rfl, fun w hSw => by (try dsimp only at hSw); go_simp⟩) (by assumption) ?_
        simp only [Act.put, List.setIfInBounds_toArray, List.set_cons_zero, List.set_cons_succ]
        refine take_at 4 20 (.slice (some ⟨b2, off2, none⟩) n cb) rfl rfl (by kernel_rfl) (by kernel_rfl) (by kernel_rfl) (fun _ _ _ h => h) (Or.inl ⟨by rfl, fun w hSw => by (try dsimp only at hSw); go_simp⟩) (by assumption) ?_
        simp only [Act.put, List.setIfInBounds_toArray, List.set_cons_zero, List.set_cons_succ]
        refine take_at 5 21 (.int .i64 k) rfl rfl (by kernel_rfl) (by kernel_rfl) (by kernel_rfl) (fun _ _ _ h => h) (Or.inl ⟨by rfl, fun w hSw => by (try dsimp only at hSw); go_simp⟩) (by assumption) ?_
        simp only [Act.put, List.setIfInBounds_toArray, List.set_cons_zero, List.set_cons_succ]
        refine take_at 6 22 (.pointer (some ⟨b2, off2 + k, none⟩)) rfl rfl (by kernel_rfl) (by kernel_rfl) (by kernel_rfl) (fun _ _ _ h => h) (Or.inl ⟨by rfl, fun w hSw => by (try dsimp only at hSw); go_simp⟩) (by assumption) ?_
        simp only [Act.put, List.setIfInBounds_toArray, List.set_cons_zero, List.set_cons_succ]
        refine take_at 7 23 (.float .f64 y) rfl rfl (by kernel_rfl) (by kernel_rfl) (by kernel_rfl) (fun _ _ _ h => h) (Or.inl ⟨by rfl, fun w hSw => by (try dsimp only at hSw); go_simp⟩) (by assumption) ?_
        simp only [Act.put, List.setIfInBounds_toArray, List.set_cons_zero, List.set_cons_succ]
        refine wpAnyH_ready (rs := [8]) (by kernel_rfl) (by simp) ?_
        refine AllReadyH.cons (o := _) rfl (fun K hK => ?_) AllReadyH.nil
        go_simp
        refine (HSM.out _).mono ?_
        rintro e u1 ⟨rfl, rfl⟩
        go_wp2_with fail
        refine hK.out _ _ (HKS.out _ HQ0) (fun hHeld1 => ?_)
        clear hK K
        try simp only [Act.put, List.setIfInBounds_toArray, List.set_cons_zero, List.set_cons_succ]
        refine take_at 9 25 (.bool false) rfl rfl (by kernel_rfl) (by kernel_rfl) (by kernel_rfl) (fun _ _ _ h => h) (Or.inl ⟨by rfl, fun w hSw => by (try dsimp only at hSw); go_simp⟩) (by assumption) ?_
        simp only [Act.put, List.setIfInBounds_toArray, List.set_cons_zero, List.set_cons_succ]
        refine wpAnyH_done (by kernel_rfl) ?_ _
        go_wp2_with fail
        have hk1 := HK.out
        refine ⟨⟨k + 1, by omega, by go_num, HQ0, fun j hj => by
          by_cases hjk : j = k
          · subst hjk; exact HEQ.out
          · exact HP.out j (by omega)⟩, ?_⟩
        simp [intOf]; omega
      · have HSM : Hid (∀ W, Calls Try.prog 121 #[.float .f64 (f k), .float .f64 (g k)] W fun e w' => e = .returned (.bool false) ∧ w' = W) := fun W => by
          have := rsameM_any (f k) (g k) W (q4 k hlt).2 (q8 k hlt).2
          rw [show (canonOf (f k) == canonOf (g k)) = false by simpa using heq] at this
          exact this
        obtain ⟨x, hxx⟩ : ∃ x, Hid (f k = x) := ⟨_, rfl⟩
        obtain ⟨y, hyy⟩ : ∃ y, Hid (g k = y) := ⟨_, rfl⟩
        rw [hxx.out, hyy.out] at HKS HSM
        have hkI : (k : Int) < (n : Int) := by omega
        have hk0 : (0 : Int) ≤ (k : Int) := by omega
        have HQ0 : Hid (Below w.heap.size w wr.drew) := HBW.out.drew
        have HK := hid hlt
        have HT : Hid (eqF n f g = false) := eqF_no hlt heq
        clear q1 q4 q5 q8 hlt heq
        go_wp2_with fail
        refine wp_region_held_drew (S := fun W => (W.cell? ⟨b, off + k, none⟩ = some (.float .f64 x) ∧ W.cell? ⟨b2, off2 + k, none⟩ = some (.float .f64 y)) ∧ Hid (Below w.heap.size w W)) (by kernel_rfl) (HKS.out _ HQ0) (fun hHeld => ?_)
        refine take_at 0 16 (.slice (some ⟨b, off, none⟩) n ca) rfl rfl (by kernel_rfl) (by kernel_rfl) (by kernel_rfl) (fun _ _ _ h => h) (Or.inl ⟨by rfl, fun w hSw => by (try dsimp only at hSw); go_simp⟩) (by assumption) ?_
        simp only [Act.put, List.setIfInBounds_toArray, List.set_cons_zero, List.set_cons_succ]
        refine take_at 1 17 (.int .i64 k) rfl rfl (by kernel_rfl) (by kernel_rfl) (by kernel_rfl) (fun _ _ _ h => h) (Or.inl ⟨by rfl, fun w hSw => by (try dsimp only at hSw); go_simp⟩) (by assumption) ?_
        simp only [Act.put, List.setIfInBounds_toArray, List.set_cons_zero, List.set_cons_succ]
        refine take_at 2 18 (.pointer (some ⟨b, off + k, none⟩)) rfl rfl (by kernel_rfl) (by kernel_rfl) (by kernel_rfl) (fun _ _ _ h => h) (Or.inl ⟨by rfl, fun w hSw => by (try dsimp only at hSw); go_simp⟩) (by assumption) ?_
        simp only [Act.put, List.setIfInBounds_toArray, List.set_cons_zero, List.set_cons_succ]
        refine take_at 3 19 (.float .f64 x) rfl rfl (by kernel_rfl) (by kernel_rfl) (by kernel_rfl) (fun _ _ _ h => h) (Or.inl ⟨by rfl, fun w hSw => by (try dsimp only at hSw); go_simp⟩) (by assumption) ?_
        simp only [Act.put, List.setIfInBounds_toArray, List.set_cons_zero, List.set_cons_succ]
        refine take_at 4 20 (.slice (some ⟨b2, off2, none⟩) n cb) rfl rfl (by kernel_rfl) (by kernel_rfl) (by kernel_rfl) (fun _ _ _ h => h) (Or.inl ⟨by rfl, fun w hSw => by (try dsimp only at hSw); go_simp⟩) (by assumption) ?_
        simp only [Act.put, List.setIfInBounds_toArray, List.set_cons_zero, List.set_cons_succ]
        refine take_at 5 21 (.int .i64 k) rfl rfl (by kernel_rfl) (by kernel_rfl) (by kernel_rfl) (fun _ _ _ h => h) (Or.inl ⟨by rfl, fun w hSw => by (try dsimp only at hSw); go_simp⟩) (by assumption) ?_
        simp only [Act.put, List.setIfInBounds_toArray, List.set_cons_zero, List.set_cons_succ]
        refine take_at 6 22 (.pointer (some ⟨b2, off2 + k, none⟩)) rfl rfl (by kernel_rfl) (by kernel_rfl) (by kernel_rfl) (fun _ _ _ h => h) (Or.inl ⟨by rfl, fun w hSw => by (try dsimp only at hSw); go_simp⟩) (by assumption) ?_
        simp only [Act.put, List.setIfInBounds_toArray, List.set_cons_zero, List.set_cons_succ]
        refine take_at 7 23 (.float .f64 y) rfl rfl (by kernel_rfl) (by kernel_rfl) (by kernel_rfl) (fun _ _ _ h => h) (Or.inl ⟨by rfl, fun w hSw => by (try dsimp only at hSw); go_simp⟩) (by assumption) ?_
        simp only [Act.put, List.setIfInBounds_toArray, List.set_cons_zero, List.set_cons_succ]
        refine wpAnyH_ready (rs := [8]) (by kernel_rfl) (by simp) ?_
        refine AllReadyH.cons (o := _) rfl (fun K hK => ?_) AllReadyH.nil
        go_simp
        refine (HSM.out _).mono ?_
        rintro e u1 ⟨rfl, rfl⟩
        go_wp2_with fail
        refine hK.out _ _ (HKS.out _ HQ0) (fun hHeld1 => ?_)
        clear hK K
        try simp only [Act.put, List.setIfInBounds_toArray, List.set_cons_zero, List.set_cons_succ]
        refine take_at 9 25 (.bool true) rfl rfl (by kernel_rfl) (by kernel_rfl) (by kernel_rfl) (fun _ _ _ h => h) (Or.inl ⟨by rfl, fun w hSw => by (try dsimp only at hSw); go_simp⟩) (by assumption) ?_
        simp only [Act.put, List.setIfInBounds_toArray, List.set_cons_zero, List.set_cons_succ]
        refine wpAnyH_done (by kernel_rfl) ?_ _
        go_wp2_with fail
        go_ret
        exact ⟨by have h1 := hD.out; rw [HT.out] at h1; subst h1; rfl, HQ0.out⟩
    · obtain rfl : k = n := by omega
      have HT : Hid (eqF k f g = true) := (eqF_iff k f g).2 HP.out
      go_wp2_with fail
      go_ret
      exact ⟨by have h1 := hD.out; rw [HT.out] at h1; subst h1; rfl, HBW.out⟩
theorem SameL_len (sa sb : Option Addr) (n m ca cb : Nat) (w : World) (hs : n ≠ m) :
    Calls Try.prog 85 #[.slice sa n ca, .slice sb m cb] w fun e w' => e = .returned (.bool false) ∧ Below w.heap.size w w' := by
  have hne : ((n : Int) != (m : Int)) = true := by simp; omega
  clear hs
  go_enter Try.func85, Try.ntmps85
  go_wp2_with fail
  go_ret
  exact ⟨rfl, Below.refl _ _⟩
theorem Equal_r (r c r2 c2 : Int) (sa sb : Option Addr) (n m ca cb : Nat) (w : World) (hs : ¬ r = r2) :
    Calls Try.prog 69 #[.agg #[.int .i64 r, .int .i64 c, .slice sa n ca], .agg #[.int .i64 r2, .int .i64 c2, .slice sb m cb]] w fun e w' => e = .returned (.bool false) ∧ Below w.heap.size w w' := by
  obtain ⟨t1, t2, t3, t4⟩ := two_b w (MBox r c sa n ca) (MBox r2 c2 sb m cb)
  have hne : (r != r2) = true := by simpa using hs
  obtain ⟨V, hV⟩ : ∃ V, Hid ((w.alloc (MBox r c sa n ca)).alloc (MBox r2 c2 sb m cb) = V) := ⟨_, rfl⟩
  rw [hV.out] at t1 t2 t3 t4
  have hV' := hV.out
  have HBV := hid t3
  obtain ⟨x0, x1, x2⟩ := mcells_of t1
  obtain ⟨v0, v1, v2⟩ := mcells_of t2
  unfold MBox at hV'
  clear t1 t2 t3 t4 hs
  go_enter Try.func69, Try.ntmps69
  go_wp2_with fail
  go_ret
  exact ⟨rfl, HBV.out⟩
theorem Equal_c (r c r2 c2 : Int) (sa sb : Option Addr) (n m ca cb : Nat) (w : World) (hs : r = r2 ∧ ¬ c = c2) :
    Calls Try.prog 69 #[.agg #[.int .i64 r, .int .i64 c, .slice sa n ca], .agg #[.int .i64 r2, .int .i64 c2, .slice sb m cb]] w fun e w' => e = .returned (.bool false) ∧ Below w.heap.size w w' := by
  obtain ⟨t1, t2, t3, t4⟩ := two_b w (MBox r c sa n ca) (MBox r2 c2 sb m cb)
  have hnr : (r != r2) = false := by simpa using hs.1
  have hne : (c != c2) = true := by simpa using hs.2
  obtain ⟨V, hV⟩ : ∃ V, Hid ((w.alloc (MBox r c sa n ca)).alloc (MBox r2 c2 sb m cb) = V) := ⟨_, rfl⟩
  rw [hV.out] at t1 t2 t3 t4
  have hV' := hV.out
  have HBV := hid t3
  obtain ⟨x0, x1, x2⟩ := mcells_of t1
  obtain ⟨v0, v1, v2⟩ := mcells_of t2
  unfold MBox at hV'
  clear t1 t2 t3 t4 hs
  go_enter Try.func69, Try.ntmps69
  go_wp2_with fail
  go_ret
  exact ⟨rfl, HBV.out⟩
theorem Equal_n (r c r2 c2 : Int) (sa sb : Option Addr) (n m ca cb : Nat) (w : World) (hs : r = r2 ∧ c = c2 ∧ ¬ n = m) :
    Calls Try.prog 69 #[.agg #[.int .i64 r, .int .i64 c, .slice sa n ca], .agg #[.int .i64 r2, .int .i64 c2, .slice sb m cb]] w fun e w' => e = .returned (.bool false) ∧ Below w.heap.size w w' := by
  obtain ⟨t1, t2, t3, t4⟩ := two_b w (MBox r c sa n ca) (MBox r2 c2 sb m cb)
  have hnr : (r != r2) = false := by simpa using hs.1
  have hnc : (c != c2) = false := by simpa using hs.2.1
  have hne : ((n : Int) != (m : Int)) = true := by have := hs.2.2; simp; omega
  obtain ⟨V, hV⟩ : ∃ V, Hid ((w.alloc (MBox r c sa n ca)).alloc (MBox r2 c2 sb m cb) = V) := ⟨_, rfl⟩
  rw [hV.out] at t1 t2 t3 t4
  have hV' := hV.out
  have HBV := hid t3
  obtain ⟨x0, x1, x2⟩ := mcells_of t1
  obtain ⟨v0, v1, v2⟩ := mcells_of t2
  unfold MBox at hV'
  clear t1 t2 t3 t4 hs
  go_enter Try.func69, Try.ntmps69
  go_wp2_with fail
  go_ret
  exact ⟨rfl, HBV.out⟩
theorem rEqual_r (r c r2 c2 : Int) (sa sb : Option Addr) (n m ca cb : Nat) (w : World) (hs : ¬ r = r2) :
    Calls Try.prog 70 #[.agg #[.int .i64 r, .int .i64 c, .slice sa n ca], .agg #[.int .i64 r2, .int .i64 c2, .slice sb m cb]] w fun e w' => e = .returned (.bool false) ∧ Below w.heap.size w w' := by
  obtain ⟨t1, t2, t3, t4⟩ := two_b w (MBox r c sa n ca) (MBox r2 c2 sb m cb)
  have hne : (r == r2) = false := by simpa using hs
  obtain ⟨V, hV⟩ : ∃ V, Hid ((w.alloc (MBox r c sa n ca)).alloc (MBox r2 c2 sb m cb) = V) := ⟨_, rfl⟩
  rw [hV.out] at t1 t2 t3 t4
  have hV' := hV.out
  have HBV := hid t3
  obtain ⟨x0, x1, x2⟩ := mcells_of t1
  obtain ⟨v0, v1, v2⟩ := mcells_of t2
  unfold MBox at hV'
  clear t1 t2 t3 t4 hs
  go_enter Try.func70, Try.ntmps70
  go_wp2_with fail
  go_ret
  exact ⟨rfl, HBV.out⟩
theorem rEqual_c (r c r2 c2 : Int) (sa sb : Option Addr) (n m ca cb : Nat) (w : World) (hs : r = r2 ∧ ¬ c = c2) :
    Calls Try.prog 70 #[.agg #[.int .i64 r, .int .i64 c, .slice sa n ca], .agg #[.int .i64 r2, .int .i64 c2, .slice sb m cb]] w fun e w' => e = .returned (.bool false) ∧ Below w.heap.size w w' := by
  obtain ⟨t1, t2, t3, t4⟩ := two_b w (MBox r c sa n ca) (MBox r2 c2 sb m cb)
  have hnr : (r == r2) = true := by simpa using hs.1
  have hne : (c == c2) = false := by simpa using hs.2
  obtain ⟨V, hV⟩ : ∃ V, Hid ((w.alloc (MBox r c sa n ca)).alloc (MBox r2 c2 sb m cb) = V) := ⟨_, rfl⟩
  rw [hV.out] at t1 t2 t3 t4
  have hV' := hV.out
  have HBV := hid t3
  obtain ⟨x0, x1, x2⟩ := mcells_of t1
  obtain ⟨v0, v1, v2⟩ := mcells_of t2
  unfold MBox at hV'
  clear t1 t2 t3 t4 hs
  go_enter Try.func70, Try.ntmps70
  go_wp2_with fail
  go_ret
  exact ⟨rfl, HBV.out⟩
/-- Whether two matrices are alike. -/
def eqT (rx cx : Int) (n : Nat) (xs : List Nat) (ry cy : Int) (m : Nat) (ys : List Nat) : Bool := decide (rx = ry) && (decide (cx = cy) && (decide (n = m) && eqF n (fun j => xs.getD j 0) (fun j => ys.getD j 0)))
theorem Equal_tot (rx cx : Int) (sa : Option Addr) (n ka : Nat) (xs : List Nat) (ry cy : Int) (sb : Option Addr) (m kb : Nat) (ys : List Nat) (w : World) (ha : FlM w sa n ka xs) (hb : FlM w sb m kb ys) :
    Calls Try.prog 69 #[.agg #[.int .i64 rx, .int .i64 cx, .slice sa n ka], .agg #[.int .i64 ry, .int .i64 cy, .slice sb m kb]] w fun e w' => e = .returned (.bool (eqT rx cx n xs ry cy m ys)) ∧ Below w.heap.size w w' := by
  unfold eqT
  by_cases h1 : rx = ry
  · by_cases h2 : cx = cy
    · by_cases h3 : n = m
      · subst h1 h2 h3
        rw [decide_eq_true rfl, decide_eq_true rfl, decide_eq_true rfl]
        exact Equal_any rx cx sa sb n ka kb _ _ w ha.fn hb.fn
      · rw [decide_eq_false h3, Bool.false_and, Bool.and_false, Bool.and_false]
        exact Equal_n rx cx ry cy sa sb n m ka kb w ⟨h1, h2, h3⟩
    · rw [decide_eq_false h2, Bool.false_and, Bool.and_false]
      exact Equal_c rx cx ry cy sa sb n m ka kb w ⟨h1, h2⟩
  · rw [decide_eq_false h1, Bool.false_and]
    exact Equal_r rx cx ry cy sa sb n m ka kb w h1
set_option maxRecDepth 4000 in
theorem rEqual_shape (r c : Int) (B : Bool) (sa sb : Option Addr) (n m ca cb : Nat) (w : World) (hs : ∀ W, Below w.heap.size w W → Calls Try.prog 85 #[.slice sa n ca, .slice sb m cb] W fun e w' => e = .returned (.bool B) ∧ Below W.heap.size W w') :
    Calls Try.prog 70 #[.agg #[.int .i64 r, .int .i64 c, .slice sa n ca], .agg #[.int .i64 r, .int .i64 c, .slice sb m cb]] w fun e w' => e = .returned (.bool B) ∧ Below w.heap.size w w' := by
  obtain ⟨t1, t2, t3, t4⟩ := two_b w (MBox r c sa n ca) (MBox r c sb m cb)
  have hnr : (r == r) = true := by simp
  have hnc : (c == c) = true := by simp
  have HS := hid hs
  obtain ⟨V, hV⟩ : ∃ V, Hid ((w.alloc (MBox r c sa n ca)).alloc (MBox r c sb m cb) = V) := ⟨_, rfl⟩
  rw [hV.out] at t1 t2 t3 t4
  have hV' := hV.out
  have HBV := hid t3
  obtain ⟨x0, x1, x2⟩ := mcells_of t1
  obtain ⟨v0, v1, v2⟩ := mcells_of t2
  unfold MBox at hV'
  clear t1 t2 t3 t4 hs
  go_enter Try.func70, Try.ntmps70
  go_wp2_with fail
  refine (HS.out _ HBV.out).mono ?_
  rintro e w1 ⟨rfl, hb1⟩
  have HB1 := hid (HBV.out.trans (hb1.mono HBV.out.size))
  clear hb1
  go_wp2_with fail
  go_ret
  exact ⟨rfl, HB1.out⟩
theorem rEqual_tot (rx cx : Int) (sa : Option Addr) (n ka : Nat) (xs : List Nat) (ry cy : Int) (sb : Option Addr) (m kb : Nat) (ys : List Nat) (w : World) (ha : FlM w sa n ka xs) (hb : FlM w sb m kb ys) :
    Calls Try.prog 70 #[.agg #[.int .i64 rx, .int .i64 cx, .slice sa n ka], .agg #[.int .i64 ry, .int .i64 cy, .slice sb m kb]] w fun e w' => e = .returned (.bool (eqT rx cx n xs ry cy m ys)) ∧ Below w.heap.size w w' := by
  unfold eqT
  by_cases h1 : rx = ry
  · by_cases h2 : cx = cy
    · subst h1 h2
      rw [decide_eq_true rfl, decide_eq_true rfl, Bool.true_and, Bool.true_and]
      refine rEqual_shape rx cx _ sa sb n m ka kb w (fun W hW => ?_)
      by_cases h3 : n = m
      · subst h3
        rw [decide_eq_true rfl, Bool.true_and]
        exact SameL_all sa sb n ka kb _ _ W (ha.below hW).fn (hb.below hW).fn
      · rw [decide_eq_false h3, Bool.false_and]
        exact SameL_len sa sb n m ka kb W h3
    · rw [decide_eq_false h2, Bool.false_and, Bool.and_false]
      exact rEqual_c rx cx ry cy sa sb n m ka kb w ⟨h1, h2⟩
  · rw [decide_eq_false h1, Bool.false_and]
    exact rEqual_r rx cx ry cy sa sb n m ka kb w h1
theorem eqT_self (rx cx : Int) (n : Nat) (xs : List Nat) : eqT rx cx n xs rx cx n xs = true := by
  unfold eqT
  rw [decide_eq_true rfl, decide_eq_true rfl, decide_eq_true rfl]
  exact (eqF_iff n _ _).2 (fun k _ => rfl)
theorem sym_low (c : Nat) (f : Nat → Nat) : symB c c f = true ↔ ∀ i j, i < c → j < i → canonOf (f (i * c + j)) = canonOf (f (j * c + i)) := by
  rw [symB_iff]
  constructor
  · exact fun h i j hi hj => h i j hi (by omega)
  · intro h i j hi hj
    rcases Nat.lt_trichotomy i j with q | q | q
    · exact (h j i hj q).symm
    · rw [q]
    · exact h i j hi q
theorem sym_no {c : Nat} {f : Nat → Nat} {i j : Nat} (hi : i < c) (hj : j < c) (h : ¬ canonOf (f (i * c + j)) = canonOf (f (j * c + i))) : symB c c f = false := by
  cases hc : symB c c f with
  | false => rfl
  | true => exact absurd ((symB_iff c f).1 hc i j hi hj) h
set_option maxRecDepth 4000 in
set_option maxHeartbeats 1000000 in
theorem rSym_ok (c n : Nat) (sa : Option Addr) (ka : Nat) (f : Nat → Nat) (w : World) (ha : Gd w c c sa n ka f) :
    Calls Try.prog 66 #[.agg #[.int .i64 c, .int .i64 c, .slice sa n ka]] w fun e w' => e = .returned (.bool (symB c c f)) ∧ Below w.heap.size w w' := by
  have hcc : ((c : Int) != (c : Int)) = false := by simp
  have HCK := hid (fun W (hW : Below w.heap.size w W) => rCheck_any c c sa n ka _ W ((ha.below hW).2.2.2.1.fl) (by have := ha.le; omega))
  rw [ha.chk] at HCK
  have l1 := ha.1
  have HAT : Hid (∀ W i j, Below w.heap.size w W → i < c → j < c → Calls Try.prog 27 #[.agg #[.int .i64 c, .int .i64 c, .slice sa n ka], .int .i64 (i : Nat), .int .i64 (j : Nat)] W fun e w' => e = .returned (.float .f64 (f (i * c + j))) ∧ Below W.heap.size W w') := fun W i j hW hi hj => rAt_fn c sa c n ka i j f W (ha.below hW).2.2.2.1 (by omega) (by omega) (by omega) (by rw [ha.2.2.1]; exact place_lt hi hj)
  have HFX : Hid (∀ i j, i < c → j < c → f (i * c + j) < 18446744073709551616 ∧ canonOf (f (i * c + j)) = f (i * c + j)) := fun i j hi hj => by
    have := gd_fin ha (i * c + j) (place_lt hi hj)
    exact ⟨this.1, canon_fin (by unfold finB; exact decide_eq_true this.2)⟩
  have HB0 : Hid (Below w.heap.size w (w.alloc (MBox c c sa n ka))) := (Below.refl _ _).alloc (Nat.le_refl _) _
  have HX0 : Hid ((w.alloc (MBox c c sa n ka)).heap[w.heap.size]? = some (MBox c c sa n ka)) := nblkM _ _
  obtain ⟨V, hV⟩ : ∃ V, Hid (w.alloc (MBox c c sa n ka) = V) := ⟨_, rfl⟩
  rw [hV.out] at HB0 HX0
  have hV' := hV.out
  unfold MBox at hV'
  obtain ⟨p0, hp0⟩ : ∃ t, Hid (w.heap.size = t) := ⟨_, rfl⟩
  rw [hp0.out] at HX0
  have hp0' := hp0.out
  obtain ⟨x0, x1, x2⟩ := mcells_of HX0.out
  have HL := hid l1
  obtain ⟨D, hD⟩ : ∃ D, Hid (symB c c f = D) := ⟨_, rfl⟩
  rw [hD.out]
  clear ha
  go_enter Try.func66, Try.ntmps66
  go_wp2_with fail
  refine (HCK.out _ HB0.out).mono ?_
  rintro e w1 ⟨rfl, hb1⟩
  have HB1 := hid (HB0.out.trans (hb1.mono HB0.out.size))
  have HX1 := hid (blkM HX0.out hb1)
  obtain ⟨x0, x1, x2⟩ := mcells_of HX1.out
  clear hb1
  go_wp2_with fail
  go_loopw [3] (fun iv wr => ∃ i : Nat, i ≤ c ∧ iv = .int .i64 i ∧ Hid (∀ a b, a < i → b < a → canonOf (f (a * c + b)) = canonOf (f (b * c + a))) ∧ Hid (Below w.heap.size w wr) ∧ Hid (wr.heap[p0]? = some (MBox c c sa n ka))) (fun iv _ => c - (intOf iv).toNat)
  case atStart => exact ⟨0, Nat.zero_le _, rfl, fun a b h => absurd h (Nat.not_lt_zero a), HB1, HX1⟩
  case round =>
    obtain ⟨i, hi, rfl, HP, HBW, HXW⟩ := hrel
    obtain ⟨x0, x1, x2⟩ := mcells_of HXW.out
    have l2 := HL.out
    by_cases hlt : i < c
    · have hiI : (i : Int) < (c : Int) := by omega
      have HI := hid hlt
      clear hlt
      go_wp2_with fail
      go_loopw [4] (fun jv wr2 => ∃ j : Nat, 0 ≤ j ∧ j ≤ i ∧ jv = .int .i64 j ∧ Hid (∀ a b, (a < i ∨ (a = i ∧ b < j)) → b < a → canonOf (f (a * c + b)) = canonOf (f (b * c + a))) ∧ Hid (Below w.heap.size w wr2) ∧ Hid (wr2.heap[p0]? = some (MBox c c sa n ka))) (fun jv _ => i - (intOf jv).toNat)
      case atStart => exact ⟨0, Nat.le_refl _, by have := HI.out; omega, by go_num, fun a b hab h => HP.out a b (by rcases hab with h1 | ⟨h1, h2⟩ <;> omega) h, HBW, HXW⟩
      case round =>
        obtain ⟨j, hj0, hj, rfl, HP2, HBW2, HXW2⟩ := hrel
        obtain ⟨x0, x1, x2⟩ := mcells_of HXW2.out
        by_cases hl2 : j < i
        · have hjI : (j : Int) < (i : Int) := by omega
          have HJ := hid hl2
          have HJ0 := hid hj0
          clear hl2
          have HJC : Hid (j < c) := by have := HI.out; have := HJ.out; show _ < _; omega
          have HQ0 : Hid (Below w.heap.size w wr.drew ∧ wr.drew.heap[p0]? = some (MBox c c sa n ka)) := ⟨HBW2.out.drew, HXW2.out⟩
          have HKS : Hid (∀ W, Hid (Below w.heap.size w W ∧ W.heap[p0]? = some (MBox c c sa n ka)) → (W.cell? ⟨p0, 0, none⟩ = some (.int .i64 c) ∧ W.cell? ⟨p0, 1, none⟩ = some (.int .i64 c) ∧ W.cell? ⟨p0, 2, none⟩ = some (.slice sa n ka)) ∧ Hid (Below w.heap.size w W ∧ W.heap[p0]? = some (MBox c c sa n ka))) := fun W hW => ⟨mcells_of hW.out.2, hW⟩
          by_cases hz : canonOf (f (i * c + j)) = canonOf (f (j * c + i))
          · have HSM : Hid (∀ W, Calls Try.prog 121 #[.float .f64 (f (i * c + j)), .float .f64 (f (j * c + i))] W fun e w' => e = .returned (.bool true) ∧ w' = W) := fun W => by
              have := rsameM_any (f (i * c + j)) (f (j * c + i)) W (HFX.out i j HI.out HJC.out).1 (HFX.out j i HJC.out HI.out).1
              rw [show (canonOf (f (i * c + j)) == canonOf (f (j * c + i))) = true by simpa using hz] at this
              exact this
            have HZZ := hid hz
            obtain ⟨y, hy⟩ : ∃ t, Hid (f (i * c + j) = t) := ⟨_, rfl⟩
            obtain ⟨y2, hy2⟩ : ∃ t, Hid (f (j * c + i) = t) := ⟨_, rfl⟩
            rw [hy.out, hy2.out] at HSM
            clear hz
            go_wp2_with fail
            refine wp_region_held_drew (S := fun W => (W.cell? ⟨p0, 0, none⟩ = some (.int .i64 c) ∧ W.cell? ⟨p0, 1, none⟩ = some (.int .i64 c) ∧ W.cell? ⟨p0, 2, none⟩ = some (.slice sa n ka)) ∧ Hid (Below w.heap.size w W ∧ W.heap[p0]? = some (MBox c c sa n ka))) (by kernel_rfl) (HKS.out _ HQ0) (fun hHeld => ?_)
            refine take_at 0 26 (.agg #[.int .i64 c, .int .i64 c, .slice sa n ka]) rfl rfl (by kernel_rfl) (by kernel_rfl) (by kernel_rfl) (fun _ _ _ h => h) (Or.inl ⟨by rfl, fun w hSw => by (try dsimp only at hSw); go_simp⟩) (by assumption) ?_
            simp only [Act.put, List.setIfInBounds_toArray, List.set_cons_zero, List.set_cons_succ]
            refine take_at 1 27 (.int .i64 i) rfl rfl (by kernel_rfl) (by kernel_rfl) (by kernel_rfl) (fun _ _ _ h => h) (Or.inl ⟨by rfl, fun w hSw => by (try dsimp only at hSw); go_simp⟩) (by assumption) ?_
            simp only [Act.put, List.setIfInBounds_toArray, List.set_cons_zero, List.set_cons_succ]
            refine take_at 2 28 (.int .i64 j) rfl rfl (by kernel_rfl) (by kernel_rfl) (by kernel_rfl) (fun _ _ _ h => h) (Or.inl ⟨by rfl, fun w hSw => by (try dsimp only at hSw); go_simp⟩) (by assumption) ?_
            simp only [Act.put, List.setIfInBounds_toArray, List.set_cons_zero, List.set_cons_succ]
            refine take_at 4 30 (.agg #[.int .i64 c, .int .i64 c, .slice sa n ka]) rfl rfl (by kernel_rfl) (by kernel_rfl) (by kernel_rfl) (fun _ _ _ h => h) (Or.inl ⟨by rfl, fun w hSw => by (try dsimp only at hSw); go_simp⟩) (by assumption) ?_
            simp only [Act.put, List.setIfInBounds_toArray, List.set_cons_zero, List.set_cons_succ]
            refine take_at 5 31 (.int .i64 j) rfl rfl (by kernel_rfl) (by kernel_rfl) (by kernel_rfl) (fun _ _ _ h => h) (Or.inl ⟨by rfl, fun w hSw => by (try dsimp only at hSw); go_simp⟩) (by assumption) ?_
            simp only [Act.put, List.setIfInBounds_toArray, List.set_cons_zero, List.set_cons_succ]
            refine take_at 6 32 (.int .i64 i) rfl rfl (by kernel_rfl) (by kernel_rfl) (by kernel_rfl) (fun _ _ _ h => h) (Or.inl ⟨by rfl, fun w hSw => by (try dsimp only at hSw); go_simp⟩) (by assumption) ?_
            simp only [Act.put, List.setIfInBounds_toArray, List.set_cons_zero, List.set_cons_succ]
            refine wpAnyH_ready (rs := [3]) (by kernel_rfl) (by simp) ?_
            refine AllReadyH.cons (o := _) rfl (fun K hK => ?_) AllReadyH.nil
            go_simp
            refine (HAT.out _ i j HQ0.out.1 HI.out HJC.out).mono ?_
            rintro e w1 ⟨rfl, hb1⟩
            have HQ1 : Hid (Below w.heap.size w w1 ∧ w1.heap[p0]? = some (MBox c c sa n ka)) := ⟨HQ0.out.1.trans (hb1.mono HQ0.out.1.size), blkM HQ0.out.2 hb1⟩
            rw [hy.out]
            clear hb1
            go_wp2_with fail
            refine hK.out _ _ (HKS.out _ HQ1) (fun hHeld1 => ?_)
            clear hK K
            try simp only [Act.put, List.setIfInBounds_toArray, List.set_cons_zero, List.set_cons_succ]
            refine wpAnyH_ready (rs := [7]) (by kernel_rfl) (by simp) ?_
            refine AllReadyH.cons (o := _) rfl (fun K hK => ?_) AllReadyH.nil
            go_simp
            refine (HAT.out _ j i HQ1.out.1 HJC.out HI.out).mono ?_
            rintro e w2 ⟨rfl, hb2⟩
            have HQ2 : Hid (Below w.heap.size w w2 ∧ w2.heap[p0]? = some (MBox c c sa n ka)) := ⟨HQ1.out.1.trans (hb2.mono HQ1.out.1.size), blkM HQ1.out.2 hb2⟩
            rw [hy2.out]
            clear hb2
            go_wp2_with fail
            refine hK.out _ _ (HKS.out _ HQ2) (fun hHeld2 => ?_)
            clear hK K
            try simp only [Act.put, List.setIfInBounds_toArray, List.set_cons_zero, List.set_cons_succ]
            refine wpAnyH_ready (rs := [8]) (by kernel_rfl) (by simp) ?_
            refine AllReadyH.cons (o := _) rfl (fun K hK => ?_) AllReadyH.nil
            go_simp
            refine (HSM.out _).mono ?_
            rintro e ww ⟨rfl, hw⟩
            rw [hw]
            clear hw
            go_wp2_with fail
            refine hK.out _ _ (HKS.out _ HQ2) (fun hHeld3 => ?_)
            clear hK K
            try simp only [Act.put, List.setIfInBounds_toArray, List.set_cons_zero, List.set_cons_succ]
            refine take_at 9 35 (.bool false) rfl rfl (by kernel_rfl) (by kernel_rfl) (by kernel_rfl) (fun _ _ _ h => h) (Or.inl ⟨by rfl, fun w hSw => by (try dsimp only at hSw); go_simp⟩) (by assumption) ?_
            simp only [Act.put, List.setIfInBounds_toArray, List.set_cons_zero, List.set_cons_succ]
            refine wpAnyH_done (by kernel_rfl) ?_ _
            go_wp2_with fail
            have hj1 := HJ.out
            refine ⟨⟨j + 1, by omega, by omega, by go_num, fun a b hab h => ?_, (hid HQ2.out.1), (hid HQ2.out.2)⟩, ?_⟩
            · by_cases hbj : a = i ∧ b = j
              · obtain ⟨ea, eb⟩ := hbj
                subst ea eb
                exact HZZ.out
              · exact HP2.out a b (by rcases hab with h1 | ⟨h1, h2⟩ <;> omega) h
            · simp [intOf]; omega
          · have HSM : Hid (∀ W, Calls Try.prog 121 #[.float .f64 (f (i * c + j)), .float .f64 (f (j * c + i))] W fun e w' => e = .returned (.bool false) ∧ w' = W) := fun W => by
              have := rsameM_any (f (i * c + j)) (f (j * c + i)) W (HFX.out i j HI.out HJC.out).1 (HFX.out j i HJC.out HI.out).1
              rw [show (canonOf (f (i * c + j)) == canonOf (f (j * c + i))) = false by simpa using hz] at this
              exact this
            have HZZ := hid hz
            obtain ⟨y, hy⟩ : ∃ t, Hid (f (i * c + j) = t) := ⟨_, rfl⟩
            obtain ⟨y2, hy2⟩ : ∃ t, Hid (f (j * c + i) = t) := ⟨_, rfl⟩
            rw [hy.out, hy2.out] at HSM
            clear hz
            go_wp2_with fail
            refine wp_region_held_drew (S := fun W => (W.cell? ⟨p0, 0, none⟩ = some (.int .i64 c) ∧ W.cell? ⟨p0, 1, none⟩ = some (.int .i64 c) ∧ W.cell? ⟨p0, 2, none⟩ = some (.slice sa n ka)) ∧ Hid (Below w.heap.size w W ∧ W.heap[p0]? = some (MBox c c sa n ka))) (by kernel_rfl) (HKS.out _ HQ0) (fun hHeld => ?_)
            refine take_at 0 26 (.agg #[.int .i64 c, .int .i64 c, .slice sa n ka]) rfl rfl (by kernel_rfl) (by kernel_rfl) (by kernel_rfl) (fun _ _ _ h => h) (Or.inl ⟨by rfl, fun w hSw => by (try dsimp only at hSw); go_simp⟩) (by assumption) ?_
            simp only [Act.put, List.setIfInBounds_toArray, List.set_cons_zero, List.set_cons_succ]
            refine take_at 1 27 (.int .i64 i) rfl rfl (by kernel_rfl) (by kernel_rfl) (by kernel_rfl) (fun _ _ _ h => h) (Or.inl ⟨by rfl, fun w hSw => by (try dsimp only at hSw); go_simp⟩) (by assumption) ?_
            simp only [Act.put, List.setIfInBounds_toArray, List.set_cons_zero, List.set_cons_succ]
            refine take_at 2 28 (.int .i64 j) rfl rfl (by kernel_rfl) (by kernel_rfl) (by kernel_rfl) (fun _ _ _ h => h) (Or.inl ⟨by rfl, fun w hSw => by (try dsimp only at hSw); go_simp⟩) (by assumption) ?_
            simp only [Act.put, List.setIfInBounds_toArray, List.set_cons_zero, List.set_cons_succ]
            refine take_at 4 30 (.agg #[.int .i64 c, .int .i64 c, .slice sa n ka]) rfl rfl (by kernel_rfl) (by kernel_rfl) (by kernel_rfl) (fun _ _ _ h => h) (Or.inl ⟨by rfl, fun w hSw => by (try dsimp only at hSw); go_simp⟩) (by assumption) ?_
            simp only [Act.put, List.setIfInBounds_toArray, List.set_cons_zero, List.set_cons_succ]
            refine take_at 5 31 (.int .i64 j) rfl rfl (by kernel_rfl) (by kernel_rfl) (by kernel_rfl) (fun _ _ _ h => h) (Or.inl ⟨by rfl, fun w hSw => by (try dsimp only at hSw); go_simp⟩) (by assumption) ?_
            simp only [Act.put, List.setIfInBounds_toArray, List.set_cons_zero, List.set_cons_succ]
            refine take_at 6 32 (.int .i64 i) rfl rfl (by kernel_rfl) (by kernel_rfl) (by kernel_rfl) (fun _ _ _ h => h) (Or.inl ⟨by rfl, fun w hSw => by (try dsimp only at hSw); go_simp⟩) (by assumption) ?_
            simp only [Act.put, List.setIfInBounds_toArray, List.set_cons_zero, List.set_cons_succ]
            refine wpAnyH_ready (rs := [3]) (by kernel_rfl) (by simp) ?_
            refine AllReadyH.cons (o := _) rfl (fun K hK => ?_) AllReadyH.nil
            go_simp
            refine (HAT.out _ i j HQ0.out.1 HI.out HJC.out).mono ?_
            rintro e w1 ⟨rfl, hb1⟩
            have HQ1 : Hid (Below w.heap.size w w1 ∧ w1.heap[p0]? = some (MBox c c sa n ka)) := ⟨HQ0.out.1.trans (hb1.mono HQ0.out.1.size), blkM HQ0.out.2 hb1⟩
            rw [hy.out]
            clear hb1
            go_wp2_with fail
            refine hK.out _ _ (HKS.out _ HQ1) (fun hHeld1 => ?_)
            clear hK K
            try simp only [Act.put, List.setIfInBounds_toArray, List.set_cons_zero, List.set_cons_succ]
            refine wpAnyH_ready (rs := [7]) (by kernel_rfl) (by simp) ?_
            refine AllReadyH.cons (o := _) rfl (fun K hK => ?_) AllReadyH.nil
            go_simp
            refine (HAT.out _ j i HQ1.out.1 HJC.out HI.out).mono ?_
            rintro e w2 ⟨rfl, hb2⟩
            have HQ2 : Hid (Below w.heap.size w w2 ∧ w2.heap[p0]? = some (MBox c c sa n ka)) := ⟨HQ1.out.1.trans (hb2.mono HQ1.out.1.size), blkM HQ1.out.2 hb2⟩
            rw [hy2.out]
            clear hb2
            go_wp2_with fail
            refine hK.out _ _ (HKS.out _ HQ2) (fun hHeld2 => ?_)
            clear hK K
            try simp only [Act.put, List.setIfInBounds_toArray, List.set_cons_zero, List.set_cons_succ]
            refine wpAnyH_ready (rs := [8]) (by kernel_rfl) (by simp) ?_
            refine AllReadyH.cons (o := _) rfl (fun K hK => ?_) AllReadyH.nil
            go_simp
            refine (HSM.out _).mono ?_
            rintro e ww ⟨rfl, hw⟩
            rw [hw]
            clear hw
            go_wp2_with fail
            refine hK.out _ _ (HKS.out _ HQ2) (fun hHeld3 => ?_)
            clear hK K
            try simp only [Act.put, List.setIfInBounds_toArray, List.set_cons_zero, List.set_cons_succ]
            refine take_at 9 35 (.bool true) rfl rfl (by kernel_rfl) (by kernel_rfl) (by kernel_rfl) (fun _ _ _ h => h) (Or.inl ⟨by rfl, fun w hSw => by (try dsimp only at hSw); go_simp⟩) (by assumption) ?_
            simp only [Act.put, List.setIfInBounds_toArray, List.set_cons_zero, List.set_cons_succ]
            refine wpAnyH_done (by kernel_rfl) ?_ _
            go_wp2_with fail
            have HT : Hid (symB c c f = false) := sym_no HI.out HJC.out HZZ.out
            go_ret
            exact ⟨by have h1 := hD.out; rw [HT.out] at h1; subst h1; rfl, by first | exact HQ2.out.1 | (rw [← hp0.out]; exact HQ2.out.1)⟩

        · obtain rfl : j = i := by omega
          go_wp2_with fail
          have hi1 := HI.out
          refine ⟨⟨j + 1, by omega, by go_num, fun a b ha h => HP2.out a b (by omega) h, HBW2, HXW2⟩, ?_⟩
          simp [intOf]; omega
    · obtain rfl : i = c := by omega
      have HT : Hid (symB i i f = true) := (sym_low i f).2 (fun a b ha hab => HP.out a b ha hab)
      go_wp2_with fail
      go_ret
      exact ⟨by have h1 := hD.out; rw [HT.out] at h1; subst h1; rfl, by first | exact HBW.out | (rw [← hp0.out]; exact HBW.out)⟩
end Go.Proofs.Ythnblidkbcficaa
