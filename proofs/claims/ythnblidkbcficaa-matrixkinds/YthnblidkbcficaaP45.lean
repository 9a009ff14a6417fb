
/- Symmetric, Lower, Trace, Mirror of any matrix, by matrix and by the document. (Written by mkncd.py.) -/
import Derived.Test.YthnblidkbcficaaP44
namespace Go.Proofs.Ythnblidkbcficaa
open Go.RowKit Go.IntWalk

set_option maxRecDepth 4000 in
theorem Sym_bad (r c : Int) (sa : Option Addr) (n ka : Nat) (w : World) (E : Int) (hE : E ≠ 0) (hS : ∀ W, Below w.heap.size w W → Calls Try.prog 10 #[.agg #[.int .i64 r, .int .i64 c, .slice sa n ka]] W fun e w' => e = .returned (.int .i64 E) ∧ Below W.heap.size W w') :
    Calls Try.prog 65 #[.agg #[.int .i64 r, .int .i64 c, .slice sa n ka]] w fun e w' => e = .returned (.bool false) ∧ Below w.heap.size w w' := by
  have HB0 : Hid (Below w.heap.size w (w.alloc (MBox r c sa n ka))) := (Below.refl _ _).alloc (Nat.le_refl _) _
  have HX0 : Hid ((w.alloc (MBox r c sa n ka)).heap[w.heap.size]? = some (MBox r c sa n ka)) := nblkM _ _
  have hne : (E == 0) = false := by simpa using hE
  have HS := hid hS
  obtain ⟨V, hV⟩ : ∃ V, Hid (w.alloc (MBox r c sa n ka) = V) := ⟨_, rfl⟩
  rw [hV.out] at HB0 HX0
  have hV' := hV.out
  unfold MBox at hV'
  obtain ⟨p0, hp0⟩ : ∃ t, Hid (w.heap.size = t) := ⟨_, rfl⟩
  rw [hp0.out] at HX0
  have hp0' := hp0.out
  obtain ⟨x0, x1, x2⟩ := mcells_of HX0.out
  clear hS hE
  go_enter Try.func65, Try.ntmps65
  go_wp2_with fail
  have HQ0 : Hid (Below w.heap.size w V.drew ∧ V.drew.heap[p0]? = some (MBox r c sa n ka)) := ⟨HB0.out.drew, HX0.out⟩
  have HKS : Hid (∀ W, Hid (Below w.heap.size w W ∧ W.heap[p0]? = some (MBox r c sa n ka)) → (W.cell? ⟨p0, 0, none⟩ = some (.int .i64 r) ∧ W.cell? ⟨p0, 1, none⟩ = some (.int .i64 c) ∧ W.cell? ⟨p0, 2, none⟩ = some (.slice sa n ka)) ∧ Hid (Below w.heap.size w W ∧ W.heap[p0]? = some (MBox r c sa n ka))) := fun W hW => ⟨mcells_of hW.out.2, hW⟩
  refine wp_region_held_drew (S := fun W => (W.cell? ⟨p0, 0, none⟩ = some (.int .i64 r) ∧ W.cell? ⟨p0, 1, none⟩ = some (.int .i64 c) ∧ W.cell? ⟨p0, 2, none⟩ = some (.slice sa n ka)) ∧ Hid (Below w.heap.size w W ∧ W.heap[p0]? = some (MBox r c sa n ka))) (by kernel_rfl) (HKS.out _ HQ0) (fun hHeld => ?_)
  refine take_at 0 3 (.agg #[.int .i64 r, .int .i64 c, .slice sa n ka]) rfl rfl (by kernel_rfl) (by kernel_rfl) (by kernel_rfl) (fun _ _ _ h => h) (Or.inl ⟨by rfl, fun w hSw => by (try dsimp only at hSw); go_simp⟩) (by assumption) ?_
  simp only [Act.put, List.setIfInBounds_toArray, List.set_cons_zero, List.set_cons_succ]
  refine wpAnyH_ready (rs := [1]) (by kernel_rfl) (by simp) ?_
  refine AllReadyH.cons (o := _) rfl (fun K hK => ?_) AllReadyH.nil
  go_simp
  refine (HS.out _ HQ0.out.1).mono ?_
  rintro e w1 ⟨rfl, hb1⟩
  have HQ1 : Hid (Below w.heap.size w w1 ∧ w1.heap[p0]? = some (MBox r c sa n ka)) := ⟨HQ0.out.1.trans (hb1.mono HQ0.out.1.size), blkM HQ0.out.2 hb1⟩
  have HB1 := hid HQ1.out.1
  clear hb1
  go_wp2_with fail
  refine hK.out _ _ (HKS.out _ HQ1) (fun hHeld1 => ?_)
  clear hK K
  try simp only [Act.put, List.setIfInBounds_toArray, List.set_cons_zero, List.set_cons_succ]
  refine take_at 2 5 (.bool false) rfl rfl (by kernel_rfl) (by kernel_rfl) (by kernel_rfl) (fun _ _ _ h => h) (Or.inl ⟨by rfl, fun w hSw => by (try dsimp only at hSw); go_simp⟩) (by assumption) ?_
  simp only [Act.put, List.setIfInBounds_toArray, List.set_cons_zero, List.set_cons_succ]
  refine take_at 3 6 (.bool false) rfl rfl (by kernel_rfl) (by kernel_rfl) (by kernel_rfl) (fun _ _ _ h => h) (Or.inl ⟨by rfl, fun w hSw => by (try dsimp only at hSw); go_simp⟩) (by assumption) ?_
  simp only [Act.put, List.setIfInBounds_toArray, List.set_cons_zero, List.set_cons_succ]
  refine take_at 4 7 (undef) rfl rfl (by kernel_rfl) (by kernel_rfl) (by kernel_rfl) (fun _ _ _ h => h) (Or.inr ⟨by rfl, rfl⟩) (by assumption) ?_
  simp only [Act.put, List.setIfInBounds_toArray, List.set_cons_zero, List.set_cons_succ]
  refine take_at 5 8 (undef) rfl rfl (by kernel_rfl) (by kernel_rfl) (by kernel_rfl) (fun _ _ _ h => h) (Or.inr ⟨by rfl, rfl⟩) (by assumption) ?_
  simp only [Act.put, List.setIfInBounds_toArray, List.set_cons_zero, List.set_cons_succ]
  refine take_at 6 9 (undef) rfl rfl (by kernel_rfl) (by kernel_rfl) (by kernel_rfl) (fun _ _ _ h => h) (Or.inr ⟨by rfl, rfl⟩) (by assumption) ?_
  simp only [Act.put, List.setIfInBounds_toArray, List.set_cons_zero, List.set_cons_succ]
  refine take_at 7 10 (undef) rfl rfl (by kernel_rfl) (by kernel_rfl) (by kernel_rfl) (fun _ _ _ h => h) (Or.inr ⟨by rfl, rfl⟩) (by assumption) ?_
  simp only [Act.put, List.setIfInBounds_toArray, List.set_cons_zero, List.set_cons_succ]
  refine take_at 8 11 (.bool false) rfl rfl (by kernel_rfl) (by kernel_rfl) (by kernel_rfl) (fun _ _ _ h => h) (Or.inl ⟨by rfl, fun w hSw => by (try dsimp only at hSw); go_simp⟩) (by assumption) ?_
  simp only [Act.put, List.setIfInBounds_toArray, List.set_cons_zero, List.set_cons_succ]
  refine take_at 9 2 (.bool false) rfl rfl (by kernel_rfl) (by kernel_rfl) (by kernel_rfl) (fun _ _ _ h => h) (Or.inl ⟨by rfl, fun w hSw => by (try dsimp only at hSw); go_simp⟩) (by assumption) ?_
  simp only [Act.put, List.setIfInBounds_toArray, List.set_cons_zero, List.set_cons_succ]
  refine wpAnyH_done (by kernel_rfl) ?_ _
  go_wp2_with fail
  go_ret
  exact ⟨rfl, by first | exact HB1.out | (rw [← hp0.out]; exact HB1.out)⟩
set_option maxRecDepth 4000 in
theorem rSym_bad (r c : Int) (sa : Option Addr) (n ka : Nat) (w : World) (E : Int) (hE : E ≠ 0) (hS : ∀ W, Below w.heap.size w W → Calls Try.prog 12 #[.agg #[.int .i64 r, .int .i64 c, .slice sa n ka]] W fun e w' => e = .returned (.int .i64 E) ∧ Below W.heap.size W w') :
    Calls Try.prog 66 #[.agg #[.int .i64 r, .int .i64 c, .slice sa n ka]] w fun e w' => e = .returned (.bool false) ∧ Below w.heap.size w w' := by
  have HB0 : Hid (Below w.heap.size w (w.alloc (MBox r c sa n ka))) := (Below.refl _ _).alloc (Nat.le_refl _) _
  have HX0 : Hid ((w.alloc (MBox r c sa n ka)).heap[w.heap.size]? = some (MBox r c sa n ka)) := nblkM _ _
  have hne : (E != 0) = true := by simpa using hE
  have HS := hid hS
  obtain ⟨V, hV⟩ : ∃ V, Hid (w.alloc (MBox r c sa n ka) = V) := ⟨_, rfl⟩
  rw [hV.out] at HB0 HX0
  have hV' := hV.out
  unfold MBox at hV'
  obtain ⟨p0, hp0⟩ : ∃ t, Hid (w.heap.size = t) := ⟨_, rfl⟩
  rw [hp0.out] at HX0
  have hp0' := hp0.out
  obtain ⟨x0, x1, x2⟩ := mcells_of HX0.out
  clear hS hE
  go_enter Try.func66, Try.ntmps66
  go_wp2_with fail
  refine (HS.out _ HB0.out).mono ?_
  rintro e w1 ⟨rfl, hb1⟩
  have HB1 := hid (HB0.out.trans (hb1.mono HB0.out.size))
  have HX1 := hid (blkM HX0.out hb1)
  obtain ⟨x0, x1, x2⟩ := mcells_of HX1.out
  clear hb1
  go_wp2_with fail
  go_ret
  exact ⟨rfl, by first | exact HB1.out | (rw [← hp0.out]; exact HB1.out)⟩
set_option maxRecDepth 4000 in
theorem rSym_shape (r c : Int) (sa : Option Addr) (n ka : Nat) (w : World) (E : Int) (hE : E = 0) (hs : ¬ r = c) (hS : ∀ W, Below w.heap.size w W → Calls Try.prog 12 #[.agg #[.int .i64 r, .int .i64 c, .slice sa n ka]] W fun e w' => e = .returned (.int .i64 E) ∧ Below W.heap.size W w') :
    Calls Try.prog 66 #[.agg #[.int .i64 r, .int .i64 c, .slice sa n ka]] w fun e w' => e = .returned (.bool false) ∧ Below w.heap.size w w' := by
  have HB0 : Hid (Below w.heap.size w (w.alloc (MBox r c sa n ka))) := (Below.refl _ _).alloc (Nat.le_refl _) _
  have HX0 : Hid ((w.alloc (MBox r c sa n ka)).heap[w.heap.size]? = some (MBox r c sa n ka)) := nblkM _ _
  subst hE
  have hne : (r != c) = true := by simpa using hs
  have HS := hid hS
  obtain ⟨V, hV⟩ : ∃ V, Hid (w.alloc (MBox r c sa n ka) = V) := ⟨_, rfl⟩
  rw [hV.out] at HB0 HX0
  have hV' := hV.out
  unfold MBox at hV'
  obtain ⟨p0, hp0⟩ : ∃ t, Hid (w.heap.size = t) := ⟨_, rfl⟩
  rw [hp0.out] at HX0
  have hp0' := hp0.out
  obtain ⟨x0, x1, x2⟩ := mcells_of HX0.out
  clear hS hs
  go_enter Try.func66, Try.ntmps66
  go_wp2_with fail
  refine (HS.out _ HB0.out).mono ?_
  rintro e w1 ⟨rfl, hb1⟩
  have HB1 := hid (HB0.out.trans (hb1.mono HB0.out.size))
  have HX1 := hid (blkM HX0.out hb1)
  obtain ⟨x0, x1, x2⟩ := mcells_of HX1.out
  clear hb1
  go_wp2_with fail
  go_ret
  exact ⟨rfl, by first | exact HB1.out | (rw [← hp0.out]; exact HB1.out)⟩
set_option maxRecDepth 4000 in
theorem Lower_non (r c : Int) (sa : Option Addr) (n ka : Nat) (w : World) (E : Int) (hE : E ≠ 0) (hS : ∀ W, Below w.heap.size w W → Calls Try.prog 100 #[.agg #[.int .i64 r, .int .i64 c, .slice sa n ka]] W fun e w' => e = .returned (.int .i64 E) ∧ Below W.heap.size W w') :
    Calls Try.prog 67 #[.agg #[.int .i64 r, .int .i64 c, .slice sa n ka]] w fun e w' => e = .returned (.bool false) ∧ Below w.heap.size w w' := by
  have HB0 : Hid (Below w.heap.size w (w.alloc (MBox r c sa n ka))) := (Below.refl _ _).alloc (Nat.le_refl _) _
  have HX0 : Hid ((w.alloc (MBox r c sa n ka)).heap[w.heap.size]? = some (MBox r c sa n ka)) := nblkM _ _
  have hne : (E != 0) = true := by simpa using hE
  have HS := hid hS
  obtain ⟨V, hV⟩ : ∃ V, Hid (w.alloc (MBox r c sa n ka) = V) := ⟨_, rfl⟩
  rw [hV.out] at HB0 HX0
  have hV' := hV.out
  unfold MBox at hV'
  obtain ⟨p0, hp0⟩ : ∃ t, Hid (w.heap.size = t) := ⟨_, rfl⟩
  rw [hp0.out] at HX0
  have hp0' := hp0.out
  obtain ⟨x0, x1, x2⟩ := mcells_of HX0.out
  clear hS hE
  go_enter Try.func67, Try.ntmps67
  go_wp2_with fail
  refine (HS.out _ HB0.out).mono ?_
  rintro e w1 ⟨rfl, hb1⟩
  have HB1 := hid (HB0.out.trans (hb1.mono HB0.out.size))
  have HX1 := hid (blkM HX0.out hb1)
  obtain ⟨x0, x1, x2⟩ := mcells_of HX1.out
  clear hb1
  go_wp2_with fail
  go_ret
  exact ⟨rfl, by first | exact HB1.out | (rw [← hp0.out]; exact HB1.out)⟩
set_option maxRecDepth 4000 in
theorem rLower_bad (r c : Int) (sa : Option Addr) (n ka : Nat) (w : World) (E : Int) (hE : E ≠ 0) (hS : ∀ W, Below w.heap.size w W → Calls Try.prog 12 #[.agg #[.int .i64 r, .int .i64 c, .slice sa n ka]] W fun e w' => e = .returned (.int .i64 E) ∧ Below W.heap.size W w') :
    Calls Try.prog 68 #[.agg #[.int .i64 r, .int .i64 c, .slice sa n ka]] w fun e w' => e = .returned (.bool false) ∧ Below w.heap.size w w' := by
  have HB0 : Hid (Below w.heap.size w (w.alloc (MBox r c sa n ka))) := (Below.refl _ _).alloc (Nat.le_refl _) _
  have HX0 : Hid ((w.alloc (MBox r c sa n ka)).heap[w.heap.size]? = some (MBox r c sa n ka)) := nblkM _ _
  have hne : (E != 0) = true := by simpa using hE
  have HS := hid hS
  obtain ⟨V, hV⟩ : ∃ V, Hid (w.alloc (MBox r c sa n ka) = V) := ⟨_, rfl⟩
  rw [hV.out] at HB0 HX0
  have hV' := hV.out
  unfold MBox at hV'
  obtain ⟨p0, hp0⟩ : ∃ t, Hid (w.heap.size = t) := ⟨_, rfl⟩
  rw [hp0.out] at HX0
  have hp0' := hp0.out
  obtain ⟨x0, x1, x2⟩ := mcells_of HX0.out
  clear hS hE
  go_enter Try.func68, Try.ntmps68
  go_wp2_with fail
  refine (HS.out _ HB0.out).mono ?_
  rintro e w1 ⟨rfl, hb1⟩
  have HB1 := hid (HB0.out.trans (hb1.mono HB0.out.size))
  have HX1 := hid (blkM HX0.out hb1)
  obtain ⟨x0, x1, x2⟩ := mcells_of HX1.out
  clear hb1
  go_wp2_with fail
  go_ret
  exact ⟨rfl, by first | exact HB1.out | (rw [← hp0.out]; exact HB1.out)⟩
set_option maxRecDepth 4000 in
theorem rLower_shape (r c : Int) (sa : Option Addr) (n ka : Nat) (w : World) (E : Int) (hE : E = 0) (hs : ¬ r = c) (hS : ∀ W, Below w.heap.size w W → Calls Try.prog 12 #[.agg #[.int .i64 r, .int .i64 c, .slice sa n ka]] W fun e w' => e = .returned (.int .i64 E) ∧ Below W.heap.size W w') :
    Calls Try.prog 68 #[.agg #[.int .i64 r, .int .i64 c, .slice sa n ka]] w fun e w' => e = .returned (.bool false) ∧ Below w.heap.size w w' := by
  have HB0 : Hid (Below w.heap.size w (w.alloc (MBox r c sa n ka))) := (Below.refl _ _).alloc (Nat.le_refl _) _
  have HX0 : Hid ((w.alloc (MBox r c sa n ka)).heap[w.heap.size]? = some (MBox r c sa n ka)) := nblkM _ _
  subst hE
  have hne : (r != c) = true := by simpa using hs
  have HS := hid hS
  obtain ⟨V, hV⟩ : ∃ V, Hid (w.alloc (MBox r c sa n ka) = V) := ⟨_, rfl⟩
  rw [hV.out] at HB0 HX0
  have hV' := hV.out
  unfold MBox at hV'
  obtain ⟨p0, hp0⟩ : ∃ t, Hid (w.heap.size = t) := ⟨_, rfl⟩
  rw [hp0.out] at HX0
  have hp0' := hp0.out
  obtain ⟨x0, x1, x2⟩ := mcells_of HX0.out
  clear hS hs
  go_enter Try.func68, Try.ntmps68
  go_wp2_with fail
  refine (HS.out _ HB0.out).mono ?_
  rintro e w1 ⟨rfl, hb1⟩
  have HB1 := hid (HB0.out.trans (hb1.mono HB0.out.size))
  have HX1 := hid (blkM HX0.out hb1)
  obtain ⟨x0, x1, x2⟩ := mcells_of HX1.out
  clear hb1
  go_wp2_with fail
  go_ret
  exact ⟨rfl, by first | exact HB1.out | (rw [← hp0.out]; exact HB1.out)⟩
set_option maxRecDepth 4000 in
theorem Trace_non (r c : Int) (sa : Option Addr) (n ka : Nat) (w : World) (E : Int) (hE : E ≠ 0) (hS : ∀ W, Below w.heap.size w W → Calls Try.prog 100 #[.agg #[.int .i64 r, .int .i64 c, .slice sa n ka]] W fun e w' => e = .returned (.int .i64 E) ∧ Below W.heap.size W w') :
    Calls Try.prog 75 #[.agg #[.int .i64 r, .int .i64 c, .slice sa n ka]] w fun e w' => e = .returned (.tuple #[.float .f64 0, .int .i64 E]) ∧ Below w.heap.size w w' := by
  have HB0 : Hid (Below w.heap.size w (w.alloc (MBox r c sa n ka))) := (Below.refl _ _).alloc (Nat.le_refl _) _
  have HX0 : Hid ((w.alloc (MBox r c sa n ka)).heap[w.heap.size]? = some (MBox r c sa n ka)) := nblkM _ _
  have hne : (E != 0) = true := by simpa using hE
  have HS := hid hS
  obtain ⟨V, hV⟩ : ∃ V, Hid (w.alloc (MBox r c sa n ka) = V) := ⟨_, rfl⟩
  rw [hV.out] at HB0 HX0
  have hV' := hV.out
  unfold MBox at hV'
  obtain ⟨p0, hp0⟩ : ∃ t, Hid (w.heap.size = t) := ⟨_, rfl⟩
  rw [hp0.out] at HX0
  have hp0' := hp0.out
  obtain ⟨x0, x1, x2⟩ := mcells_of HX0.out
  clear hS hE
  go_enter Try.func75, Try.ntmps75
  go_wp2_with fail
  refine (HS.out _ HB0.out).mono ?_
  rintro e w1 ⟨rfl, hb1⟩
  have HB1 := hid (HB0.out.trans (hb1.mono HB0.out.size))
  have HX1 := hid (blkM HX0.out hb1)
  obtain ⟨x0, x1, x2⟩ := mcells_of HX1.out
  clear hb1
  go_wp2_with fail
  go_ret2
  exact ⟨rfl, by first | exact HB1.out | (rw [← hp0.out]; exact HB1.out)⟩
set_option maxRecDepth 4000 in
theorem rTrace_shape (r c : Int) (sa : Option Addr) (n ka : Nat) (w : World) (hs : ¬ r = c) :
    Calls Try.prog 76 #[.agg #[.int .i64 r, .int .i64 c, .slice sa n ka]] w fun e w' => e = .returned (.tuple #[.float .f64 0, .int .i64 3]) ∧ Below w.heap.size w w' := by
  have HB0 : Hid (Below w.heap.size w (w.alloc (MBox r c sa n ka))) := (Below.refl _ _).alloc (Nat.le_refl _) _
  have HX0 : Hid ((w.alloc (MBox r c sa n ka)).heap[w.heap.size]? = some (MBox r c sa n ka)) := nblkM _ _
  have hne : (r != c) = true := by simpa using hs
  obtain ⟨V, hV⟩ : ∃ V, Hid (w.alloc (MBox r c sa n ka) = V) := ⟨_, rfl⟩
  rw [hV.out] at HB0 HX0
  have hV' := hV.out
  unfold MBox at hV'
  obtain ⟨p0, hp0⟩ : ∃ t, Hid (w.heap.size = t) := ⟨_, rfl⟩
  rw [hp0.out] at HX0
  have hp0' := hp0.out
  obtain ⟨x0, x1, x2⟩ := mcells_of HX0.out
  clear hs
  go_enter Try.func76, Try.ntmps76
  go_wp2_with fail
  go_ret2
  exact ⟨rfl, by first | exact HB0.out | (rw [← hp0.out]; exact HB0.out)⟩
/-- What checkSquare tells of any matrix. -/
def sqE (rx cx : Int) (n : Nat) (xs : List Nat) : Int := first2 (chkM rx cx n xs) (if rx = cx then 0 else 3)
theorem square_tot (rx cx : Int) (sa : Option Addr) (n ka : Nat) (xs : List Nat) (w : World) (ha : FlM w sa n ka xs) (hn : n ≤ 17592186043904) :
    Calls Try.prog 100 #[.agg #[.int .i64 rx, .int .i64 cx, .slice sa n ka]] w fun e w' => e = .returned (.int .i64 (sqE rx cx n xs)) ∧ Below w.heap.size w w' := by
  by_cases h : chkM rx cx n xs = 0
  · obtain ⟨r, c, rfl, rfl, hga⟩ := gd_of ha h
    have : sqE (r : Int) c n xs = if r = c then 0 else 3 := by
      unfold sqE first2
      rw [if_pos h]
      by_cases q : r = c
      · rw [if_pos q, if_pos (by omega)]
      · rw [if_neg q, if_neg (by omega)]
    rw [this]
    exact square_good r c n sa ka _ w hga
  · rw [show sqE rx cx n xs = chkM rx cx n xs from by unfold sqE first2; rw [if_neg h]]
    exact square_bad rx cx n sa ka xs w ha hn h
theorem sq_zero {rx cx : Int} {n : Nat} {xs : List Nat} (h : sqE rx cx n xs = 0) : chkM rx cx n xs = 0 ∧ rx = cx := by
  obtain ⟨h1, h2⟩ := first2_zero h
  by_cases q : rx = cx
  · exact ⟨h1, q⟩
  · rw [if_neg q] at h2; cases h2
theorem sq_shape {rx cx : Int} {n : Nat} {xs : List Nat} (h : chkM rx cx n xs = 0) (hs : ¬ rx = cx) : sqE rx cx n xs = 3 := by unfold sqE first2; rw [if_pos h, if_neg hs]
theorem sq_bad {rx cx : Int} {n : Nat} {xs : List Nat} (h : ¬ chkM rx cx n xs = 0) : sqE rx cx n xs = chkM rx cx n xs := by unfold sqE first2; rw [if_neg h]
def symT (rx cx : Int) (n : Nat) (xs : List Nat) : Bool := decide (sqE rx cx n xs = 0) && symB rx.toNat rx.toNat (fun j => xs.getD j 0)
def lowT (rx cx : Int) (n : Nat) (xs : List Nat) : Bool := decide (sqE rx cx n xs = 0) && lowB rx.toNat (fun j => xs.getD j 0)
theorem Sym_tot (rx cx : Int) (sa : Option Addr) (n ka : Nat) (xs : List Nat) (w : World) (ha : FlM w sa n ka xs) (hn : n ≤ 17592186043904) :
    Calls Try.prog 65 #[.agg #[.int .i64 rx, .int .i64 cx, .slice sa n ka]] w fun e w' => e = .returned (.bool (symT rx cx n xs)) ∧ Below w.heap.size w w' := by
  by_cases h : chkM rx cx n xs = 0
  · obtain ⟨r, c, rfl, rfl, hga⟩ := gd_of ha h
    have : symT (r : Int) c n xs = symB r c (fun j => xs.getD j 0) := by
      unfold symT
      by_cases q : r = c
      · subst q
        rw [decide_eq_true (by unfold sqE first2; rw [if_pos h, if_pos rfl])]
        rfl
      · rw [decide_eq_false (by rw [sq_shape h (by omega)]; decide), Bool.false_and]
        unfold symB
        rw [decide_eq_false q, Bool.false_and]
    rw [this]
    exact Sym_good r c n sa ka _ w hga
  · rw [show symT rx cx n xs = false from by unfold symT; rw [sq_bad h, decide_eq_false h, Bool.false_and]]
    exact Sym_bad rx cx sa n ka w _ h (fun W hW => Check_any rx cx sa n ka xs W (ha.below hW) hn)
theorem rSym_tot (rx cx : Int) (sa : Option Addr) (n ka : Nat) (xs : List Nat) (w : World) (ha : FlM w sa n ka xs) (hn : n ≤ 17592186043904) :
    Calls Try.prog 66 #[.agg #[.int .i64 rx, .int .i64 cx, .slice sa n ka]] w fun e w' => e = .returned (.bool (symT rx cx n xs)) ∧ Below w.heap.size w w' := by
  by_cases h : chkM rx cx n xs = 0
  · by_cases q : rx = cx
    · subst q
      obtain ⟨r, c, rfl, hc, hga⟩ := gd_of ha h
      have hc' : r = c := by omega
      subst hc'
      unfold symT
      rw [decide_eq_true (by unfold sqE first2; rw [if_pos h, if_pos rfl]), Bool.true_and]
      exact rSym_ok r n sa ka _ w hga
    · rw [show symT rx cx n xs = false from by unfold symT; rw [decide_eq_false (by rw [sq_shape h q]; decide), Bool.false_and]]
      exact rSym_shape rx cx sa n ka w _ h q (fun W hW => rCheck_any rx cx sa n ka xs W (ha.below hW) hn)
  · rw [show symT rx cx n xs = false from by unfold symT; rw [sq_bad h, decide_eq_false h, Bool.false_and]]
    exact rSym_bad rx cx sa n ka w _ h (fun W hW => rCheck_any rx cx sa n ka xs W (ha.below hW) hn)
theorem rLower_tot (rx cx : Int) (sa : Option Addr) (n ka : Nat) (xs : List Nat) (w : World) (ha : FlM w sa n ka xs) (hn : n ≤ 17592186043904) :
    Calls Try.prog 68 #[.agg #[.int .i64 rx, .int .i64 cx, .slice sa n ka]] w fun e w' => e = .returned (.bool (lowT rx cx n xs)) ∧ Below w.heap.size w w' := by
  by_cases h : chkM rx cx n xs = 0
  · by_cases q : rx = cx
    · subst q
      obtain ⟨r, c, rfl, hc, hga⟩ := gd_of ha h
      have hc' : r = c := by omega
      subst hc'
      unfold lowT
      rw [decide_eq_true (by unfold sqE first2; rw [if_pos h, if_pos rfl]), Bool.true_and]
      exact rLower_ok r n sa ka _ w hga
    · rw [show lowT rx cx n xs = false from by unfold lowT; rw [decide_eq_false (by rw [sq_shape h q]; decide), Bool.false_and]]
      exact rLower_shape rx cx sa n ka w _ h q (fun W hW => rCheck_any rx cx sa n ka xs W (ha.below hW) hn)
  · rw [show lowT rx cx n xs = false from by unfold lowT; rw [sq_bad h, decide_eq_false h, Bool.false_and]]
    exact rLower_bad rx cx sa n ka w _ h (fun W hW => rCheck_any rx cx sa n ka xs W (ha.below hW) hn)
theorem Lower_tot (rx cx : Int) (sa : Option Addr) (n ka : Nat) (xs : List Nat) (w : World) (ha : FlM w sa n ka xs) (hn : n ≤ 17592186043904) :
    Calls Try.prog 67 #[.agg #[.int .i64 rx, .int .i64 cx, .slice sa n ka]] w fun e w' => e = .returned (.bool (lowT rx cx n xs)) ∧ Below w.heap.size w w' := by
  by_cases h : sqE rx cx n xs = 0
  · obtain ⟨h1, h2⟩ := sq_zero h
    subst h2
    obtain ⟨r, c, rfl, hc, hga⟩ := gd_of ha h1
    have hc' : r = c := by omega
    subst hc'
    unfold lowT
    rw [decide_eq_true h, Bool.true_and]
    exact Lower_ok r n sa ka _ w hga
  · rw [show lowT rx cx n xs = false from by unfold lowT; rw [decide_eq_false h, Bool.false_and]]
    exact Lower_non rx cx sa n ka w _ h (fun W hW => square_tot rx cx sa n ka xs W (ha.below hW) hn)
/-- Trace's number and error. -/
def trW (rx : Int) (xs : List Nat) : Nat := trM (fun j => xs.getD j 0) rx.toNat rx.toNat
def trT (rx cx : Int) (n : Nat) (xs : List Nat) : Int := if sqE rx cx n xs = 0 then (if finB (trW rx xs) = true then 0 else 5) else sqE rx cx n xs
def trD (rx cx : Int) (n : Nat) (xs : List Nat) : Nat := if trT rx cx n xs = 0 then trW rx xs else 0
theorem tr_some {rx cx : Int} {n : Nat} {xs : List Nat} (h : sqE rx cx n xs = 0) : trT rx cx n xs = (if finB (trW rx xs) = true then 0 else 5) ∧ trD rx cx n xs = (if finB (trW rx xs) = true then trW rx xs else 0) := by
  have h1 : trT rx cx n xs = (if finB (trW rx xs) = true then 0 else 5) := by unfold trT; rw [if_pos h]
  refine ⟨h1, ?_⟩
  unfold trD
  rw [h1]
  cases finB (trW rx xs) <;> rfl
theorem tr_no {rx cx : Int} {n : Nat} {xs : List Nat} (h : ¬ sqE rx cx n xs = 0) : trT rx cx n xs = sqE rx cx n xs ∧ trD rx cx n xs = 0 := by
  have h1 : trT rx cx n xs = sqE rx cx n xs := by unfold trT; rw [if_neg h]
  exact ⟨h1, by unfold trD; rw [h1, if_neg h]⟩
theorem Trace_tot (rx cx : Int) (sa : Option Addr) (n ka : Nat) (xs : List Nat) (w : World) (ha : FlM w sa n ka xs) (hn : n ≤ 17592186043904) :
    Calls Try.prog 75 #[.agg #[.int .i64 rx, .int .i64 cx, .slice sa n ka]] w fun e w' => e = .returned (.tuple #[.float .f64 (trD rx cx n xs), .int .i64 (trT rx cx n xs)]) ∧ Below w.heap.size w w' := by
  by_cases h : sqE rx cx n xs = 0
  · rw [(tr_some h).1, (tr_some h).2]
    obtain ⟨h1, h2⟩ := sq_zero h
    subst h2
    obtain ⟨r, c, rfl, hc, hga⟩ := gd_of ha h1
    have hc' : r = c := by omega
    subst hc'
    exact Trace_ok r n sa ka _ w hga
  · rw [(tr_no h).1, (tr_no h).2]
    exact Trace_non rx cx sa n ka w _ h (fun W hW => square_tot rx cx sa n ka xs W (ha.below hW) hn)
theorem rTrace_tot (rx cx : Int) (sa : Option Addr) (n ka : Nat) (xs : List Nat) (w : World) (ha : FlM w sa n ka xs) (hz : chkM rx cx n xs = 0) :
    Calls Try.prog 76 #[.agg #[.int .i64 rx, .int .i64 cx, .slice sa n ka]] w fun e w' => e = .returned (.tuple #[.float .f64 (trD rx cx n xs), .int .i64 (trT rx cx n xs)]) ∧ Below w.heap.size w w' := by
  by_cases h : sqE rx cx n xs = 0
  · rw [(tr_some h).1, (tr_some h).2]
    obtain ⟨h1, h2⟩ := sq_zero h
    subst h2
    obtain ⟨r, c, rfl, hc, hga⟩ := gd_of ha h1
    have hc' : r = c := by omega
    subst hc'
    exact rTrace_ok r n sa ka _ w hga
  · rw [(tr_no h).1, (tr_no h).2]
    have hs : ¬ rx = cx := fun q => h (by unfold sqE first2; rw [if_pos hz, if_pos q])
    rw [sq_shape hz hs]
    exact rTrace_shape rx cx sa n ka w hs
/-- The numbers of what is mirrored. -/
def mirV (xs : List Nat) (c : Nat) (i j : Nat) : Nat := if j ≤ i then canonOf (xs.getD (i * c + j) 0) else canonOf (xs.getD (j * c + i) 0)
theorem mir_res {c g : Nat} {o : Nat → Nat} {xs : List Nat} {W : World} (hg : ∀ k, k < c * c → xs.getD k 0 % 9223372036854775808 < 9218868437227405312) (hf : FnM W (some ⟨g, 0, none⟩) (c * c) (c * c) o) (hs : ∀ i j, i < c → j < c → o (i * c + j) = o (j * c + i)) (hv : ∀ i j, i < c → j ≤ i → o (i * c + j) = xs.getD (i * c + j) 0) : ResM 0 c c (mirV xs c) W c c (some ⟨g, 0, none⟩) (c * c) (c * c) := by
  have key : ∀ i j, i < c → j < c → o (i * c + j) = if j ≤ i then xs.getD (i * c + j) 0 else xs.getD (j * c + i) 0 := fun i j hi hj => by
    by_cases h : j ≤ i
    · rw [if_pos h]; exact hv i j hi h
    · rw [if_neg h, hs i j hi hj]; exact hv j i hj (by omega)
  refine Or.inl ⟨rfl, rfl, rfl, rfl, rfl, g, o, rfl, hf, fun i j hi hj => ?_, ?_⟩
  · rw [key i j hi hj]
    unfold mirV
    by_cases h : j ≤ i
    · rw [if_pos h, if_pos h]
    · rw [if_neg h, if_neg h]
  · rw [finF_iff]
    intro k hk
    obtain ⟨q1, q2, q3⟩ := split_k hk
    have hfin : o k % 9223372036854775808 < 9218868437227405312 := by
      rw [← q3, key _ _ q1 q2]
      by_cases h : k % c ≤ k / c
      · rw [if_pos h]; exact hg _ (place_lt q1 q2)
      · rw [if_neg h]; exact hg _ (place_lt q2 q1)
    unfold expOf
    rw [canq_fin hfin]
    exact expq_fin hfin
theorem Mirror_tot (rx cx : Int) (sa : Option Addr) (n ka : Nat) (xs : List Nat) (w : World) (ha : FlM w sa n ka xs) (hn : n ≤ 17592186043904) :
    Calls Try.prog 72 #[.agg #[.int .i64 rx, .int .i64 cx, .slice sa n ka]] w fun e w' => (∃ X0 X1 X2 X3 X4, e = .returned (.tuple #[.agg #[.int .i64 X0, .int .i64 X1, .slice X2 X3 X4], .int .i64 (sqE rx cx n xs)]) ∧ ResM (sqE rx cx n xs) rx.toNat rx.toNat (mirV xs rx.toNat) w' X0 X1 X2 X3 X4) ∧ Below w.heap.size w w' := by
  by_cases h : sqE rx cx n xs = 0
  · rw [h]
    obtain ⟨h1, h2⟩ := sq_zero h
    subst h2
    obtain ⟨r, c, rfl, hc, hga⟩ := gd_of ha h1
    have hc' : r = c := by omega
    subst hc'
    refine (Mirror_ok r n sa ka _ w hga).mono ?_
    rintro e w' ⟨⟨g, o, rfl, hf, hs, hv⟩, hbb⟩
    exact ⟨⟨_, _, _, _, _, rfl, mir_res (fun k hk => (gd_fin hga k hk).2) hf hs hv⟩, hbb⟩
  · refine (Mirror_non rx cx _ n sa ka w h (fun W hW => square_tot rx cx sa n ka xs W (ha.below hW) hn)).mono ?_
    rintro e w' ⟨rfl, hbb⟩
    obtain ⟨X0, X1, X2, X3, X4, e1, e2⟩ := res_non rx.toNat rx.toNat (mirV xs rx.toNat) _ w' h
    exact ⟨⟨X0, X1, X2, X3, X4, by rw [e1], e2⟩, hbb⟩
theorem rMirror_tot (rx cx : Int) (sa : Option Addr) (n ka : Nat) (xs : List Nat) (w : World) (ha : FlM w sa n ka xs) (h : sqE rx cx n xs = 0) :
    Calls Try.prog 71 #[.agg #[.int .i64 rx, .int .i64 cx, .slice sa n ka]] w fun e w' => (∃ X0 X1 X2 X3 X4, e = .returned (.agg #[.int .i64 X0, .int .i64 X1, .slice X2 X3 X4]) ∧ ResM 0 rx.toNat rx.toNat (mirV xs rx.toNat) w' X0 X1 X2 X3 X4) ∧ Below w.heap.size w w' := by
  obtain ⟨h1, h2⟩ := sq_zero h
  subst h2
  obtain ⟨r, c, rfl, hc, hga⟩ := gd_of ha h1
  have hc' : r = c := by omega
  subst hc'
  have l1 := hga.1
  refine (Mirrored_any r n sa ka _ w hga.2.2.2.1 l1 hga.2.2.1).mono ?_
  rintro e w' ⟨hm, hbb⟩
  have hmax : r * r ≤ 144 := Nat.mul_le_mul l1 l1
  obtain ⟨g, o, rfl, _, hf, hs, hv⟩ := hm.fn (by omega)
  exact ⟨⟨_, _, _, _, _, rfl, mir_res (fun k hk => (gd_fin hga k hk).2) hf hs (fun i j hi hj => (hv i j hi hj))⟩, hbb⟩
end Go.Proofs.Ythnblidkbcficaa
