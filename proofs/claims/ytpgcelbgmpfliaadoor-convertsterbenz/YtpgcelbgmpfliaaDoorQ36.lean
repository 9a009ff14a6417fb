
/- What convert's division does. -/
import Derived.Test.YtpgcelbgmpfliaaDoorQ35
namespace Go.Proofs.YtpgcelbgmpfliaaDoor
open Go.RowKit Go.IntWalk

set_option maxHeartbeats 1000000 in
theorem division_nanA (b : Bool) (A B : Nat) (NA NB : Bool) (MA MB : Nat) (EA EB RA RB mode : Int) (w : World) (hT : Tab w) (hs : 1 < w.heap.size)
    (hPA : ∀ w, Tab w → 1 < w.heap.size → Calls Tryd.prog 58 #[.float .f64 A] w fun r w' => r = .returned (.tuple #[.agg #[.bool NA, .int .u64 MA, .int .i64 EA], .int .i64 RA]) ∧ Below w.heap.size w w')
    (hPB : ∀ w, Tab w → 1 < w.heap.size → Calls Tryd.prog 58 #[.float .f64 B] w fun r w' => r = .returned (.tuple #[.agg #[.bool NB, .int .u64 MB, .int .i64 EB], .int .i64 RB]) ∧ Below w.heap.size w w')
    (hcase : (RA == 0) = false ∨ (RA = 0 ∧ (RB == 0) = false) ∨ (RA = 0 ∧ RB = 0 ∧ ((MA : Int) != 0) = false) ∨ (RA = 0 ∧ RB = 0 ∧ ((MA : Int) != 0) = true ∧ ((MB : Int) != 0) = false))
    (hq : FloatKind.f64.format.div A B = none) (hi1 : ∀ w, Calls Tryd.prog 52 #[.float .f64 A] w fun r w' => r = .returned (.bool true) ∧ w' = w) (hi2 : ∀ w, Calls Tryd.prog 52 #[.float .f64 B] w fun r w' => r = .returned (.bool b) ∧ w' = w) :
    Calls Tryd.prog 36 #[.float .f64 A, .float .f64 B, .int .i64 mode] w fun r w' => r = .returned (.tuple #[.float .f32 2143289344, .int .i64 0]) ∧ Below w.heap.size w w' := by
  have HPA := hid hPA
  have HPB := hid hPB
  obtain ⟨f, hf, ha⟩ := nan_arith .quo A B (by simp) hq
  have HF := hid hf
  have H3 := hid (fun (v w : World) => isnan_any (f v) w (hf v).1)
  have H1 := hid hi1
  have H2 := hid hi2
  clear hq hf hi1 hi2
  clear hPA hPB
  rcases hcase with h1 | ⟨h1, h2⟩ | ⟨h1, h2, h3⟩ | ⟨h1, h2, h3, h4⟩
  all_goals (try subst h1)
  all_goals (try subst h2)
  all_goals
    go_enter Tryd.func36, Tryd.ntmps36
    go_wp2_with fail
    refine (HPA.out _ hT hs).mono ?_
    rintro r w1 ⟨rfl, hb1⟩
    have hB1 := hid hb1
    clear hb1
    go_wp2_with fail
    refine (HPB.out _ (hT.below hs (bl_al hB1.out _)) ?_).mono ?_
    · have := hB1.out.size; simp; omega
    rintro r w2 ⟨rfl, hb2⟩
    obtain ⟨hcl, hf⟩ := bcell hb2
    have hz2 : w1.heap.size < w2.heap.size := by have := hb2.size; simp at this; omega
    have c0 : w2.cell? ⟨w1.heap.size, 0, none⟩ = some (.bool NA) := by rw [hcl _ _ (by simp)]; simp [go_sem]
    have c1 : w2.cell? ⟨w1.heap.size, 1, none⟩ = some (.int .u64 MA) := by rw [hcl _ _ (by simp)]; simp [go_sem]
    have c2 : w2.cell? ⟨w1.heap.size, 2, none⟩ = some (.int .i64 EA) := by rw [hcl _ _ (by simp)]; simp [go_sem]
    have hB2 := hid (bl_then (bl_al hB1.out _) hb2)
    have hz1 : w.heap.size ≤ w1.heap.size := hB1.out.size
    clear hcl hf hb2
    go_wp2_with fail
    refine (H1.out _).mono ?_
    rintro r w3 ⟨rfl, rfl⟩
    go_wp2_with fail
    refine (theNaN_any _).mono ?_
    rintro r w4 ⟨rfl, hb3⟩
    go_wp2
    go_ret2
    exact ⟨rfl, bl_then (bl_al hB2.out _) ⟨hb3.os, hb3.tape, hb3.output, hb3.size, hb3.block⟩⟩
set_option maxHeartbeats 1000000 in
theorem division_nanB (A B : Nat) (NA NB : Bool) (MA MB : Nat) (EA EB RA RB mode : Int) (w : World) (hT : Tab w) (hs : 1 < w.heap.size)
    (hPA : ∀ w, Tab w → 1 < w.heap.size → Calls Tryd.prog 58 #[.float .f64 A] w fun r w' => r = .returned (.tuple #[.agg #[.bool NA, .int .u64 MA, .int .i64 EA], .int .i64 RA]) ∧ Below w.heap.size w w')
    (hPB : ∀ w, Tab w → 1 < w.heap.size → Calls Tryd.prog 58 #[.float .f64 B] w fun r w' => r = .returned (.tuple #[.agg #[.bool NB, .int .u64 MB, .int .i64 EB], .int .i64 RB]) ∧ Below w.heap.size w w')
    (hcase : (RA == 0) = false ∨ (RA = 0 ∧ (RB == 0) = false) ∨ (RA = 0 ∧ RB = 0 ∧ ((MA : Int) != 0) = false) ∨ (RA = 0 ∧ RB = 0 ∧ ((MA : Int) != 0) = true ∧ ((MB : Int) != 0) = false))
    (hq : FloatKind.f64.format.div A B = none) (hi1 : ∀ w, Calls Tryd.prog 52 #[.float .f64 A] w fun r w' => r = .returned (.bool false) ∧ w' = w) (hi2 : ∀ w, Calls Tryd.prog 52 #[.float .f64 B] w fun r w' => r = .returned (.bool true) ∧ w' = w) :
    Calls Tryd.prog 36 #[.float .f64 A, .float .f64 B, .int .i64 mode] w fun r w' => r = .returned (.tuple #[.float .f32 2143289344, .int .i64 0]) ∧ Below w.heap.size w w' := by
  have HPA := hid hPA
  have HPB := hid hPB
  obtain ⟨f, hf, ha⟩ := nan_arith .quo A B (by simp) hq
  have HF := hid hf
  have H3 := hid (fun (v w : World) => isnan_any (f v) w (hf v).1)
  have H1 := hid hi1
  have H2 := hid hi2
  clear hq hf hi1 hi2
  clear hPA hPB
  rcases hcase with h1 | ⟨h1, h2⟩ | ⟨h1, h2, h3⟩ | ⟨h1, h2, h3, h4⟩
  all_goals (try subst h1)
  all_goals (try subst h2)
  all_goals
    go_enter Tryd.func36, Tryd.ntmps36
    go_wp2_with fail
    refine (HPA.out _ hT hs).mono ?_
    rintro r w1 ⟨rfl, hb1⟩
    have hB1 := hid hb1
    clear hb1
    go_wp2_with fail
    refine (HPB.out _ (hT.below hs (bl_al hB1.out _)) ?_).mono ?_
    · have := hB1.out.size; simp; omega
    rintro r w2 ⟨rfl, hb2⟩
    obtain ⟨hcl, hf⟩ := bcell hb2
    have hz2 : w1.heap.size < w2.heap.size := by have := hb2.size; simp at this; omega
    have c0 : w2.cell? ⟨w1.heap.size, 0, none⟩ = some (.bool NA) := by rw [hcl _ _ (by simp)]; simp [go_sem]
    have c1 : w2.cell? ⟨w1.heap.size, 1, none⟩ = some (.int .u64 MA) := by rw [hcl _ _ (by simp)]; simp [go_sem]
    have c2 : w2.cell? ⟨w1.heap.size, 2, none⟩ = some (.int .i64 EA) := by rw [hcl _ _ (by simp)]; simp [go_sem]
    have hB2 := hid (bl_then (bl_al hB1.out _) hb2)
    have hz1 : w.heap.size ≤ w1.heap.size := hB1.out.size
    clear hcl hf hb2
    go_wp2_with fail
    refine (H1.out _).mono ?_
    rintro r w3 ⟨rfl, rfl⟩
    go_wp2_with fail
    refine (H2.out _).mono ?_
    rintro r w3 ⟨rfl, rfl⟩
    go_wp2_with fail
    refine (theNaN_any _).mono ?_
    rintro r w4 ⟨rfl, hb3⟩
    go_wp2
    go_ret2
    exact ⟨rfl, bl_then (bl_al hB2.out _) ⟨hb3.os, hb3.tape, hb3.output, hb3.size, hb3.block⟩⟩
set_option maxHeartbeats 1000000 in
theorem division_bad (A B : Nat) (NA NB : Bool) (MA MB : Nat) (EA EB RA RB mode : Int) (w : World) (hT : Tab w) (hs : 1 < w.heap.size)
    (hPA : ∀ w, Tab w → 1 < w.heap.size → Calls Tryd.prog 58 #[.float .f64 A] w fun r w' => r = .returned (.tuple #[.agg #[.bool NA, .int .u64 MA, .int .i64 EA], .int .i64 RA]) ∧ Below w.heap.size w w')
    (hPB : ∀ w, Tab w → 1 < w.heap.size → Calls Tryd.prog 58 #[.float .f64 B] w fun r w' => r = .returned (.tuple #[.agg #[.bool NB, .int .u64 MB, .int .i64 EB], .int .i64 RB]) ∧ Below w.heap.size w w')
    (hcase : (RA == 0) = false ∨ (RA = 0 ∧ (RB == 0) = false) ∨ (RA = 0 ∧ RB = 0 ∧ ((MA : Int) != 0) = false) ∨ (RA = 0 ∧ RB = 0 ∧ ((MA : Int) != 0) = true ∧ ((MB : Int) != 0) = false))
    (hq : FloatKind.f64.format.div A B = none) (hi1 : ∀ w, Calls Tryd.prog 52 #[.float .f64 A] w fun r w' => r = .returned (.bool false) ∧ w' = w) (hi2 : ∀ w, Calls Tryd.prog 52 #[.float .f64 B] w fun r w' => r = .returned (.bool false) ∧ w' = w) :
    Calls Tryd.prog 36 #[.float .f64 A, .float .f64 B, .int .i64 mode] w fun r w' => r = .returned (.tuple #[.float .f32 2143289344, .int .i64 8]) ∧ Below w.heap.size w w' := by
  have HPA := hid hPA
  have HPB := hid hPB
  obtain ⟨f, hf, ha⟩ := nan_arith .quo A B (by simp) hq
  have HF := hid hf
  have H3 := hid (fun (v w : World) => isnan_any (f v) w (hf v).1)
  have H1 := hid hi1
  have H2 := hid hi2
  clear hq hf hi1 hi2
  clear hPA hPB
  rcases hcase with h1 | ⟨h1, h2⟩ | ⟨h1, h2, h3⟩ | ⟨h1, h2, h3, h4⟩
  all_goals (try subst h1)
  all_goals (try subst h2)
  all_goals
    go_enter Tryd.func36, Tryd.ntmps36
    go_wp2_with fail
    refine (HPA.out _ hT hs).mono ?_
    rintro r w1 ⟨rfl, hb1⟩
    have hB1 := hid hb1
    clear hb1
    go_wp2_with fail
    refine (HPB.out _ (hT.below hs (bl_al hB1.out _)) ?_).mono ?_
    · have := hB1.out.size; simp; omega
    rintro r w2 ⟨rfl, hb2⟩
    obtain ⟨hcl, hf⟩ := bcell hb2
    have hz2 : w1.heap.size < w2.heap.size := by have := hb2.size; simp at this; omega
    have c0 : w2.cell? ⟨w1.heap.size, 0, none⟩ = some (.bool NA) := by rw [hcl _ _ (by simp)]; simp [go_sem]
    have c1 : w2.cell? ⟨w1.heap.size, 1, none⟩ = some (.int .u64 MA) := by rw [hcl _ _ (by simp)]; simp [go_sem]
    have c2 : w2.cell? ⟨w1.heap.size, 2, none⟩ = some (.int .i64 EA) := by rw [hcl _ _ (by simp)]; simp [go_sem]
    have hB2 := hid (bl_then (bl_al hB1.out _) hb2)
    have hz1 : w.heap.size ≤ w1.heap.size := hB1.out.size
    clear hcl hf hb2
    go_wp2_with fail
    refine (H1.out _).mono ?_
    rintro r w3 ⟨rfl, rfl⟩
    go_wp2_with fail
    refine (H2.out _).mono ?_
    rintro r w3 ⟨rfl, rfl⟩
    go_wp2_with fail
    refine (H3.out _ _).mono ?_
    rw [decide_eq_true (HF.out _).2]
    rintro r w3 ⟨rfl, rfl⟩
    go_wp2_with fail
    refine (theNaN_any _).mono ?_
    rintro r w4 ⟨rfl, hb3⟩
    go_wp2
    go_ret2
    exact ⟨rfl, bl_then (bl_al hB2.out _) ⟨hb3.os, hb3.tape, hb3.output, hb3.size, hb3.block⟩⟩
set_option maxHeartbeats 1000000 in
theorem division_some (A B : Nat) (NA NB : Bool) (MA MB : Nat) (EA EB RA RB mode : Int) (w : World) (hT : Tab w) (hs : 1 < w.heap.size)
    (hPA : ∀ w, Tab w → 1 < w.heap.size → Calls Tryd.prog 58 #[.float .f64 A] w fun r w' => r = .returned (.tuple #[.agg #[.bool NA, .int .u64 MA, .int .i64 EA], .int .i64 RA]) ∧ Below w.heap.size w w')
    (hPB : ∀ w, Tab w → 1 < w.heap.size → Calls Tryd.prog 58 #[.float .f64 B] w fun r w' => r = .returned (.tuple #[.agg #[.bool NB, .int .u64 MB, .int .i64 EB], .int .i64 RB]) ∧ Below w.heap.size w w')
    (hcase : (RA == 0) = false ∨ (RA = 0 ∧ (RB == 0) = false) ∨ (RA = 0 ∧ RB = 0 ∧ ((MA : Int) != 0) = false) ∨ (RA = 0 ∧ RB = 0 ∧ ((MA : Int) != 0) = true ∧ ((MB : Int) != 0) = false))
    (X z : Nat) (hq : FloatKind.f64.format.div A B = some X) (hi1 : ∀ w, Calls Tryd.prog 52 #[.float .f64 A] w fun r w' => r = .returned (.bool false) ∧ w' = w) (hi2 : ∀ w, Calls Tryd.prog 52 #[.float .f64 B] w fun r w' => r = .returned (.bool false) ∧ w' = w) (hi3 : ∀ w, Calls Tryd.prog 52 #[.float .f64 X] w fun r w' => r = .returned (.bool false) ∧ w' = w) (hc : ∀ w : World, (convert 30 26 (.float .f64 X)).run Tryd.prog w = .ok (.float .f32 z) w) (zb : Bool) (FL : Int) (hFL : (if (RA == 0) = true ∧ zb = true then 16 else 0 : Int) = FL) (hzb : (FloatKind.f64.format.order B 0 == some .eq) = zb) :
    Calls Tryd.prog 36 #[.float .f64 A, .float .f64 B, .int .i64 mode] w fun r w' => r = .returned (.tuple #[.float .f32 z, .int .i64 FL]) ∧ Below w.heap.size w w' := by
  have HPA := hid hPA
  have HPB := hid hPB
  have ha : ∀ w : World, (binOp .quo 30 (.float .f64 A) (.float .f64 B)).run Tryd.prog w = .ok (.float .f64 X) w := fun w => run_float_arith w .quo _ .f64 A B X hq
  have H1 := hid hi1
  have HFL := hid hFL
  clear hFL
  have H2 := hid hi2
  have H3 := hid hi3
  clear hq hi1 hi2 hi3
  clear hPA hPB
  rcases hcase with h1 | ⟨h1, h2⟩ | ⟨h1, h2, h3⟩ | ⟨h1, h2, h3, h4⟩
  all_goals (cases zb)
  all_goals (try subst h1)
  all_goals (try subst h2)
  all_goals
    go_enter Tryd.func36, Tryd.ntmps36
    go_wp2_with fail
    refine (HPA.out _ hT hs).mono ?_
    rintro r w1 ⟨rfl, hb1⟩
    have hB1 := hid hb1
    clear hb1
    go_wp2_with fail
    refine (HPB.out _ (hT.below hs (bl_al hB1.out _)) ?_).mono ?_
    · have := hB1.out.size; simp; omega
    rintro r w2 ⟨rfl, hb2⟩
    obtain ⟨hcl, hf⟩ := bcell hb2
    have hz2 : w1.heap.size < w2.heap.size := by have := hb2.size; simp at this; omega
    have c0 : w2.cell? ⟨w1.heap.size, 0, none⟩ = some (.bool NA) := by rw [hcl _ _ (by simp)]; simp [go_sem]
    have c1 : w2.cell? ⟨w1.heap.size, 1, none⟩ = some (.int .u64 MA) := by rw [hcl _ _ (by simp)]; simp [go_sem]
    have c2 : w2.cell? ⟨w1.heap.size, 2, none⟩ = some (.int .i64 EA) := by rw [hcl _ _ (by simp)]; simp [go_sem]
    have hB2 := hid (bl_then (bl_al hB1.out _) hb2)
    have hz1 : w.heap.size ≤ w1.heap.size := hB1.out.size
    clear hcl hf hb2
    go_wp2_with fail
    refine (H1.out _).mono ?_
    rintro r w3 ⟨rfl, rfl⟩
    go_wp2_with fail
    refine (H2.out _).mono ?_
    rintro r w3 ⟨rfl, rfl⟩
    go_wp2_with fail
    refine (H3.out _).mono ?_
    rintro r w3 ⟨rfl, rfl⟩
    go_wp2
    go_ret2
    exact ⟨by rw [← HFL.out]; first | rfl | (rw [if_neg (by rw [h1]; simp)]; rfl), bl_al hB2.out _⟩
set_option maxHeartbeats 1000000 in
theorem division_fin (A B : Nat) (NA NB : Bool) (MA MB : Nat) (EA EB RA RB mode : Int) (w : World) (hT : Tab w) (hs : 1 < w.heap.size)
    (hPA : ∀ w, Tab w → 1 < w.heap.size → Calls Tryd.prog 58 #[.float .f64 A] w fun r w' => r = .returned (.tuple #[.agg #[.bool NA, .int .u64 MA, .int .i64 EA], .int .i64 RA]) ∧ Below w.heap.size w w')
    (hPB : ∀ w, Tab w → 1 < w.heap.size → Calls Tryd.prog 58 #[.float .f64 B] w fun r w' => r = .returned (.tuple #[.agg #[.bool NB, .int .u64 MB, .int .i64 EB], .int .i64 RB]) ∧ Below w.heap.size w w')
    (hRA : RA = 0) (hRB : RB = 0) (hMA : MA ≠ 0) (hMB : MB ≠ 0) (lA : MA < 18446744073709551616) (eA1 : -1200 ≤ EA) (eA2 : EA ≤ 1200) (eB1 : -1200 ≤ EB) (eB2 : EB ≤ 1200) :
    Calls Tryd.prog 36 #[.float .f64 A, .float .f64 B, .int .i64 mode] w fun r w' => r = .returned (.tuple #[.float .f32 (signN32 (NA != NB) (nMag (qMant MA MB) (EA - ((64 - bitLen MA : Nat) : Int) - EB) mode (NA != NB))), .int .i64 (rFlag 24 (-126) 127 (qMant MA MB) (EA - ((64 - bitLen MA : Nat) : Int) - EB) mode (NA != NB))]) ∧ Below w.heap.size w w' := by
  subst hRA hRB
  have HPA := hid hPA
  have HPB := hid hPB
  obtain ⟨q1, q2⟩ := qMant_ok MA MB hMA lA
  have HQ := hid (fun (w : World) => quotient_any NA NB MA MB EA EB w lA hMB (by omega) (by omega) (by omega) (by omega))
  have HR := hid (fun (w : World) hT hs => round32_any (NA != NB) (qMant MA MB) (EA - ((64 - bitLen MA : Nat) : Int) - EB) mode w q2 q1 (by omega) (by omega) hT hs)
  have hcv := fun w => conv_run _ _ (n_conv (qMant MA MB) (EA - ((64 - bitLen MA : Nat) : Int) - EB) mode (NA != NB)).1 w
  obtain ⟨G, hG⟩ : ∃ G, Hid (EA - ((64 - bitLen MA : Nat) : Int) - EB = G) := ⟨_, rfl⟩
  rw [hG.out] at HQ HR hcv ⊢
  obtain ⟨Q, hQ⟩ : ∃ Q, Hid (qMant MA MB = Q) := ⟨_, rfl⟩
  rw [hQ.out] at HQ HR hcv ⊢
  obtain ⟨S, hS⟩ : ∃ S, Hid ((NA != NB) = S) := ⟨_, rfl⟩
  rw [hS.out] at HQ HR hcv ⊢
  obtain ⟨X, hX⟩ : ∃ X, Hid (signN S (rMag 24 (-126) 127 Q G mode S) = X) := ⟨_, rfl⟩
  obtain ⟨Y, hY⟩ : ∃ Y, Hid (rFlag 24 (-126) 127 Q G mode S = Y) := ⟨_, rfl⟩
  obtain ⟨Z, hZ⟩ : ∃ Z, Hid (signN32 S (nMag Q G mode S) = Z) := ⟨_, rfl⟩
  rw [hX.out, hY.out] at HR
  rw [hX.out, hZ.out] at hcv
  rw [hY.out, hZ.out]
  have h3 : ((MA : Int) != 0) = true := by simpa using hMA
  have h4 : ((MB : Int) != 0) = true := by simpa using hMB
  clear hPA hPB q1 q2 hMA hMB lA eA1 eA2 eB1 eB2
  go_enter Tryd.func36, Tryd.ntmps36
  go_wp2_with fail
  refine (HPA.out _ hT hs).mono ?_
  rintro r w1 ⟨rfl, hb1⟩
  have hB1 := hid hb1
  clear hb1
  go_wp2_with fail
  refine (HPB.out _ (hT.below hs (bl_al hB1.out _)) ?_).mono ?_
  · have := hB1.out.size; simp; omega
  rintro r w2 ⟨rfl, hb2⟩
  obtain ⟨hcl, hf⟩ := bcell hb2
  have hz2 : w1.heap.size < w2.heap.size := by have := hb2.size; simp at this; omega
  have c0 : w2.cell? ⟨w1.heap.size, 0, none⟩ = some (.bool NA) := by rw [hcl _ _ (by simp)]; simp [go_sem]
  have c1 : w2.cell? ⟨w1.heap.size, 1, none⟩ = some (.int .u64 MA) := by rw [hcl _ _ (by simp)]; simp [go_sem]
  have c2 : w2.cell? ⟨w1.heap.size, 2, none⟩ = some (.int .i64 EA) := by rw [hcl _ _ (by simp)]; simp [go_sem]
  have hB2 := hid (bl_then (bl_al hB1.out _) hb2)
  have hz1 : w.heap.size ≤ w1.heap.size := hB1.out.size
  clear hcl hf hb2
  go_wp2_with fail
  refine (HQ.out _).mono ?_
  rintro r w3 ⟨rfl, hb3⟩
  have hB3 := hid (bl_then (bl_al hB2.out _) hb3)
  clear hb3
  go_wp2_with fail
  refine (binary32_any _).mono ?_
  rintro r w4 ⟨rfl, hb4⟩
  have hB4 := hid (bl_then hB3.out hb4)
  clear hb4
  go_wp2_with fail
  refine (HR.out _ (hT.below hs hB4.out) (Nat.lt_of_lt_of_le hs hB4.out.size)).mono ?_
  rintro r w5 ⟨rfl, hb5⟩
  go_wp2
  go_ret2
  exact ⟨rfl, bl_then hB4.out hb5⟩
end Go.Proofs.YtpgcelbgmpfliaaDoor
