
/- Zero and Eye of any ints, by matrix and by the document. (Written by mknfa.py.) -/
import Derived.Test.YtokeialkeadanaaP36
import Derived.Test.YtokeialkeadanaaP33
import Derived.Test.YtokeialkeadanaaP38
namespace Go.Proofs.Ytokeialkeadanaa
open Go.RowKit Go.IntWalk

theorem side_some {r : Int} (h : sideB r = true) : ∃ a : Nat, r = a ∧ a ≤ 12 := by
  unfold sideB at h
  rw [Bool.and_eq_true, decide_eq_true_eq, decide_eq_true_eq] at h
  obtain ⟨a, rfl⟩ := Int.eq_ofNat_of_zero_le h.1
  exact ⟨a, rfl, by omega⟩
theorem side_no {r : Int} (h : sideB r = false) : r < 0 ∨ 12 < r := by
  unfold sideB at h
  rw [Bool.and_eq_false_iff, decide_eq_false_iff_not, decide_eq_false_iff_not] at h
  omega
/-- What is handed back of noughts. -/
def ZerR (r c g : Nat) (e : Ending) (w' : World) : Prop := e = .returned (.tuple #[.agg #[.int .i64 r, .int .i64 c, .slice (some ⟨g, 0, none⟩) (r * c) (r * c)], .int .i64 0]) ∧ w'.rowIs g 57 (r * c) (fun _ => .float .f64 0)
set_option maxRecDepth 4000 in
set_option maxHeartbeats 1000000 in
theorem Zero_bad (r c : Int) (w : World) (h : ¬ (sideB r = true ∧ sideB c = true)) : Calls Try.prog 10 #[.int .i64 r, .int .i64 c] w fun e w' => e = .returned (NonM 1) ∧ Below w.heap.size w w' := by
  have HS1 := hid (fun W => isSide_any r W)
  have HS2 := hid (fun W => isSide_any c W)
  have HR : Hid ((w.alloc (MBox 0 0 none 0 0)).heap[w.heap.size]? = some (MBox 0 0 none 0 0)) := nblkM _ _
  have HB : Hid (Below w.heap.size w (w.alloc (MBox 0 0 none 0 0))) := (Below.refl _ _).alloc (Nat.le_refl _) _
  obtain ⟨V, hV⟩ : ∃ V, Hid (w.alloc (MBox 0 0 none 0 0) = V) := ⟨_, rfl⟩
  rw [hV.out] at HR HB
  have hV' := hV.out
  obtain ⟨y0, y1, y2⟩ := mcells_of HR.out
  have fz := frzM HR.out
  unfold MBox at hV'
  unfold NonM
  unfold MV
  cases hr : sideB r with
  | false =>
    rw [hr] at HS1
    clear h hr HS2
    go_enter Try.func10, Try.ntmps10
    go_wp2_with fail
    refine (HS1.out _).mono ?_
    rintro e ww ⟨rfl, hw⟩
    rw [hw]
    clear hw
    have HB1 := HB
    have HR1 := HR
    go_wp2_with fail
    refine (refused_any 1 _).mono ?_
    rintro e w2 ⟨rfl, hb2⟩
    have HB2 := hid (HB1.out.trans (hb2.mono HB1.out.size))
    have HR2 := hid (blkM HR1.out hb2)
    obtain ⟨y0, y1, y2⟩ := mcells_of HR2.out
    have fz := frzM HR2.out
    unfold MV
    clear hb2
    go_wp2_with fail
    exact bodyPost_ret (v := .tuple #[MV 0 0 none 0 0, .int .i64 1]) (by simp [results, Try.results10, go_sem, y0, y1, y2, MV]) rfl ⟨rfl, StoM.below HB2.out (Nat.le_refl _)⟩
  | true =>
    have hc : sideB c = false := by
      cases hq : sideB c with
      | false => rfl
      | true => exact absurd ⟨hr, hq⟩ h
    rw [hr] at HS1
    rw [hc] at HS2
    clear h hr hc
    go_enter Try.func10, Try.ntmps10
    go_wp2_with fail
    refine (HS1.out _).mono ?_
    rintro e ww ⟨rfl, hw⟩
    rw [hw]
    clear hw
    go_wp2_with fail
    refine (HS2.out _).mono ?_
    rintro e ww ⟨rfl, hw⟩
    rw [hw]
    clear hw
    have HB1 := HB
    have HR1 := HR
    go_wp2_with fail
    refine (refused_any 1 _).mono ?_
    rintro e w2 ⟨rfl, hb2⟩
    have HB2 := hid (HB1.out.trans (hb2.mono HB1.out.size))
    have HR2 := hid (blkM HR1.out hb2)
    obtain ⟨y0, y1, y2⟩ := mcells_of HR2.out
    have fz := frzM HR2.out
    unfold MV
    clear hb2
    go_wp2_with fail
    exact bodyPost_ret (v := .tuple #[MV 0 0 none 0 0, .int .i64 1]) (by simp [results, Try.results10, go_sem, y0, y1, y2, MV]) rfl ⟨rfl, StoM.below HB2.out (Nat.le_refl _)⟩
def zerE (r c : Int) : Int := if sideB r = true ∧ sideB c = true then 0 else 1
theorem zer_res {r c g : Nat} {W : World} (hr : r ≤ 12) (hc : c ≤ 12) (h : W.rowIs g 57 (r * c) (fun _ => .float .f64 0)) : ResM 0 r c (fun _ _ => 0) W r c (some ⟨g, 0, none⟩) (r * c) (r * c) := by
  have : r * c ≤ 12 * 12 := Nat.mul_le_mul hr hc
  exact Or.inl ⟨rfl, rfl, rfl, rfl, rfl, g, fun _ => 0, rfl, row_fn (o := fun _ => 0) h (fun _ _ => by decide) (by omega), fun _ _ _ _ => by show canonOf 0 = 0; decide, finF_of (fun _ _ => by decide)⟩
theorem Zero_tot (r c : Int) (w : World) : Calls Try.prog 10 #[.int .i64 r, .int .i64 c] w fun e w' => (∃ X0 X1 X2 X3 X4, e = .returned (.tuple #[.agg #[.int .i64 X0, .int .i64 X1, .slice X2 X3 X4], .int .i64 (zerE r c)]) ∧ ResM (zerE r c) r.toNat c.toNat (fun _ _ => 0) w' X0 X1 X2 X3 X4) ∧ Below w.heap.size w w' := by
  unfold zerE
  by_cases h : sideB r = true ∧ sideB c = true
  · rw [if_pos h]
    obtain ⟨a, rfl, ha⟩ := side_some h.1
    obtain ⟨b, rfl, hb⟩ := side_some h.2
    rw [Int.toNat_natCast a, Int.toNat_natCast b]
    refine (Zero_good a b ha hb w).mono ?_
    rintro e w' ⟨⟨g, rfl, _, hrow⟩, hbb⟩
    exact ⟨⟨_, _, _, _, _, rfl, zer_res ha hb hrow⟩, hbb⟩
  · rw [if_neg h]
    refine (Zero_bad r c w h).mono ?_
    rintro e w' ⟨rfl, hbb⟩
    obtain ⟨X0, X1, X2, X3, X4, e1, e2⟩ := res_non r.toNat c.toNat (fun _ _ => 0) 1 w' (by decide)
    exact ⟨⟨X0, X1, X2, X3, X4, by rw [e1], e2⟩, hbb⟩
set_option maxRecDepth 4000 in
set_option maxHeartbeats 2000000 in
theorem rZero_bad (r c : Int) (w : World) (h : ¬ (sideB r = true ∧ sideB c = true)) : Calls Try.prog 11 #[.int .i64 r, .int .i64 c] w fun e w' => e = .returned (NonM 1) ∧ Below w.heap.size w w' := by
  have HR : Hid ((w.alloc (MBox 0 0 none 0 0)).heap[w.heap.size]? = some (MBox 0 0 none 0 0)) := nblkM _ _
  have HB : Hid (Below w.heap.size w (w.alloc (MBox 0 0 none 0 0))) := (Below.refl _ _).alloc (Nat.le_refl _) _
  obtain ⟨V, hV⟩ : ∃ V, Hid (w.alloc (MBox 0 0 none 0 0) = V) := ⟨_, rfl⟩
  rw [hV.out] at HR HB
  have hV' := hV.out
  obtain ⟨y0, y1, y2⟩ := mcells_of HR.out
  have fz := frzM HR.out
  unfold MBox at hV'
  unfold NonM
  unfold MV
  cases hr : sideB r with
  | false =>
    rcases side_no hr with h1 | h1
    · clear h hr
      go_enter Try.func11, Try.ntmps11
      go_wp2_with fail
      exact bodyPost_ret (v := .tuple #[MV 0 0 none 0 0, .int .i64 1]) (by simp [results, Try.results11, go_sem, y0, y1, y2, MV]) rfl ⟨rfl, StoM.below HB.out (Nat.le_refl _)⟩
    · have h0 : ¬ r < 0 := by omega
      clear h hr
      go_enter Try.func11, Try.ntmps11
      go_wp2_with fail
      exact bodyPost_ret (v := .tuple #[MV 0 0 none 0 0, .int .i64 1]) (by simp [results, Try.results11, go_sem, y0, y1, y2, MV]) rfl ⟨rfl, StoM.below HB.out (Nat.le_refl _)⟩
  | true =>
    have hc : sideB c = false := by
      cases hq : sideB c with
      | false => rfl
      | true => exact absurd ⟨hr, hq⟩ h
    obtain ⟨a, rfl, ha⟩ := side_some hr
    have g0 : ¬ (12 : Int) < (a : Int) := by omega
    rcases side_no hc with h1 | h1
    · clear h hr hc ha
      go_enter Try.func11, Try.ntmps11
      go_wp2_with fail
      exact bodyPost_ret (v := .tuple #[MV 0 0 none 0 0, .int .i64 1]) (by simp [results, Try.results11, go_sem, y0, y1, y2, MV]) rfl ⟨rfl, StoM.below HB.out (Nat.le_refl _)⟩
    · have h0 : ¬ c < 0 := by omega
      clear h hr hc ha
      go_enter Try.func11, Try.ntmps11
      go_wp2_with fail
      exact bodyPost_ret (v := .tuple #[MV 0 0 none 0 0, .int .i64 1]) (by simp [results, Try.results11, go_sem, y0, y1, y2, MV]) rfl ⟨rfl, StoM.below HB.out (Nat.le_refl _)⟩
set_option maxRecDepth 4000 in
set_option maxHeartbeats 2000000 in
theorem rZero_good (r c : Nat) (hr : r ≤ 12) (hc : c ≤ 12) (w : World) : Calls Try.prog 11 #[.int .i64 r, .int .i64 c] w fun e w' => (∃ g, ZerR r c g e w' ∧ w.heap.size ≤ g) ∧ Below w.heap.size w w' := by
  have g0 : ¬ (12 : Int) < (r : Int) := by omega
  have g1 : ¬ (12 : Int) < (c : Int) := by omega
  have HZ := hid (fun W => rRaw_any r c (by omega) (by omega) W)
  have HR : Hid ((w.alloc (MBox 0 0 none 0 0)).heap[w.heap.size]? = some (MBox 0 0 none 0 0)) := nblkM _ _
  have HB : Hid (Below w.heap.size w (w.alloc (MBox 0 0 none 0 0))) := (Below.refl _ _).alloc (Nat.le_refl _) _
  obtain ⟨V, hV⟩ : ∃ V, Hid (w.alloc (MBox 0 0 none 0 0) = V) := ⟨_, rfl⟩
  rw [hV.out] at HR HB
  have hV' := hV.out
  unfold MBox at hV'
  have HSZ : Hid (w.heap.size < V.heap.size) := (Array.getElem?_eq_some_iff.1 HR.out).1
  obtain ⟨N, hN⟩ : ∃ p, Hid (r * c = p) := ⟨_, rfl⟩
  unfold ZerR
  rw [hN.out] at HZ ⊢
  unfold MV at HZ
  clear hr hc
  go_enter Try.func11, Try.ntmps11
  go_wp2_with fail
  refine (HZ.out _).mono ?_
  rintro e w2 ⟨rfl, hrow, hb2⟩
  have HB2 := hid (HB.out.trans (hb2.mono HB.out.size))
  have HR2 := hid (blkM HR.out hb2)
  have HW := hid hrow
  obtain ⟨g, hg⟩ : ∃ t, Hid (V.heap.size + 1 = t) := ⟨_, rfl⟩
  rw [hg.out] at HW
  rw [hg.out]
  have HG : Hid (w.heap.size < g) := by
    have e1 := hg.out; have e2 := HSZ.out
    show _ < _
    omega
  obtain ⟨y0, y1, y2⟩ := mcells_of HR2.out
  have fz := frzM HR2.out
  clear hb2 hrow
  go_wp2_with fail
  exact bodyPost_ret (v := .tuple #[.agg #[.int .i64 r, .int .i64 c, .slice (some ⟨g, 0, none⟩) N N], .int .i64 0]) (by simp [results, Try.results11, go_sem, y0, y1, y2]) rfl ⟨⟨g, ⟨rfl, HW.out.of_block (StoM.keep (Nat.ne_of_gt HG.out))⟩, Nat.le_of_lt HG.out⟩, StoM.below HB2.out (Nat.le_refl _)⟩
theorem rZero_tot (r c : Int) (w : World) : Calls Try.prog 11 #[.int .i64 r, .int .i64 c] w fun e w' => (∃ X0 X1 X2 X3 X4, e = .returned (.tuple #[.agg #[.int .i64 X0, .int .i64 X1, .slice X2 X3 X4], .int .i64 (zerE r c)]) ∧ ResM (zerE r c) r.toNat c.toNat (fun _ _ => 0) w' X0 X1 X2 X3 X4) ∧ Below w.heap.size w w' := by
  unfold zerE
  by_cases h : sideB r = true ∧ sideB c = true
  · rw [if_pos h]
    obtain ⟨a, rfl, ha⟩ := side_some h.1
    obtain ⟨b, rfl, hb⟩ := side_some h.2
    rw [Int.toNat_natCast a, Int.toNat_natCast b]
    refine (rZero_good a b ha hb w).mono ?_
    rintro e w' ⟨⟨g, ⟨rfl, hrow⟩, _⟩, hbb⟩
    exact ⟨⟨_, _, _, _, _, rfl, zer_res ha hb hrow⟩, hbb⟩
  · rw [if_neg h]
    refine (rZero_bad r c w h).mono ?_
    rintro e w' ⟨rfl, hbb⟩
    obtain ⟨X0, X1, X2, X3, X4, e1, e2⟩ := res_non r.toNat c.toNat (fun _ _ => 0) 1 w' (by decide)
    exact ⟨⟨X0, X1, X2, X3, X4, by rw [e1], e2⟩, hbb⟩
set_option maxRecDepth 4000 in
set_option maxHeartbeats 1000000 in
theorem Eye_bad (n : Int) (w : World) (h : sideB n = false) : Calls Try.prog 13 #[.int .i64 n] w fun e w' => e = .returned (NonM 1) ∧ Below w.heap.size w w' := by
  obtain ⟨z0, z1, z2, z3, z4, HZZ⟩ : ∃ (z0 z1 : Int) (z2 : Option Addr) (z3 z4 : Nat), Hid (z0 = 0 ∧ z1 = 0 ∧ z2 = none ∧ z3 = 0 ∧ z4 = 0) := ⟨0, 0, none, 0, 0, ⟨rfl, rfl, rfl, rfl, rfl⟩⟩
  have HZ : Hid (∀ W, Calls Try.prog 10 #[.int .i64 n, .int .i64 n] W fun e w' => e = .returned (.tuple #[.agg #[.int .i64 z0, .int .i64 z1, .slice z2 z3 z4], .int .i64 1]) ∧ Below W.heap.size W w') := fun W => by
    obtain ⟨e0, e1, e2, e3, e4⟩ := HZZ.out
    rw [e0, e1, e2, e3, e4]
    exact Zero_bad n n W (fun q => by rw [h] at q; exact absurd q.1 (by decide))
  have HR : Hid ((w.alloc (MBox 0 0 none 0 0)).heap[w.heap.size]? = some (MBox 0 0 none 0 0)) := nblkM _ _
  have HB : Hid (Below w.heap.size w (w.alloc (MBox 0 0 none 0 0))) := (Below.refl _ _).alloc (Nat.le_refl _) _
  obtain ⟨V, hV⟩ : ∃ V, Hid (w.alloc (MBox 0 0 none 0 0) = V) := ⟨_, rfl⟩
  rw [hV.out] at HR HB
  have hV' := hV.out
  unfold MBox at hV'
  unfold NonM
  unfold MV
  clear h
  go_enter Try.func13, Try.ntmps13
  go_wp2_with fail
  refine (HZ.out _).mono ?_
  rintro e w1 ⟨rfl, hb1⟩
  have hal : Below w1.heap.size w1 (w1.alloc (MBox z0 z1 z2 z3 z4)) := (Below.refl _ _).alloc (Nat.le_refl _) _
  have HB1 := hid ((HB.out.trans (hb1.mono HB.out.size)).trans (hal.mono (HB.out.trans (hb1.mono HB.out.size)).size))
  have HR1 := hid (blkM (blkM HR.out hb1) hal)
  obtain ⟨V1, hV1⟩ : ∃ V, Hid (w1.alloc (MBox z0 z1 z2 z3 z4) = V) := ⟨_, rfl⟩
  rw [hV1.out] at HB1 HR1
  have hW1 := hV1.out
  unfold MBox at hW1
  clear hal hb1 HZ
  go_wp2_with fail
  refine (refused_any 1 _).mono ?_
  rintro e w2 ⟨rfl, hb2⟩
  have HB2 := hid (HB1.out.trans (hb2.mono HB1.out.size))
  have HR2 := hid (blkM HR1.out hb2)
  obtain ⟨y0, y1, y2⟩ := mcells_of HR2.out
  have fz := frzM HR2.out
  unfold MV
  clear hb2
  go_wp2_with fail
  exact bodyPost_ret (v := .tuple #[MV 0 0 none 0 0, .int .i64 1]) (by simp [results, Try.results13, go_sem, y0, y1, y2, MV]) rfl ⟨rfl, StoM.below HB2.out (Nat.le_refl _)⟩
def eyeE (n : Int) : Int := if sideB n = true then 0 else 1
def eyeV (i j : Nat) : Nat := if i = j then 4607182418800017408 else 0
theorem eye_res {n g : Nat} {W : World} (h : Gd W n n (some ⟨g, 0, none⟩) (n * n) (n * n) (eyeF n)) : ResM 0 n n eyeV W n n (some ⟨g, 0, none⟩) (n * n) (n * n) :=
  Or.inl ⟨rfl, rfl, rfl, rfl, rfl, g, eyeF n, rfl, h.2.2.2.1, fun i j _ hj => by
    rw [eye_at hj]
    unfold eyeV
    split <;> decide, h.2.2.2.2⟩
theorem Eye_tot (n : Int) (w : World) : Calls Try.prog 13 #[.int .i64 n] w fun e w' => (∃ X0 X1 X2 X3 X4, e = .returned (.tuple #[.agg #[.int .i64 X0, .int .i64 X1, .slice X2 X3 X4], .int .i64 (eyeE n)]) ∧ ResM (eyeE n) n.toNat n.toNat eyeV w' X0 X1 X2 X3 X4) ∧ Below w.heap.size w w' := by
  unfold eyeE
  cases h : sideB n with
  | true =>
    rw [if_pos rfl]
    obtain ⟨a, rfl, ha⟩ := side_some h
    rw [Int.toNat_natCast a]
    refine (Eye_good a ha w).mono ?_
    rintro e w' ⟨⟨g, rfl, hg⟩, hbb⟩
    exact ⟨⟨_, _, _, _, _, rfl, eye_res hg⟩, hbb⟩
  | false =>
    rw [if_neg (by decide)]
    refine (Eye_bad n w h).mono ?_
    rintro e w' ⟨rfl, hbb⟩
    obtain ⟨X0, X1, X2, X3, X4, e1, e2⟩ := res_non n.toNat n.toNat eyeV 1 w' (by decide)
    exact ⟨⟨X0, X1, X2, X3, X4, by rw [e1], e2⟩, hbb⟩
end Go.Proofs.Ytokeialkeadanaa
