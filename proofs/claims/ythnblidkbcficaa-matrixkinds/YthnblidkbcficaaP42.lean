
/- matrix.Outer and Dot of any two lists; the law's number. (Written by mknbd.py.) -/
import Derived.Test.YthnblidkbcficaaP41
namespace Go.Proofs.Ythnblidkbcficaa
open Go.RowKit Go.IntWalk

/-- A variable that holds a list. -/
def SBox (sa : Option Addr) (n ka : Nat) : Obj := .cells #[.slice sa n ka] 27
theorem scell_of {w : World} {b : Nat} {sa : Option Addr} {n ka : Nat} (h : w.heap[b]? = some (SBox sa n ka)) : w.cell? ⟨b, 0, none⟩ = some (.slice sa n ka) := by
  unfold SBox at h
  simp [World.cell?, h]
theorem chkLs_any (sa sb : Option Addr) (n m ka kb : Nat) (xs ys : List Nat) (w : World) (ha : FlM w sa n ka xs) (hb : FlM w sb m kb ys) (hn : n ≤ 17592186043904) (hm : m ≤ 17592186043904) :
    Calls Try.prog 111 #[.slice sa n ka, .slice sb m kb] w fun e w' => e = .returned (.int .i64 (first2 (lstE n xs) (lstE m ys))) ∧ Below w.heap.size w w' := by
  have HA := hid (chkL_any sa n ka xs w ha hn)
  have HB := hid (fun W (hW : Below w.heap.size w W) => chkL_any sb m kb ys W (hb.below hW) hm)
  obtain ⟨E, hE⟩ : ∃ E, Hid (lstE n xs = E) := ⟨_, rfl⟩
  obtain ⟨F, hF⟩ : ∃ E, Hid (lstE m ys = E) := ⟨_, rfl⟩
  rw [hE.out] at HA
  rw [hF.out] at HB
  rw [hE.out, hF.out]
  clear ha hb hn hm
  by_cases h : E = 0
  · subst h
    show Calls _ _ _ _ (fun e w' => e = .returned (.int .i64 F) ∧ _)
    go_enter Try.func111, Try.ntmps111
    go_wp2_with fail
    refine HA.out.mono ?_
    rintro e w1 ⟨rfl, hb1⟩
    have HB1 := hid hb1
    clear hb1
    go_wp2_with fail
    refine (HB.out _ HB1.out).mono ?_
    rintro e w2 ⟨rfl, hb2⟩
    have HB2 := hid (HB1.out.trans (hb2.mono HB1.out.size))
    clear hb2
    go_wp2_with fail
    go_ret
    exact ⟨rfl, HB2.out⟩
  · have hne : (E != 0) = true := by simpa using h
    rw [show first2 E F = E from by unfold first2; rw [if_neg h]]
    clear h
    go_enter Try.func111, Try.ntmps111
    go_wp2_with fail
    refine HA.out.mono ?_
    rintro e w1 ⟨rfl, hb1⟩
    have HB1 := hid hb1
    clear hb1
    go_wp2_with fail
    go_ret
    exact ⟨rfl, HB1.out⟩
set_option maxRecDepth 4000 in
set_option maxHeartbeats 1000000 in
theorem clo_Outer (i j p0 p1 n m ka kb : Nat) (sa sb : Option Addr) (f g : Nat → Nat) (w : World) (h0 : w.heap[p0]? = some (SBox sa n ka)) (h1 : w.heap[p1]? = some (SBox sb m kb)) (ha : FnM w sa n ka f) (hb : FnM w sb m kb g) (hi : i < n) (hj : j < m) (fx : f i % 9223372036854775808 < 9218868437227405312) (fy : g j % 9223372036854775808 < 9218868437227405312) :
    Calls Try.prog 112 #[.int .i64 i, .int .i64 j, .pointer (some ⟨p0, 0, none⟩), .pointer (some ⟨p1, 0, none⟩)] w fun e w' => ∃ x : Nat, e = .returned (.float .f64 x) ∧ (canonOf x = caf .mul (canonOf (f i)) (canonOf (g j)) ∧ x < 18446744073709551616) ∧ Below w.heap.size w w' := by
  obtain ⟨ba, oa, hsa, hba, _, _, hca⟩ : ∃ b off, sa = some ⟨b, off, none⟩ ∧ b < w.heap.size ∧ n ≤ ka ∧ ka ≤ 9223372036854775807 ∧ ∀ j, j < n → w.cell? ⟨b, off + j, none⟩ = some (.float .f64 (f j)) ∧ f j < 18446744073709551616 := by
    rcases ha with ⟨_, h, _⟩ | h
    · omega
    · exact h
  obtain ⟨bb, ob, hsb, hbb, _, _, hcb⟩ : ∃ b off, sb = some ⟨b, off, none⟩ ∧ b < w.heap.size ∧ m ≤ kb ∧ kb ≤ 9223372036854775807 ∧ ∀ j, j < m → w.cell? ⟨b, off + j, none⟩ = some (.float .f64 (g j)) ∧ g j < 18446744073709551616 := by
    rcases hb with ⟨_, h, _⟩ | h
    · omega
    · exact h
  subst hsa hsb
  obtain ⟨z, hz, hzl, hzc⟩ := fin_some ok_m w (f i) (g j) (hca i hi).2 (hcb j hj).2 fx fy
  have HZ := hid (And.intro hzc hzl)
  have hrun := f_mul hz
  have HS : Hid (w.drew.cell? ⟨p0, 0, none⟩ = some (.slice (some ⟨ba, oa, none⟩) n ka) ∧ w.drew.cell? ⟨p1, 0, none⟩ = some (.slice (some ⟨bb, ob, none⟩) m kb) ∧ w.drew.cell? ⟨ba, oa + i, none⟩ = some (.float .f64 (f i)) ∧ w.drew.cell? ⟨bb, ob + j, none⟩ = some (.float .f64 (g j))) := ⟨scell_of h0, scell_of h1, (hca i hi).1, (hcb j hj).1⟩
  have hiI : (i : Int) < (n : Int) := by omega
  have hi0 : (0 : Int) ≤ (i : Int) := by omega
  have hjI : (j : Int) < (m : Int) := by omega
  have hj0 : (0 : Int) ≤ (j : Int) := by omega
  obtain ⟨x, hx⟩ : ∃ t, Hid (f i = t) := ⟨_, rfl⟩
  obtain ⟨y, hy⟩ : ∃ t, Hid (g j = t) := ⟨_, rfl⟩
  rw [hx.out, hy.out] at HS hrun HZ ⊢
  clear h0 h1 hca hcb hba hbb hi hj fx fy hz hzl hzc ha hb
  go_enter Try.func112, Try.ntmps112
  go_wp2_with fail
  refine wp_region_held_drew (S := fun W => W.cell? ⟨p0, 0, none⟩ = some (.slice (some ⟨ba, oa, none⟩) n ka) ∧ W.cell? ⟨p1, 0, none⟩ = some (.slice (some ⟨bb, ob, none⟩) m kb) ∧ W.cell? ⟨ba, oa + i, none⟩ = some (.float .f64 x) ∧ W.cell? ⟨bb, ob + j, none⟩ = some (.float .f64 y)) (by kernel_rfl) HS.out (fun hHeld => ?_)
  refine take_at 0 7 (.slice (some ⟨ba, oa, none⟩) n ka) rfl rfl (by kernel_rfl) (by kernel_rfl) (by kernel_rfl) (fun _ _ _ h => h) (Or.inl ⟨by rfl, fun w hSw => by (try dsimp only at hSw); go_simp⟩) (by assumption) ?_
  simp only [Act.put, List.setIfInBounds_toArray, List.set_cons_zero, List.set_cons_succ]
  refine take_at 1 8 (.int .i64 i) rfl rfl (by kernel_rfl) (by kernel_rfl) (by kernel_rfl) (fun _ _ _ h => h) (Or.inl ⟨by rfl, fun w hSw => by (try dsimp only at hSw); go_simp⟩) (by assumption) ?_
  simp only [Act.put, List.setIfInBounds_toArray, List.set_cons_zero, List.set_cons_succ]
  refine take_at 2 9 (.pointer (some ⟨ba, oa + i, none⟩)) rfl rfl (by kernel_rfl) (by kernel_rfl) (by kernel_rfl) (fun _ _ _ h => h) (Or.inl ⟨by rfl, fun w hSw => by (try dsimp only at hSw); go_simp⟩) (by assumption) ?_
  simp only [Act.put, List.setIfInBounds_toArray, List.set_cons_zero, List.set_cons_succ]
  refine take_at 3 10 (.float .f64 x) rfl rfl (by kernel_rfl) (by kernel_rfl) (by kernel_rfl) (fun _ _ _ h => h) (Or.inl ⟨by rfl, fun w hSw => by (try dsimp only at hSw); go_simp⟩) (by assumption) ?_
  simp only [Act.put, List.setIfInBounds_toArray, List.set_cons_zero, List.set_cons_succ]
  refine take_at 4 11 (.slice (some ⟨bb, ob, none⟩) m kb) rfl rfl (by kernel_rfl) (by kernel_rfl) (by kernel_rfl) (fun _ _ _ h => h) (Or.inl ⟨by rfl, fun w hSw => by (try dsimp only at hSw); go_simp⟩) (by assumption) ?_
  simp only [Act.put, List.setIfInBounds_toArray, List.set_cons_zero, List.set_cons_succ]
  refine take_at 5 12 (.int .i64 j) rfl rfl (by kernel_rfl) (by kernel_rfl) (by kernel_rfl) (fun _ _ _ h => h) (Or.inl ⟨by rfl, fun w hSw => by (try dsimp only at hSw); go_simp⟩) (by assumption) ?_
  simp only [Act.put, List.setIfInBounds_toArray, List.set_cons_zero, List.set_cons_succ]
  refine take_at 6 13 (.pointer (some ⟨bb, ob + j, none⟩)) rfl rfl (by kernel_rfl) (by kernel_rfl) (by kernel_rfl) (fun _ _ _ h => h) (Or.inl ⟨by rfl, fun w hSw => by (try dsimp only at hSw); go_simp⟩) (by assumption) ?_
  simp only [Act.put, List.setIfInBounds_toArray, List.set_cons_zero, List.set_cons_succ]
  refine take_at 7 14 (.float .f64 y) rfl rfl (by kernel_rfl) (by kernel_rfl) (by kernel_rfl) (fun _ _ _ h => h) (Or.inl ⟨by rfl, fun w hSw => by (try dsimp only at hSw); go_simp⟩) (by assumption) ?_
  simp only [Act.put, List.setIfInBounds_toArray, List.set_cons_zero, List.set_cons_succ]
  refine take_at 8 15 (.float .f64 z) rfl rfl (by kernel_rfl) (by kernel_rfl) (by kernel_rfl) (fun _ _ _ h => h) (Or.inl ⟨by rfl, fun w hSw => by (try dsimp only at hSw); go_simp⟩) (by assumption) ?_
  simp only [Act.put, List.setIfInBounds_toArray, List.set_cons_zero, List.set_cons_succ]
  refine take_at 9 6 (.float .f64 z) rfl rfl (by kernel_rfl) (by kernel_rfl) (by kernel_rfl) (fun _ _ _ h => h) (Or.inl ⟨by rfl, fun w hSw => by (try dsimp only at hSw); go_simp⟩) (by assumption) ?_
  simp only [Act.put, List.setIfInBounds_toArray, List.set_cons_zero, List.set_cons_succ]
  refine wpAnyH_done (by kernel_rfl) ?_ _
  go_wp2_with fail
  go_ret
  exact ⟨_, rfl, HZ.out, (Below.refl _ _).drew⟩
theorem lst_gd {w : World} {sa : Option Addr} {n ka : Nat} {xs : List Nat} (h : FlM w sa n ka xs) (he : lstE n xs = 0) : n ≤ 12 ∧ FnM w sa n ka (fun j => xs.getD j 0) ∧ ∀ k, k < n → xs.getD k 0 < 18446744073709551616 ∧ xs.getD k 0 % 9223372036854775808 < 9218868437227405312 := by
  obtain ⟨h1, h2⟩ := lst_zero he
  refine ⟨h1, h.fn, fun k hk => ?_⟩
  have hl := fn_lt h.fn k hk
  refine ⟨hl, fin_exp hl ?_⟩
  have := (finF_iff n (fun j => xs.getD j 0)).1 (fin_get h.1 h2) k hk
  exact this
/-- The numbers of an outer product. -/
def outV (xs ys : List Nat) (i j : Nat) : Nat := caf .mul (canonOf (xs.getD i 0)) (canonOf (ys.getD j 0))
def outT (n : Nat) (xs : List Nat) (m : Nat) (ys : List Nat) : Int := if first2 (lstE n xs) (lstE m ys) = 0 then (if finV n m (outV xs ys) = true then 0 else 5) else first2 (lstE n xs) (lstE m ys)
set_option maxRecDepth 4000 in
set_option maxHeartbeats 1000000 in
theorem Outer_ok (n m ka kb : Nat) (sa sb : Option Addr) (xs ys : List Nat) (w : World) (ha : FlM w sa n ka xs) (hb : FlM w sb m kb ys) (hE : first2 (lstE n xs) (lstE m ys) = 0) :
    Calls Try.prog 54 #[.slice sa n ka, .slice sb m kb] w fun e w' => (∃ (g : Nat) (o : Nat → Nat), e = .returned (AnsM n m (n * m) g o) ∧ FnM w' (some ⟨g, 0, none⟩) (n * m) (n * m) o ∧ ∀ i j, i < n → j < m → canonOf (o (i * m + j)) = outV xs ys i j) ∧ Below w.heap.size w w' := by
  obtain ⟨t1, t2, t3, t4, t5⟩ := three_b w (SBox sa n ka) (SBox sb m kb) (MBox 0 0 none 0 0)
  obtain ⟨e1, e2⟩ := first2_zero hE
  obtain ⟨l1, f1, hfa⟩ := lst_gd ha e1
  obtain ⟨l2, f2, hfb⟩ := lst_gd hb e2
  have HCB := hid (fun W (hW : Below w.heap.size w W) => chkLs_any sa sb n m ka kb xs ys W (ha.below hW) (hb.below hW) (by omega) (by omega))
  rw [hE] at HCB
  have hm1 : n * m ≤ 144 := Nat.mul_le_mul l1 l2
  have HM1 : Hid (n * m ≤ 144) := hm1
  have HFI := hid (fun W (hW : Below (((w.alloc (SBox sa n ka)).alloc (SBox sb m kb)).alloc (MBox 0 0 none 0 0)).heap.size (((w.alloc (SBox sa n ka)).alloc (SBox sb m kb)).alloc (MBox 0 0 none 0 0)) W) => fill_Outer n m (by omega) (by omega) ⟨w.heap.size, 0, none⟩ ⟨w.heap.size + 1, 0, none⟩ (fun i j x => canonOf x = caf .mul (canonOf (xs.getD i 0)) (canonOf (ys.getD j 0))) W (fun W2 i j hW2 hi hj => clo_Outer i j w.heap.size (w.heap.size + 1) n m ka kb sa sb (fun k => xs.getD k 0) (fun k => ys.getD k 0) W2 (blkM (blkM t1 hW) hW2) (blkM (blkM t2 hW) hW2) (((f1.below t4).below hW).below hW2) (((f2.below t4).below hW).below hW2) hi hj (hfa i hi).2 (hfb j hj).2))
  clear f1 f2 e1 e2
  obtain ⟨V, hV⟩ : ∃ V, Hid (((w.alloc (SBox sa n ka)).alloc (SBox sb m kb)).alloc (MBox 0 0 none 0 0) = V) := ⟨_, rfl⟩
  rw [hV.out] at HFI t1 t2 t3 t4 t5
  have hV' := hV.out
  have HB := hid t4
  have HR := hid t3
  have HA0 := hid t1
  have HA1 := hid t2
  have x0 := scell_of t1
  have v0 := scell_of t2
  unfold MBox SBox at hV'
  clear t1 t2 t3 t4 t5 ha hb hE l1 l2 hm1 hfa hfb
  go_enter Try.func54, Try.ntmps54
  go_wp2_with fail
  refine (HCB.out _ HB.out).mono ?_
  rintro e w1 ⟨rfl, hb1⟩
  have HB1 := hid (HB.out.trans (hb1.mono HB.out.size))
  have HR1 := hid (blkM HR.out hb1)
  have HFF := hid (HFI.out _ hb1)
  have x0 := scell_of (blkM HA0.out hb1)
  have v0 := scell_of (blkM HA1.out hb1)
  clear hb1
  go_wp2_with fail
  refine HFF.out.mono ?_
  rintro e w2 ⟨hfi, hb2⟩
  obtain ⟨g1, o1, rfl, hg1, hf1, hp1⟩ := hfi.fn (by have := HM1.out; omega)
  have HB2 := hid (HB1.out.trans (hb2.mono HB1.out.size))
  have HR2 := hid (blkM HR1.out hb2)
  have HF1 := hid hf1
  have HP1 := hid hp1
  clear hb2 hfi hg1 hf1 hp1
  have HAN := hid (answered_any n m (n * m) _ (n * m) o1 w2 HF1.out (by have := HM1.out; omega))
  obtain ⟨X0, X1, X2, X3, X4, hXX⟩ : ∃ a b s l k, Hid ((if finF (n * m) o1 = true then MV n m (some ⟨g1, 0, none⟩) (n * m) (n * m) else MV 0 0 none 0 0) = MV a b s l k) := by
    by_cases q : finF (n * m) o1 = true
    · exact ⟨n, m, _, _, _, by show _ = _; rw [if_pos q]⟩
    · exact ⟨0, 0, _, _, _, by show _ = _; rw [if_neg q]⟩
  obtain ⟨E, hE⟩ : ∃ E, Hid ((if finF (n * m) o1 = true then 0 else 5 : Int) = E) := ⟨_, rfl⟩
  rw [hXX.out, hE.out] at HAN
  unfold MV at HAN ⊢
  go_wp2_with fail
  refine HAN.out.mono ?_
  rintro e w3 ⟨rfl, hk3, hb3⟩
  have HB3 := hid (HB2.out.trans (hb3.mono HB2.out.size))
  have HR3 := hid (blkM HR2.out hb3)
  have HF3 := hid (hk3 _ _ _ _ HF1.out)
  obtain ⟨y0, y1, y2⟩ := mcells_of HR3.out
  have fz := frzM HR3.out
  clear hk3 hb3
  go_wp2_with fail
  exact bodyPost_ret (v := AnsM n m (n * m) g1 o1) (by unfold AnsM; rw [hXX.out, hE.out]; simp [results, Try.results54, go_sem, y0, y1, y2, MV]) rfl ⟨⟨g1, o1, rfl, StoM.fn HF3.out HR3.out, HP1.out⟩, StoM.below HB3.out (by omega)⟩
set_option maxRecDepth 4000 in
set_option maxHeartbeats 1000000 in
theorem Outer_bad (n m ka kb : Nat) (sa sb : Option Addr) (xs ys : List Nat) (w : World) (ha : FlM w sa n ka xs) (hb : FlM w sb m kb ys) (hn : n ≤ 17592186043904) (hm : m ≤ 17592186043904) (hE : first2 (lstE n xs) (lstE m ys) ≠ 0) :
    Calls Try.prog 54 #[.slice sa n ka, .slice sb m kb] w fun e w' => e = .returned (NonM (first2 (lstE n xs) (lstE m ys))) ∧ Below w.heap.size w w' := by
  obtain ⟨t1, t2, t3, t4, t5⟩ := three_b w (SBox sa n ka) (SBox sb m kb) (MBox 0 0 none 0 0)
  have HCB := hid (fun W (hW : Below w.heap.size w W) => chkLs_any sa sb n m ka kb xs ys W (ha.below hW) (hb.below hW) hn hm)
  obtain ⟨E, hEE⟩ : ∃ E, Hid (first2 (lstE n xs) (lstE m ys) = E) := ⟨_, rfl⟩
  rw [hEE.out] at HCB hE
  rw [hEE.out]
  have hne : (E != 0) = true := by simpa using hE
  obtain ⟨V, hV⟩ : ∃ V, Hid (((w.alloc (SBox sa n ka)).alloc (SBox sb m kb)).alloc (MBox 0 0 none 0 0) = V) := ⟨_, rfl⟩
  rw [hV.out] at t1 t2 t3 t4 t5
  have hV' := hV.out
  have HB := hid t4
  have HR := hid t3
  have x0 := scell_of t1
  have v0 := scell_of t2
  unfold MBox SBox at hV'
  unfold NonM
  unfold MV
  clear t1 t2 t3 t4 t5 ha hb hn hm hE
  go_enter Try.func54, Try.ntmps54
  go_wp2_with fail
  refine (HCB.out _ HB.out).mono ?_
  rintro e w1 ⟨rfl, hb1⟩
  have HB1 := hid (HB.out.trans (hb1.mono HB.out.size))
  have HR1 := hid (blkM HR.out hb1)
  clear hb1
  go_wp2_with fail
  refine (refused_any E _).mono ?_
  rintro e w2 ⟨rfl, hb2⟩
  have HB2 := hid (HB1.out.trans (hb2.mono HB1.out.size))
  have HR2 := hid (blkM HR1.out hb2)
  obtain ⟨r0, r1, r2⟩ := mcells_of HR2.out
  have fz := frzM HR2.out
  unfold MV
  clear hb2
  go_wp2_with fail
  exact bodyPost_ret (v := .tuple #[MV 0 0 none 0 0, .int .i64 E]) (by simp [results, Try.results54, go_sem, r0, r1, r2, MV]) rfl ⟨rfl, StoM.below HB2.out (by omega)⟩
theorem Outer_tot (n m ka kb : Nat) (sa sb : Option Addr) (xs ys : List Nat) (w : World) (ha : FlM w sa n ka xs) (hb : FlM w sb m kb ys) (hn : n ≤ 17592186043904) (hm : m ≤ 17592186043904) :
    Calls Try.prog 54 #[.slice sa n ka, .slice sb m kb] w fun e w' => (∃ X0 X1 X2 X3 X4, e = .returned (.tuple #[.agg #[.int .i64 X0, .int .i64 X1, .slice X2 X3 X4], .int .i64 (outT n xs m ys)]) ∧ ResM (outT n xs m ys) n m (outV xs ys) w' X0 X1 X2 X3 X4) ∧ Below w.heap.size w w' := by
  unfold outT
  by_cases h : first2 (lstE n xs) (lstE m ys) = 0
  · rw [if_pos h]
    refine (Outer_ok n m ka kb sa sb xs ys w ha hb h).mono ?_
    rintro e w' ⟨⟨g, o, rfl, hf, hv⟩, hbb⟩
    obtain ⟨X0, X1, X2, X3, X4, e1, e2⟩ := res_of n m g o (outV xs ys) (if finV n m (outV xs ys) = true then 0 else 5) w' rfl hf hv
    exact ⟨⟨X0, X1, X2, X3, X4, by rw [e1], e2⟩, hbb⟩
  · rw [if_neg h]
    refine (Outer_bad n m ka kb sa sb xs ys w ha hb hn hm h).mono ?_
    rintro e w' ⟨rfl, hbb⟩
    obtain ⟨X0, X1, X2, X3, X4, e1, e2⟩ := res_non n m (outV xs ys) _ w' h
    exact ⟨⟨X0, X1, X2, X3, X4, by rw [e1], e2⟩, hbb⟩
theorem ansN_any (x : Nat) (hx : x < 18446744073709551616) (w : World) : Calls Try.prog 113 #[.float .f64 x] w fun e w' => e = .returned (.tuple #[.float .f64 (if finB x = true then x else 0), .int .i64 (if finB x = true then 0 else 5)]) ∧ w' = w := by
  have HIS := hid (fun W => isfinq_any x W hx)
  clear hx
  cases hf : finB x with
  | true =>
    rw [hf] at HIS
    rw [if_pos rfl, if_pos rfl]
    clear hf
    go_enter Try.func113, Try.ntmps113
    go_wp2_with fail
    refine (HIS.out _).mono ?_
    rintro e ww ⟨rfl, hw⟩
    subst hw
    go_wp2_with fail
    go_ret2
    exact ⟨rfl, rfl⟩
  | false =>
    rw [hf] at HIS
    rw [if_neg (by decide), if_neg (by decide)]
    clear hf
    go_enter Try.func113, Try.ntmps113
    go_wp2_with fail
    refine (HIS.out _).mono ?_
    rintro e ww ⟨rfl, hw⟩
    subst hw
    go_wp2_with fail
    go_ret2
    exact ⟨rfl, rfl⟩
theorem finB_canon (x : Nat) : finB (canonOf x) = finB x := by
  unfold finB canonOf
  by_cases h : 9218868437227405312 < x % 9223372036854775808
  · rw [if_pos h, decide_eq_false (by decide), decide_eq_false (by omega)]
  · rw [if_neg h]
theorem canon_fin {x : Nat} (h : finB x = true) : canonOf x = x := by
  have := fin_of h
  unfold canonOf
  rw [if_neg (by omega)]
def eqE (n m : Nat) : Int := if n = m then 0 else 3
/-- What is wrong with two lists that are to be multiplied. -/
def dotE (n : Nat) (xs : List Nat) (m : Nat) (ys : List Nat) : Int := first2 (first2 (lstE n xs) (lstE m ys)) (eqE n m)
def dotW (xs ys : List Nat) (n : Nat) : Nat := dotM (fun k => xs.getD k 0) (fun k => ys.getD k 0) n
def dotT (n : Nat) (xs : List Nat) (m : Nat) (ys : List Nat) : Int := if dotE n xs m ys = 0 then (if finB (dotW xs ys n) = true then 0 else 5) else dotE n xs m ys
def dotD (n : Nat) (xs : List Nat) (m : Nat) (ys : List Nat) : Nat := if dotT n xs m ys = 0 then dotW xs ys n else 0
theorem Dot_tot (n m ka kb : Nat) (sa sb : Option Addr) (xs ys : List Nat) (w : World) (ha : FlM w sa n ka xs) (hb : FlM w sb m kb ys) (hn : n ≤ 17592186043904) (hm : m ≤ 17592186043904) :
    Calls Try.prog 55 #[.slice sa n ka, .slice sb m kb] w fun e w' => e = .returned (.tuple #[.float .f64 (dotD n xs m ys), .int .i64 (dotT n xs m ys)]) ∧ Below w.heap.size w w' := by
  have HCB := hid (chkLs_any sa sb n m ka kb xs ys w ha hb hn hm)
  by_cases h : first2 (lstE n xs) (lstE m ys) = 0
  · rw [h] at HCB
    by_cases hs : n = m
    · subst hs
      have hE : dotE n xs n ys = 0 := by unfold dotE; rw [h]; unfold eqE first2; rw [if_pos rfl, if_pos rfl]
      have HD := hid (fun W (hW : Below w.heap.size w W) => dot_any sa sb n ka kb _ _ W hn (ha.below hW).fn (hb.below hW).fn)
      have hT : dotT n xs n ys = if finB (dotW xs ys n) = true then 0 else 5 := by unfold dotT; rw [if_pos hE]
      have hDD : dotD n xs n ys = if finB (dotW xs ys n) = true then dotW xs ys n else 0 := by
        unfold dotD
        rw [hT]
        cases finB (dotW xs ys n) <;> rfl
      rw [hT, hDD]
      have hnn : ((n : Int) != (n : Int)) = false := by simp
      have HAN := hid (fun x (hx : x < 18446744073709551616) W => ansN_any x hx W)
      clear ha hb hn hm h hE hT hDD
      cases hf : finB (dotW xs ys n) with
      | true =>
        have HFF := hid hf
        clear hf
        rw [if_pos rfl, if_pos rfl]
        go_enter Try.func55, Try.ntmps55
        go_wp2_with fail
        refine HCB.out.mono ?_
        rintro e w1 ⟨rfl, hb1⟩
        have HB1 := hid hb1
        clear hb1
        go_wp2_with fail
        refine (HD.out _ HB1.out).mono ?_
        rintro e w2 ⟨z, rfl, ⟨hz1, hz2⟩, hb2⟩
        have HB2 := hid (HB1.out.trans (hb2.mono HB1.out.size))
        have e1 : canonOf z = dotW xs ys n := hz2
        have hfz : finB z = true := by rw [← finB_canon, e1]; exact HFF.out
        have HA1 := hid (HAN.out z hz1)
        rw [hfz, if_pos rfl, if_pos rfl] at HA1
        rw [canon_fin hfz] at e1
        have HE1 := hid e1
        clear e1
        clear hb2 hz1 hz2 hfz
        go_wp2_with fail
        refine (HA1.out _).mono ?_
        rintro e w3 ⟨rfl, hw⟩
        subst hw
        go_wp2_with fail
        go_ret2
        exact ⟨by have h := HE1.out; subst h; rfl, HB2.out⟩
      | false =>
        have HFF := hid hf
        clear hf
        rw [if_neg (by decide), if_neg (by decide)]
        go_enter Try.func55, Try.ntmps55
        go_wp2_with fail
        refine HCB.out.mono ?_
        rintro e w1 ⟨rfl, hb1⟩
        have HB1 := hid hb1
        clear hb1
        go_wp2_with fail
        refine (HD.out _ HB1.out).mono ?_
        rintro e w2 ⟨z, rfl, ⟨hz1, hz2⟩, hb2⟩
        have HB2 := hid (HB1.out.trans (hb2.mono HB1.out.size))
        have e1 : canonOf z = dotW xs ys n := hz2
        have hfz : finB z = false := by rw [← finB_canon, e1]; exact HFF.out
        have HA1 := hid (HAN.out z hz1)
        rw [hfz, if_neg (by decide), if_neg (by decide)] at HA1
        clear e1
        clear hb2 hz1 hz2 hfz
        go_wp2_with fail
        refine (HA1.out _).mono ?_
        rintro e w3 ⟨rfl, hw⟩
        subst hw
        go_wp2_with fail
        go_ret2
        exact ⟨rfl, HB2.out⟩
    · have hE : dotE n xs m ys = 3 := by unfold dotE; rw [h]; unfold eqE first2; rw [if_pos rfl, if_neg hs]
      have hT : dotT n xs m ys = 3 := by unfold dotT; rw [hE, if_neg (by decide)]
      have hDD : dotD n xs m ys = 0 := by unfold dotD; rw [hT, if_neg (by decide)]
      rw [hT, hDD]
      have hnn : ((n : Int) != (m : Int)) = true := by simp; omega
      clear ha hb hn hm h hE hT hDD hs
      go_enter Try.func55, Try.ntmps55
      go_wp2_with fail
      refine HCB.out.mono ?_
      rintro e w1 ⟨rfl, hb1⟩
      have HB1 := hid hb1
      clear hb1
      go_wp2_with fail
      go_ret2
      exact ⟨rfl, HB1.out⟩
  · have hE : dotE n xs m ys = first2 (lstE n xs) (lstE m ys) := by
      unfold dotE
      generalize first2 (lstE n xs) (lstE m ys) = F at h
      unfold first2
      rw [if_neg h]
    have hT : dotT n xs m ys = first2 (lstE n xs) (lstE m ys) := by unfold dotT; rw [hE, if_neg h]
    have hDD : dotD n xs m ys = 0 := by unfold dotD; rw [hT, if_neg h]
    rw [hT, hDD]
    obtain ⟨E, hEE⟩ : ∃ E, Hid (first2 (lstE n xs) (lstE m ys) = E) := ⟨_, rfl⟩
    rw [hEE.out] at HCB h ⊢
    have hne : (E != 0) = true := by simpa using h
    clear ha hb hn hm h hE hT hDD
    go_enter Try.func55, Try.ntmps55
    go_wp2_with fail
    refine HCB.out.mono ?_
    rintro e w1 ⟨rfl, hb1⟩
    have HB1 := hid hb1
    clear hb1
    go_wp2_with fail
    go_ret2
    exact ⟨rfl, HB1.out⟩
theorem number_no (E : Int) (hE : E ≠ 0) (y : Nat) (w : World) : Calls Try.prog 57 #[.float .f64 0, .int .i64 E, .float .f64 y, .int .i64 E] w fun e w' => e = .returned (.bool true) ∧ w' = w := by
  have h1 : (E != 0) = true := by simpa using hE
  have h2 : (E == E) = true := by simp
  clear hE
  go_enter Try.func57, Try.ntmps57
  go_wp2_with fail
  refine (same_zero _).mono ?_
  rintro e ww ⟨rfl, hw⟩
  subst hw
  go_wp2_with fail
  go_ret
  exact ⟨rfl, rfl⟩
theorem number_yes (x y : Nat) (hy : y < 18446744073709551616) (hxy : x = canonOf y) (w : World) : Calls Try.prog 57 #[.float .f64 x, .int .i64 0, .float .f64 y, .int .i64 0] w fun e w' => e = .returned (.bool true) ∧ w' = w := by
  have HS := hid (sameq_any x y w hy)
  rw [show (x == canonOf y) = true from by simpa using hxy] at HS
  clear hy hxy
  go_enter Try.func57, Try.ntmps57
  go_wp2_with fail
  refine HS.out.mono ?_
  rintro e ww ⟨rfl, hw⟩
  subst hw
  go_wp2_with fail
  go_ret
  exact ⟨rfl, rfl⟩
end Go.Proofs.Ythnblidkbcficaa

namespace Go.Proofs.Ythnblidkbcficaa
open Go.RowKit Go.IntWalk

set_option maxRecDepth 4000 in
set_option maxHeartbeats 2000000 in
theorem rOuter_ok (n m ka kb : Nat) (sa sb : Option Addr) (xs ys : List Nat) (w : World) (ha : FlM w sa n ka xs) (hb : FlM w sb m kb ys) (hE : first2 (lstE n xs) (lstE m ys) = 0) :
    Calls Try.prog 53 #[.slice sa n ka, .slice sb m kb] w fun e w' => (∃ (g : Nat) (o : Nat → Nat), e = .returned (AnsM n m (n * m) g o) ∧ FnM w' (some ⟨g, 0, none⟩) (n * m) (n * m) o ∧ ∀ i j, i < n → j < m → canonOf (o (i * m + j)) = outV xs ys i j) ∧ Below w.heap.size w w' := by
  obtain ⟨e1, e2⟩ := first2_zero hE
  obtain ⟨l1, f1, hfa⟩ := lst_gd ha e1
  obtain ⟨l2, f2, hfb⟩ := lst_gd hb e2
  have hm1 : n * m ≤ 144 := Nat.mul_le_mul l1 l2
  have HLM : Hid (n ≤ 12 ∧ m ≤ 12) := ⟨l1, l2⟩
  have HFA := hid f1
  have HFB := hid f2
  have HXA := hid hfa
  have HXB := hid hfb
  have HPUT0 : Hid (∀ W (g x i j : Nat) (o : Nat → Nat), W.rowIs g 51 (n * m) (fun k => .float .f64 (o k)) → i < n → j < m → Calls Try.prog 30 #[.agg #[.int .i64 n, .int .i64 m, .slice (some ⟨g, 0, none⟩) (n * m) (n * m)], .int .i64 (i : Nat), .int .i64 (j : Nat), .float .f64 x] W fun e w' => e = .returned (.tuple #[]) ∧ w' = (W.alloc (MBox n m (some ⟨g, 0, none⟩) (n * m) (n * m))).setCell ⟨g, i * m + j, none⟩ (.float .f64 x)) := fun W g x i j o hW hi hj => by
    have hk := place_lt hi hj
    exact Put_any n g m _ _ i j x _ W (hW.cell hk) (hW.frozen _) hW.lt (by omega) (by omega) (by omega) hk
  have HZ0 := hid (fun W => rRaw_any n m (by omega) (by omega) W)
  have HPL : Hid (∀ i j, i < n → j < m → i * m + j < n * m) := fun i j hi hj => place_lt hi hj
  have HN144 := hid hm1
  obtain ⟨N, hN⟩ : ∃ p, Hid (n * m = p) := ⟨_, rfl⟩
  rw [hN.out] at HPUT0 HZ0 HPL HN144
  rw [hN.out]
  have t1 := nblkM w (MBox 0 0 none 0 0)
  have t2 : Below w.heap.size w (w.alloc (MBox 0 0 none 0 0)) := (Below.refl _ _).alloc (Nat.le_refl _) _
  have t3 : (w.alloc (MBox 0 0 none 0 0)).heap.size = w.heap.size + 1 := by simp
  have HOV := hid (fun W o (h : FnM W (some ⟨w.heap.size + 1 + 1, 0, none⟩) N N o) => Over_any n m N _ N o W h (by have := HN144.out; omega))
  obtain ⟨V, hV⟩ : ∃ V, Hid (w.alloc (MBox 0 0 none 0 0) = V) := ⟨_, rfl⟩
  rw [hV.out] at t1 t2 t3
  have hV' := hV.out
  unfold MBox at hV'
  obtain ⟨g, hg⟩ : ∃ t, Hid (V.heap.size + 1 = t) := ⟨_, rfl⟩
  have hgg : w.heap.size + 1 + 1 = g := by rw [← t3, hg.out]
  rw [hgg] at HOV
  have HZ := hid (HZ0.out V)
  rw [hg.out] at HZ
  have HPUT := hid (fun W x i j o => HPUT0.out W g x i j o)
  clear HZ0 hgg HPUT0
  obtain ⟨rb, hrb⟩ : ∃ t, Hid (w.heap.size = t) := ⟨_, rfl⟩
  rw [hrb.out] at t1
  have HT1 := hid t1
  have HT4 := hid t2
  have HT5 := hid t3
  have hrb' := hrb.out
  clear t1 t2 t3 ha hb hE e1 e2 l1 l2 f1 f2 hfa hfb hm1
  have hst := fstoreM
  go_enter Try.func53, Try.ntmps53
  go_wp2_with fail
  refine HZ.out.mono ?_
  rintro e w1 ⟨rfl, h1, h2⟩
  have hal : Below w1.heap.size w1 (w1.alloc (MBox n m (some ⟨g, 0, none⟩) N N)) := (Below.refl _ _).alloc (Nat.le_refl _) _
  have hlt : g < w1.heap.size := h1.lt
  obtain ⟨mb, hmb⟩ : ∃ t, Hid (w1.heap.size = t) := ⟨_, rfl⟩
  have HFR : Hid (Fr5 w (w1.alloc (MBox n m (some ⟨g, 0, none⟩) N N)) rb mb rb mb (MBox 0 0 none 0 0) (MBox n m (some ⟨g, 0, none⟩) N N) (MBox 0 0 none 0 0) (MBox n m (some ⟨g, 0, none⟩) N N)) := by
    have q1 := blkM (blkM HT1.out h2) hal
    have q2 : (w1.alloc (MBox n m (some ⟨g, 0, none⟩) N N)).heap[mb]? = some (MBox n m (some ⟨g, 0, none⟩) N N) := by rw [← hmb.out]; exact nblkM _ _
    exact ⟨(HT4.out.trans (h2.mono HT4.out.size)).trans (hal.mono (Nat.le_trans HT4.out.size h2.size)), q1, q2, q1, q2⟩
  have HR0 : Hid ((w1.alloc (MBox n m (some ⟨g, 0, none⟩) N N)).rowIs g 51 N (fun _ => .float .f64 0)) := h1.of_block (hal.block _ hlt)
  have HNE : Hid (rb ≠ g ∧ mb ≠ g ∧ w.heap.size ≤ g) := by
    have e3 := hrb.out; have e4 := hmb.out; have e5 := hg.out; have e6 := HT5.out
    show _ ∧ _ ∧ _
    omega
  have HRB : Hid (w.heap.size ≤ rb) := by
    have e3 := hrb.out
    show _ ≤ _
    omega
  obtain ⟨V1, hV1⟩ : ∃ V, Hid (w1.alloc (MBox n m (some ⟨g, 0, none⟩) N N) = V) := ⟨_, rfl⟩
  rw [hV1.out] at HFR HR0
  have hW1 := hV1.out
  have hmb' := hmb.out
  unfold MBox at hW1
  unfold MV
  clear h1 h2 hal HZ hlt
  go_wp2_with fail
  go_loopw [7] (fun iv wr => ∃ (i : Nat) (o : Nat → Nat), i ≤ n ∧ iv = .int .i64 i ∧ Hid (wr.rowIs g 51 N (fun k => .float .f64 (o k))) ∧ Hid (∀ a b, a < i → b < m → canonOf (o (a * m + b)) = outV xs ys a b ∧ o (a * m + b) < 18446744073709551616) ∧ Hid (Fr5 w wr rb mb rb mb (MBox 0 0 none 0 0) (MBox n m (some ⟨g, 0, none⟩) N N) (MBox 0 0 none 0 0) (MBox n m (some ⟨g, 0, none⟩) N N))) (fun iv _ => n - (intOf iv).toNat)
  case atStart => exact ⟨0, fun _ => 0, Nat.zero_le _, rfl, HR0, fun a b ha => absurd ha (Nat.not_lt_zero a), HFR⟩
  case round =>
    obtain ⟨i, o, hi, rfl, HR, HP, HFW⟩ := hrel
    obtain ⟨h12a, h12b⟩ := HLM.out
    by_cases hlt : i < n
    · have hiI : (i : Int) < (n : Int) := by omega
      have hi0 : (0 : Int) ≤ (i : Int) := by omega
      have HI := hid hlt
      clear hlt
      go_wp2_with fail
      go_loopw [8] (fun jv wr2 => ∃ (j : Nat) (o2 : Nat → Nat), j ≤ m ∧ jv = .int .i64 j ∧ Hid (wr2.rowIs g 51 N (fun k => .float .f64 (o2 k))) ∧ Hid (∀ a b, (a < i ∨ (a = i ∧ b < j)) → b < m → canonOf (o2 (a * m + b)) = outV xs ys a b ∧ o2 (a * m + b) < 18446744073709551616) ∧ Hid (Fr5 w wr2 rb mb rb mb (MBox 0 0 none 0 0) (MBox n m (some ⟨g, 0, none⟩) N N) (MBox 0 0 none 0 0) (MBox n m (some ⟨g, 0, none⟩) N N))) (fun jv _ => m - (intOf jv).toNat)
      case atStart => exact ⟨0, o, Nat.zero_le _, rfl, HR, fun a b hab hb => HP.out a b (by rcases hab with h | ⟨_, h⟩ <;> omega) hb, HFW⟩
      case round =>
        obtain ⟨j, o2, hj, rfl, HR2, HP2, HFW2⟩ := hrel
        by_cases hl2 : j < m
        · have hjI : (j : Int) < (m : Int) := by omega
          have hj0 : (0 : Int) ≤ (j : Int) := by omega
          have HJ := hid hl2
          obtain ⟨ba, oa, hsa, hba, _, _, hca⟩ : ∃ b off, sa = some ⟨b, off, none⟩ ∧ b < w.heap.size ∧ n ≤ ka ∧ ka ≤ 9223372036854775807 ∧ ∀ j, j < n → w.cell? ⟨b, off + j, none⟩ = some (.float .f64 (xs.getD j 0)) ∧ xs.getD j 0 < 18446744073709551616 := by
            rcases HFA.out with ⟨_, h, _⟩ | h
            · have := HI.out; omega
            · exact h
          obtain ⟨bb, ob, hsb, hbb, _, _, hcb⟩ : ∃ b off, sb = some ⟨b, off, none⟩ ∧ b < w.heap.size ∧ m ≤ kb ∧ kb ≤ 9223372036854775807 ∧ ∀ j, j < m → w.cell? ⟨b, off + j, none⟩ = some (.float .f64 (ys.getD j 0)) ∧ ys.getD j 0 < 18446744073709551616 := by
            rcases HFB.out with ⟨_, h, _⟩ | h
            · omega
            · exact h
          subst hsa hsb
          obtain ⟨z, hz, hzl, hzc⟩ := fin_some ok_m w (xs.getD i 0) (ys.getD j 0) (hca i HI.out).2 (hcb j hl2).2 (HXA.out i HI.out).2 (HXB.out j hl2).2
          have HKS : Hid (∀ W, Hid (Fr5 w W rb mb rb mb (MBox 0 0 none 0 0) (MBox n m (some ⟨g, 0, none⟩) N N) (MBox 0 0 none 0 0) (MBox n m (some ⟨g, 0, none⟩) N N)) → (W.cell? ⟨mb, 0, none⟩ = some (.int .i64 n) ∧ W.cell? ⟨mb, 1, none⟩ = some (.int .i64 m) ∧ W.cell? ⟨mb, 2, none⟩ = some (.slice (some ⟨g, 0, none⟩) N N) ∧ W.cell? ⟨ba, oa + i, none⟩ = some (.float .f64 (xs.getD i 0)) ∧ W.cell? ⟨bb, ob + j, none⟩ = some (.float .f64 (ys.getD j 0))) ∧ Hid (Fr5 w W rb mb rb mb (MBox 0 0 none 0 0) (MBox n m (some ⟨g, 0, none⟩) N N) (MBox 0 0 none 0 0) (MBox n m (some ⟨g, 0, none⟩) N N))) := fun W hW => by
            obtain ⟨n0, n1, n2⟩ := mcells_of hW.out.2.2.1
            exact ⟨⟨n0, n1, n2, (hW.out.1.cell (p := ⟨ba, oa + i, none⟩) hba).trans (hca i HI.out).1, (hW.out.1.cell (p := ⟨bb, ob + j, none⟩) hbb).trans (hcb j hl2).1⟩, hW⟩
          have HZC : Hid (canonOf z = outV xs ys i j ∧ z < 18446744073709551616) := ⟨hzc, hzl⟩
          have hrun := f_mul hz
          have HQ0 : Hid (Fr5 w wr.drew rb mb rb mb (MBox 0 0 none 0 0) (MBox n m (some ⟨g, 0, none⟩) N N) (MBox 0 0 none 0 0) (MBox n m (some ⟨g, 0, none⟩) N N)) := HFW2.out.drew
          have HRD : Hid (wr.drew.rowIs g 51 N (fun k => .float .f64 (o2 k))) := HR2.out.of_block rfl
          obtain ⟨x, hx⟩ : ∃ t, Hid (xs.getD i 0 = t) := ⟨_, rfl⟩
          obtain ⟨y, hy⟩ : ∃ t, Hid (ys.getD j 0 = t) := ⟨_, rfl⟩
          rw [hx.out, hy.out] at HKS hrun
          clear hl2 hz hzl hzc hca hcb hba hbb
          go_wp2_with fail
          refine wp_region_held_drew (S := fun W => (W.cell? ⟨mb, 0, none⟩ = some (.int .i64 n) ∧ W.cell? ⟨mb, 1, none⟩ = some (.int .i64 m) ∧ W.cell? ⟨mb, 2, none⟩ = some (.slice (some ⟨g, 0, none⟩) N N) ∧ W.cell? ⟨ba, oa + i, none⟩ = some (.float .f64 x) ∧ W.cell? ⟨bb, ob + j, none⟩ = some (.float .f64 y)) ∧ Hid (Fr5 w W rb mb rb mb (MBox 0 0 none 0 0) (MBox n m (some ⟨g, 0, none⟩) N N) (MBox 0 0 none 0 0) (MBox n m (some ⟨g, 0, none⟩) N N))) (by kernel_rfl) (HKS.out _ HQ0) (fun hHeld => ?_)
          refine take_at 0 26 (.agg #[.int .i64 n, .int .i64 m, .slice (some ⟨g, 0, none⟩) N N]) rfl rfl (by kernel_rfl) (by kernel_rfl) (by kernel_rfl) (fun _ _ _ h => h) (Or.inl ⟨by rfl, fun w hSw => by (try dsimp only at hSw); go_simp⟩) (by assumption) ?_
          simp only [Act.put, List.setIfInBounds_toArray, List.set_cons_zero, List.set_cons_succ]
          refine take_at 1 27 (.int .i64 i) rfl rfl (by kernel_rfl) (by kernel_rfl) (by kernel_rfl) (fun _ _ _ h => h) (Or.inl ⟨by rfl, fun w hSw => by (try dsimp only at hSw); go_simp⟩) (by assumption) ?_
          simp only [Act.put, List.setIfInBounds_toArray, List.set_cons_zero, List.set_cons_succ]
          refine take_at 2 28 (.int .i64 j) rfl rfl (by kernel_rfl) (by kernel_rfl) (by kernel_rfl) (fun _ _ _ h => h) (Or.inl ⟨by rfl, fun w hSw => by (try dsimp only at hSw); go_simp⟩) (by assumption) ?_
          simp only [Act.put, List.setIfInBounds_toArray, List.set_cons_zero, List.set_cons_succ]
          refine take_at 3 29 (.slice (some ⟨ba, oa, none⟩) n ka) rfl rfl (by kernel_rfl) (by kernel_rfl) (by kernel_rfl) (fun _ _ _ h => h) (Or.inl ⟨by rfl, fun w hSw => by (try dsimp only at hSw); go_simp⟩) (by assumption) ?_
          simp only [Act.put, List.setIfInBounds_toArray, List.set_cons_zero, List.set_cons_succ]
          refine take_at 4 30 (.int .i64 i) rfl rfl (by kernel_rfl) (by kernel_rfl) (by kernel_rfl) (fun _ _ _ h => h) (Or.inl ⟨by rfl, fun w hSw => by (try dsimp only at hSw); go_simp⟩) (by assumption) ?_
          simp only [Act.put, List.setIfInBounds_toArray, List.set_cons_zero, List.set_cons_succ]
          refine take_at 5 31 (.pointer (some ⟨ba, oa + i, none⟩)) rfl rfl (by kernel_rfl) (by kernel_rfl) (by kernel_rfl) (fun _ _ _ h => h) (Or.inl ⟨by rfl, fun w hSw => by (try dsimp only at hSw); go_simp⟩) (by assumption) ?_
          simp only [Act.put, List.setIfInBounds_toArray, List.set_cons_zero, List.set_cons_succ]
          refine take_at 6 32 (.float .f64 x) rfl rfl (by kernel_rfl) (by kernel_rfl) (by kernel_rfl) (fun _ _ _ h => h) (Or.inl ⟨by rfl, fun w hSw => by (try dsimp only at hSw); go_simp⟩) (by assumption) ?_
          simp only [Act.put, List.setIfInBounds_toArray, List.set_cons_zero, List.set_cons_succ]
          refine take_at 7 33 (.slice (some ⟨bb, ob, none⟩) m kb) rfl rfl (by kernel_rfl) (by kernel_rfl) (by kernel_rfl) (fun _ _ _ h => h) (Or.inl ⟨by rfl, fun w hSw => by (try dsimp only at hSw); go_simp⟩) (by assumption) ?_
          simp only [Act.put, List.setIfInBounds_toArray, List.set_cons_zero, List.set_cons_succ]
          refine take_at 8 34 (.int .i64 j) rfl rfl (by kernel_rfl) (by kernel_rfl) (by kernel_rfl) (fun _ _ _ h => h) (Or.inl ⟨by rfl, fun w hSw => by (try dsimp only at hSw); go_simp⟩) (by assumption) ?_
          simp only [Act.put, List.setIfInBounds_toArray, List.set_cons_zero, List.set_cons_succ]
          refine take_at 9 35 (.pointer (some ⟨bb, ob + j, none⟩)) rfl rfl (by kernel_rfl) (by kernel_rfl) (by kernel_rfl) (fun _ _ _ h => h) (Or.inl ⟨by rfl, fun w hSw => by (try dsimp only at hSw); go_simp⟩) (by assumption) ?_
          simp only [Act.put, List.setIfInBounds_toArray, List.set_cons_zero, List.set_cons_succ]
          refine take_at 10 36 (.float .f64 y) rfl rfl (by kernel_rfl) (by kernel_rfl) (by kernel_rfl) (fun _ _ _ h => h) (Or.inl ⟨by rfl, fun w hSw => by (try dsimp only at hSw); go_simp⟩) (by assumption) ?_
          simp only [Act.put, List.setIfInBounds_toArray, List.set_cons_zero, List.set_cons_succ]
          refine take_at 11 37 (.float .f64 z) rfl rfl (by kernel_rfl) (by kernel_rfl) (by kernel_rfl) (fun _ _ _ h => h) (Or.inl ⟨by rfl, fun w hSw => by (try dsimp only at hSw); go_simp⟩) (by assumption) ?_
          simp only [Act.put, List.setIfInBounds_toArray, List.set_cons_zero, List.set_cons_succ]
          refine wpAnyH_ready (rs := [12]) (by kernel_rfl) (by simp) ?_
          refine AllReadyH.cons (o := _) rfl (fun K hK => ?_) AllReadyH.nil
          go_simp
          refine (HPUT.out _ z i j o2 HRD.out HI.out HJ.out).mono ?_
          rintro e u4 ⟨rfl, hu4⟩
          have hal : Below wr.drew.heap.size wr.drew (wr.drew.alloc (MBox n m (some ⟨g, 0, none⟩) N N)) := (Below.refl _ _).alloc (Nat.le_refl _) _
          have HG4 : Hid (Fr5 w u4 rb mb rb mb (MBox 0 0 none 0 0) (MBox n m (some ⟨g, 0, none⟩) N N) (MBox 0 0 none 0 0) (MBox n m (some ⟨g, 0, none⟩) N N)) := by rw [hu4]; exact (HQ0.out.call hal).set HNE.out.1 HNE.out.2.1 HNE.out.1 HNE.out.2.1 HNE.out.2.2 _
          have HR4 : Hid (u4.rowIs g 51 N (fun t => .float .f64 (if t = i * m + j then z else o2 t))) := by
            rw [hu4]
            refine ((HRD.out.of_block (hal.block _ HRD.out.lt)).set (i * m + j) _).congr (fun t _ => ?_)
            by_cases ht : t = i * m + j <;> simp [ht]
          clear hal hu4
          go_wp2_with fail
          refine hK.out _ _ (HKS.out _ HG4) (fun hHeld4 => ?_)
          clear hK K
          try simp only [Act.put, List.setIfInBounds_toArray, List.set_cons_zero, List.set_cons_succ]
          refine wpAnyH_done (by kernel_rfl) ?_ _
          go_wp2_with fail
          have hj1 := HJ.out
          refine ⟨⟨j + 1, fun t => if t = i * m + j then z else o2 t, by omega, by go_num, HR4, fun a b hab hb => ?_, HG4⟩, ?_⟩
          · by_cases h : a * m + b = i * m + j
            · obtain ⟨ea, eb⟩ := place_ne hb hj1 h
              subst ea eb
              dsimp only
              rw [if_pos rfl]
              exact HZC.out
            · dsimp only
              rw [if_neg h]
              refine HP2.out a b ?_ hb
              rcases hab with h1 | ⟨h1, h2⟩
              · exact Or.inl h1
              · have : b ≠ j := fun hc => h (by rw [h1, hc])
                exact Or.inr ⟨h1, by omega⟩
          · simp [intOf]; omega
        · obtain rfl : j = m := by omega
          go_wp2_with fail
          have hi1 := HI.out
          refine ⟨⟨i + 1, o2, by omega, by go_num, HR2, fun a b ha hb => HP2.out a b (by omega) hb, HFW2⟩, ?_⟩
          simp [intOf]; omega
    · obtain rfl : i = n := by omega
      obtain ⟨m0, m1, m2⟩ := mcells_of HFW.out.2.2.1
      have h144 := HN144.out
      have HLO : Hid (∀ k, k < N → o k < 18446744073709551616) := fun k hk => by
        rw [← hN.out] at hk
        obtain ⟨q1, q2, q3⟩ := split_k hk
        have := (HP.out _ _ q1 q2).2
        rw [q3] at this
        exact this
      have HFO := hid (HOV.out wr o (rowF (HR.out) HLO.out h144))
      have HFN := hid (rowF (HR.out) HLO.out h144)
      obtain ⟨X0, X1, X2, X3, X4, hXX⟩ : ∃ a b s m' k, Hid ((if finF N o = true then MV i m (some ⟨g, 0, none⟩) N N else MV 0 0 none 0 0) = MV a b s m' k) := by
        by_cases q : finF N o = true
        · exact ⟨i, m, _, _, _, by show _ = _; rw [if_pos q]⟩
        · exact ⟨0, 0, _, _, _, by show _ = _; rw [if_neg q]⟩
      obtain ⟨E, hE⟩ : ∃ E, Hid ((if finF N o = true then 0 else 5 : Int) = E) := ⟨_, rfl⟩
      rw [hXX.out, hE.out] at HFO
      unfold MV at HFO
      go_wp2_with fail
      refine HFO.out.mono ?_
      rintro e w3 ⟨rfl, hk3, hb3⟩
      have HFR3 := hid (HFW.out.call hb3)
      have HFN3 := hid (hk3 _ _ _ _ HFN.out)
      obtain ⟨y0, y1, y2⟩ := mcells_of HFR3.out.2.1
      have fz := frzM HFR3.out.2.1
      clear hb3 hk3
      go_wp2_with fail
      refine bodyPost_ret (v := AnsM i m N g o) (by unfold AnsM; rw [hXX.out, hE.out]; simp [results, Try.results53, go_sem, y0, y1, y2, MV]) rfl ⟨⟨g, o, rfl, StoM.fn HFN3.out HFR3.out.2.1, fun a b ha hb => ?_⟩, StoM.below HFR3.out.1 HRB.out⟩
      exact (HP.out _ _ ha hb).1
theorem rOuter_tot (n m ka kb : Nat) (sa sb : Option Addr) (xs ys : List Nat) (w : World) (ha : FlM w sa n ka xs) (hb : FlM w sb m kb ys) (h : first2 (lstE n xs) (lstE m ys) = 0) :
    Calls Try.prog 53 #[.slice sa n ka, .slice sb m kb] w fun e w' => (∃ X0 X1 X2 X3 X4, e = .returned (.tuple #[.agg #[.int .i64 X0, .int .i64 X1, .slice X2 X3 X4], .int .i64 (outT n xs m ys)]) ∧ ResM (outT n xs m ys) n m (outV xs ys) w' X0 X1 X2 X3 X4) ∧ Below w.heap.size w w' := by
  unfold outT
  rw [if_pos h]
  refine (rOuter_ok n m ka kb sa sb xs ys w ha hb h).mono ?_
  rintro e w' ⟨⟨g, o, rfl, hf, hv⟩, hbb⟩
  obtain ⟨X0, X1, X2, X3, X4, e1, e2⟩ := res_of n m g o (outV xs ys) (if finV n m (outV xs ys) = true then 0 else 5) w' rfl hf hv
  exact ⟨⟨X0, X1, X2, X3, X4, by rw [e1], e2⟩, hbb⟩
end Go.Proofs.Ythnblidkbcficaa
