
/- The document's Dim of any motion; model's zeros. -/
import Derived.Test.YtcaelnpddipmhaaP35
import Derived.Test.YtcaelnpddipmhaaP10
namespace Go.Proofs.Ytcaelnpddipmhaa
open Go.RowKit Go.IntWalk

set_option maxRecDepth 2000 in
set_option maxHeartbeats 4000000 in
theorem rDim_mo (sa : Option Addr) (n cap : Nat) (K A : Nat → Int) (N F : Nat → Nat) (w : World) (h : PtF w sa n K A N F) (hn : n ≤ 4398046511104) : Calls Try.prog 30 #[.agg #[.slice sa n cap]] w fun r w' => r = .returned (.tuple #[.int .i64 (dmV n K A N F), .int .i64 (dmE n K A N F)]) ∧ Below w.heap.size w w' := by
  have HB0 : Hid (Below w.heap.size w (w.alloc (MoBox sa n cap)) ∧ (w.alloc (MoBox sa n cap)).heap[w.heap.size]? = some (MoBox sa n cap)) := ⟨(Below.refl _ _).alloc (Nat.le_refl _) _, nblkM _ _⟩
  obtain ⟨V, hV⟩ : ∃ V, Hid (w.alloc (MoBox sa n cap) = V) := ⟨_, rfl⟩
  rw [hV.out] at HB0
  have hV' := hV.out
  unfold MoBox at hV'
  have c0 := mocell_of HB0.out.2
  have HP := hid h
  have HRB : Hid (∀ W, Below V.heap.size V W → Below w.heap.size w W ∧ W.heap[w.heap.size]? = some (MoBox sa n cap)) := fun W hW => ⟨HB0.out.1.trans (hW.mono HB0.out.1.size), blkM HB0.out.2 hW⟩
  have HCK := hid (fun W (hW : Below w.heap.size w W) => rCheck_mo sa n cap K A N F W (h.below hW) hn)
  have HE := hid (@dm_zero n K A N F)
  have HV0 : Hid (dmE n K A N F ≠ 0 → dmV n K A N F = 0) := fun h => by unfold dmV; rw [if_neg h]
  obtain ⟨E, hE⟩ : ∃ t, dmE n K A N F = t := ⟨_, rfl⟩
  obtain ⟨D, hD⟩ : ∃ t, dmV n K A N F = t := ⟨_, rfl⟩
  rw [hE] at HCK HE HV0
  rw [hD] at HE HV0
  rw [hE, hD]
  clear h hE hD
  by_cases hE0 : E = 0
  · subst hE0
    obtain ⟨h0, x1, x2, x3, x4, x5⟩ := HE.out rfl
    obtain ⟨b, off, rfl, hbl, hcl⟩ := HP.out.2 h0
    have HC := hid (fun W (hW : Below w.heap.size w W) i hi => pt_at hbl hcl hW i hi)
    have HX1 := hid x1
    have HX3 := hid x3
    have HX4 := hid x4
    clear hcl h0 x1 x2 x3 x4 x5
    go_enter Try.func30, Try.ntmps30
    go_wp2_with fail
    refine (HCK.out _ HB0.out.1).mono ?_
    rintro e w1 ⟨rfl, hb⟩
    have HBV1 := hid hb
    clear hb c0
    go_wp2_with fail
    go_loopw [5, 6] (fun dv iv wr => ∃ (k : Nat) (S : Int), k ≤ n ∧ iv = .int .i64 k ∧ dv = .int .i64 S ∧ Hid (S = uS (ptS K A) k) ∧ Hid (Below V.heap.size V wr)) (fun _ iv _ => n - (intOf iv).toNat)
    case atStart => exact ⟨0, 0, Nat.zero_le _, rfl, rfl, rfl, HBV1⟩
    case round =>
      obtain ⟨k, S, hk, rfl, rfl, HS, HBV⟩ := hrel
      have HBW := hid (HRB.out wr HBV.out)
      have c0 := mocell_of HBW.out.2
      by_cases hlt : k < n
      · have hpc := HC.out wr HBW.out.1 k hlt
        have HSZ := hid (fun W => size_any (K k) W)
        have HZ : Hid (ptS K A k = A k * szK (K k)) := rfl
        obtain ⟨_, _, ha', hz'⟩ := ptS_in (scE_all HX1.out k hlt)
        obtain ⟨u1, u2, u3⟩ := HX4.out k (by omega)
        rw [← u1, ← HS.out] at u2 u3
        obtain ⟨_, m1, m2⟩ := mul_facts ha' hz' ⟨u2, by omega⟩
        obtain ⟨m3, m4⟩ := mul_factsI ha' hz' ⟨u2, by omega⟩
        have hkI : (k : Int) < (n : Int) := by omega
        have hk0 : (0 : Int) ≤ (k : Int) := by omega
        have HNX : Hid (S + A k * szK (K k) = uS (ptS K A) (k + 1)) := by
          show S + A k * szK (K k) = uS (ptS K A) k + ptS K A k
          rw [HS.out]
          rfl
        obtain ⟨k1, hk1⟩ : ∃ t, K k = t := ⟨_, rfl⟩
        obtain ⟨a1, ha1⟩ : ∃ t, A k = t := ⟨_, rfl⟩
        rw [hk1, ha1] at hpc HNX m1 m2 m3 m4
        rw [hk1] at HSZ
        obtain ⟨z, hz⟩ : ∃ t, szK k1 = t := ⟨_, rfl⟩
        rw [hz] at HSZ HNX m1 m2 m3 m4
        obtain ⟨M, hM⟩ : ∃ t, a1 * z = t := ⟨_, rfl⟩
        rw [hM] at m1 m2 m3 m4 HNX
        obtain ⟨D2, hD2⟩ : ∃ t, S + M = t := ⟨_, rfl⟩
        rw [hD2] at m2 m4 HNX
        obtain ⟨p0, p1, _, _⟩ := hpc
        have HQ0 : Hid (wr.drew.cell? ⟨w.heap.size, 0, none⟩ = some (.slice (some ⟨b, off, none⟩) n cap) ∧ wr.drew.cell? ⟨b, off + k * 4, none⟩ = some (.int .i64 k1) ∧ wr.drew.cell? ⟨b, off + k * 4 + 1, none⟩ = some (.int .i64 a1)) := ⟨c0, p0, p1⟩
        clear hk1 ha1 hz ha' hz' u1 u2 u3
        go_wp2_with fail
        refine wp_region_held_drew (S := fun W => W.cell? ⟨w.heap.size, 0, none⟩ = some (.slice (some ⟨b, off, none⟩) n cap) ∧ W.cell? ⟨b, off + k * 4, none⟩ = some (.int .i64 k1) ∧ W.cell? ⟨b, off + k * 4 + 1, none⟩ = some (.int .i64 a1)) (by kernel_rfl) HQ0.out (fun hHeld => ?_)
        refine take_at 0 19 (.int .i64 S) rfl rfl (by kernel_rfl) (by kernel_rfl) (by kernel_rfl) (fun _ _ _ h => h) (Or.inl ⟨by rfl, fun w hSw => by (try dsimp only at hSw); go_simp⟩) (by assumption) ?_
        simp only [Act.put, List.setIfInBounds_toArray, List.set_cons_zero, List.set_cons_succ]
        refine take_at 1 20 (.pointer (some ⟨w.heap.size, 0, none⟩)) rfl rfl (by kernel_rfl) (by kernel_rfl) (by kernel_rfl) (fun _ _ _ h => h) (Or.inl ⟨by rfl, fun w hSw => by (try dsimp only at hSw); go_simp⟩) (by assumption) ?_
        simp only [Act.put, List.setIfInBounds_toArray, List.set_cons_zero, List.set_cons_succ]
        refine take_at 2 21 (.slice (some ⟨b, off, none⟩) n cap) rfl rfl (by kernel_rfl) (by kernel_rfl) (by kernel_rfl) (fun _ _ _ h => h) (Or.inl ⟨by rfl, fun w hSw => by (try dsimp only at hSw); go_simp⟩) (by assumption) ?_
        simp only [Act.put, List.setIfInBounds_toArray, List.set_cons_zero, List.set_cons_succ]
        refine take_at 3 22 (.int .i64 k) rfl rfl (by kernel_rfl) (by kernel_rfl) (by kernel_rfl) (fun _ _ _ h => h) (Or.inl ⟨by rfl, fun w hSw => by (try dsimp only at hSw); go_simp⟩) (by assumption) ?_
        simp only [Act.put, List.setIfInBounds_toArray, List.set_cons_zero, List.set_cons_succ]
        refine take_at 4 23 (.pointer (some ⟨b, off + k * 4, none⟩)) rfl rfl (by kernel_rfl) (by kernel_rfl) (by kernel_rfl) (fun _ _ _ h => h) (Or.inl ⟨by rfl, fun w hSw => by (try dsimp only at hSw); go_simp⟩) (by assumption) ?_
        simp only [Act.put, List.setIfInBounds_toArray, List.set_cons_zero, List.set_cons_succ]
        refine take_at 5 24 (.pointer (some ⟨b, off + k * 4 + 1, none⟩)) rfl rfl (by kernel_rfl) (by kernel_rfl) (by kernel_rfl) (fun _ _ _ h => h) (Or.inl ⟨by rfl, fun w hSw => by (try dsimp only at hSw); go_simp⟩) (by assumption) ?_
        simp only [Act.put, List.setIfInBounds_toArray, List.set_cons_zero, List.set_cons_succ]
        refine take_at 6 25 (.int .i64 a1) rfl rfl (by kernel_rfl) (by kernel_rfl) (by kernel_rfl) (fun _ _ _ h => h) (Or.inl ⟨by rfl, fun w hSw => by (try dsimp only at hSw); go_simp⟩) (by assumption) ?_
        simp only [Act.put, List.setIfInBounds_toArray, List.set_cons_zero, List.set_cons_succ]
        refine take_at 7 26 (.pointer (some ⟨w.heap.size, 0, none⟩)) rfl rfl (by kernel_rfl) (by kernel_rfl) (by kernel_rfl) (fun _ _ _ h => h) (Or.inl ⟨by rfl, fun w hSw => by (try dsimp only at hSw); go_simp⟩) (by assumption) ?_
        simp only [Act.put, List.setIfInBounds_toArray, List.set_cons_zero, List.set_cons_succ]
        refine take_at 8 27 (.slice (some ⟨b, off, none⟩) n cap) rfl rfl (by kernel_rfl) (by kernel_rfl) (by kernel_rfl) (fun _ _ _ h => h) (Or.inl ⟨by rfl, fun w hSw => by (try dsimp only at hSw); go_simp⟩) (by assumption) ?_
        simp only [Act.put, List.setIfInBounds_toArray, List.set_cons_zero, List.set_cons_succ]
        refine take_at 9 28 (.int .i64 k) rfl rfl (by kernel_rfl) (by kernel_rfl) (by kernel_rfl) (fun _ _ _ h => h) (Or.inl ⟨by rfl, fun w hSw => by (try dsimp only at hSw); go_simp⟩) (by assumption) ?_
        simp only [Act.put, List.setIfInBounds_toArray, List.set_cons_zero, List.set_cons_succ]
        refine take_at 10 29 (.pointer (some ⟨b, off + k * 4, none⟩)) rfl rfl (by kernel_rfl) (by kernel_rfl) (by kernel_rfl) (fun _ _ _ h => h) (Or.inl ⟨by rfl, fun w hSw => by (try dsimp only at hSw); go_simp⟩) (by assumption) ?_
        simp only [Act.put, List.setIfInBounds_toArray, List.set_cons_zero, List.set_cons_succ]
        refine take_at 11 30 (.pointer (some ⟨b, off + k * 4, none⟩)) rfl rfl (by kernel_rfl) (by kernel_rfl) (by kernel_rfl) (fun _ _ _ h => h) (Or.inl ⟨by rfl, fun w hSw => by (try dsimp only at hSw); go_simp⟩) (by assumption) ?_
        simp only [Act.put, List.setIfInBounds_toArray, List.set_cons_zero, List.set_cons_succ]
        refine take_at 12 31 (.int .i64 k1) rfl rfl (by kernel_rfl) (by kernel_rfl) (by kernel_rfl) (fun _ _ _ h => h) (Or.inl ⟨by rfl, fun w hSw => by (try dsimp only at hSw); go_simp⟩) (by assumption) ?_
        simp only [Act.put, List.setIfInBounds_toArray, List.set_cons_zero, List.set_cons_succ]
        refine wpAnyH_ready (rs := [13]) (by kernel_rfl) (by simp) ?_
        refine AllReadyH.cons (o := _) rfl (fun K' hK => ?_) AllReadyH.nil
        go_simp
        refine (HSZ.out _).mono ?_
        rintro e u1 ⟨rfl, hw⟩
        rw [hw]
        clear hw
        go_wp2_with fail
        refine hK.out _ _ HQ0.out (fun hHeld1 => ?_)
        clear hK K'
        try simp only [Act.put, List.setIfInBounds_toArray, List.set_cons_zero, List.set_cons_succ]
        refine take_at 14 33 (.int .i64 M) rfl rfl (by kernel_rfl) (by kernel_rfl) (by kernel_rfl) (fun _ _ _ h => h) (Or.inl ⟨by rfl, fun w hSw => by (try dsimp only at hSw); go_simp⟩) (by assumption) ?_
        simp only [Act.put, List.setIfInBounds_toArray, List.set_cons_zero, List.set_cons_succ]
        refine take_at 15 34 (.int .i64 D2) rfl rfl (by kernel_rfl) (by kernel_rfl) (by kernel_rfl) (fun _ _ _ h => h) (Or.inl ⟨by rfl, fun w hSw => by (try dsimp only at hSw); go_simp⟩) (by assumption) ?_
        simp only [Act.put, List.setIfInBounds_toArray, List.set_cons_zero, List.set_cons_succ]
        refine take_at 16 5 (.int .i64 D2) rfl rfl (by kernel_rfl) (by kernel_rfl) (by kernel_rfl) (fun _ _ _ h => h) (Or.inl ⟨by rfl, fun w hSw => by (try dsimp only at hSw); go_simp⟩) (by assumption) ?_
        simp only [Act.put, List.setIfInBounds_toArray, List.set_cons_zero, List.set_cons_succ]
        refine wpAnyH_done (by kernel_rfl) ?_ _
        go_wp2_with fail
        go_roundw
        case rel => exact ⟨k + 1, D2, by omega, by go_num, rfl, HNX.out, HBV.out.drew⟩
        case measure => simp [intOf]; omega
      · obtain rfl : k = n := by omega
        have HX : Hid (S = D) := by
          show S = D
          rw [HS.out, (HX4.out k (Nat.le_refl _)).1, HX3.out]
        go_wp2_with fail
        exact bodyPost_ret (v := .tuple #[.int .i64 S, .int .i64 0]) (by simp [results, Try.results30, go_sem]) rfl ⟨ret_dm HX.out rfl, HBW.out.1⟩
  · have hne : (E != 0) = true := by simpa using hE0
    obtain rfl := HV0.out hE0
    clear hE0
    go_enter Try.func30, Try.ntmps30
    go_wp2_with fail
    refine (HCK.out _ HB0.out.1).mono ?_
    rintro e w1 ⟨rfl, hb⟩
    have HB1 := hid (HB0.out.1.trans (hb.mono HB0.out.1.size))
    clear hb
    go_wp2_with fail
    exact bodyPost_ret (v := .tuple #[.int .i64 0, .int .i64 E]) (by simp [results, Try.results30, go_sem]) rfl ⟨rfl, HB1.out⟩
theorem zerosm_any (r c : Nat) (hr : r ≤ 100) (hc : c ≤ 100) (w : World) : Calls Try.prog 27 #[.int .i64 r, .int .i64 c] w fun e w' => e = .returned (MV r c (some ⟨w.heap.size + 1, 0, none⟩) (r * c) (r * c)) ∧ w'.rowIs (w.heap.size + 1) 23 (r * c) (fun _ => .float .f64 0) ∧ Below w.heap.size w w' := by
  have hp : r * c ≤ 10000 := Nat.mul_le_mul hr hc
  have e1 : (r : Int) * (c : Int) = ((r * c : Nat) : Int) := by simp
  obtain ⟨N, hN⟩ : ∃ p, Hid (r * c = p) := ⟨_, rfl⟩
  rw [hN.out] at e1 hp ⊢
  have hmk := run_make_row' (P := Try.prog) 32 23 (.float .f64 0) 8 Try.underlying32 info_fM rfl .i64 .i64 N (by omega) (by omega)
  have e3 := wrapM N (by omega)
  unfold MV
  clear hr hc
  go_enter Try.func27, Try.ntmps27
  go_wp2_with fail
  refine bodyPost_ret (v := .agg #[.int .i64 r, .int .i64 c, .slice (some ⟨w.heap.size + 1, 0, none⟩) N N]) (by simp [results, Try.results27, go_sem]) rfl ⟨rfl, ?_, ((Below.refl _ _).alloc (Nat.le_refl _) _).alloc (by simp) _⟩
  have := World.rowIs_made (w.alloc (MBox r c (some ⟨w.heap.size + 1, 0, none⟩) N N)) (.float .f64 0) N 23
  rw [World.size_alloc] at this
  exact this
end Go.Proofs.Ytcaelnpddipmhaa

namespace Go.Proofs.Ytcaelnpddipmhaa
open Go.RowKit Go.IntWalk

/-- Are the first places numbers of the state? -/
def pkB (D : Int) (xs : List Int) : Nat → Bool
  | 0 => true
  | k + 1 => pkB D xs k && (decide (0 ≤ xs.getD k 0) && decide (xs.getD k 0 < D))
def pkE (E D : Int) (m : Nat) (xs : List Int) : Int := if E ≠ 0 then E else if m = 0 ∨ 6 < m then 1 else if pkB D xs m = true then 0 else 1
def pkV (xs : List Int) (i j : Nat) : Nat := if xs.getD i 0 = (j : Int) then 4607182418800017408 else 0
theorem pk_stop {D : Int} {xs : List Int} {k m : Nat} (hk : k < m) (h : ¬ (0 ≤ xs.getD k 0 ∧ xs.getD k 0 < D)) : pkB D xs m = false := by
  induction m with
  | zero => omega
  | succ m ih =>
    show (pkB D xs m && (decide (0 ≤ xs.getD m 0) && decide (xs.getD m 0 < D))) = false
    by_cases hkm : k = m
    · subst hkm
      by_cases h1 : 0 ≤ xs.getD k 0
      · rw [decide_eq_false (p := xs.getD k 0 < D) (fun h2 => h ⟨h1, h2⟩)]; simp
      · rw [decide_eq_false h1]; simp
    · rw [ih (by omega)]; rfl
theorem pk_next {D : Int} {xs : List Int} {k : Nat} (h : pkB D xs k = true) (h1 : 0 ≤ xs.getD k 0) (h2 : xs.getD k 0 < D) : pkB D xs (k + 1) = true := by
  show (pkB D xs k && (decide (0 ≤ xs.getD k 0) && decide (xs.getD k 0 < D))) = true
  rw [h, decide_eq_true h1, decide_eq_true h2]; rfl
theorem pkE_err {E D : Int} {m : Nat} {xs : List Int} (h : E ≠ 0) : pkE E D m xs = E := by unfold pkE; rw [if_pos h]
theorem pkE_len {D : Int} {m : Nat} {xs : List Int} (h : m = 0 ∨ 6 < m) : pkE 0 D m xs = 1 := by unfold pkE; rw [if_neg (by simp), if_pos h]
theorem pkE_bad {D : Int} {m : Nat} {xs : List Int} (h : ¬ (m = 0 ∨ 6 < m)) (hb : pkB D xs m = false) : pkE 0 D m xs = 1 := by unfold pkE; rw [if_neg (by simp), if_neg h, if_neg (by rw [hb]; decide)]
theorem pkE_good {D : Int} {m : Nat} {xs : List Int} (h : ¬ (m = 0 ∨ 6 < m)) (hb : pkB D xs m = true) : pkE 0 D m xs = 0 := by unfold pkE; rw [if_neg (by simp), if_neg h, if_pos hb]
/-- What is handed back beside an error. -/
theorem pk_no {E : Int} {r c : Nat} {v : Nat → Nat → Nat} {W : World} (h : E ≠ 0) : ResM E r c v W 0 0 none 0 0 := Or.inr ⟨h, rfl, rfl, rfl, rfl, rfl⟩
def pkO (xs : List Int) (k i j : Nat) : Nat := if i < k ∧ xs.getD i 0 = (j : Int) then 4607182418800017408 else 0
theorem pkO_lt (xs : List Int) (k i j : Nat) : pkO xs k i j < 18446744073709551616 ∧ canonOf (pkO xs k i j) = pkO xs k i j ∧ (expOf (pkO xs k i j) == 2047) = false := by
  unfold pkO
  split
  · decide
  · decide
theorem pkO_all (xs : List Int) {m i : Nat} (j : Nat) (hi : i < m) : pkO xs m i j = pkV xs i j := by
  unfold pkO pkV
  by_cases h : xs.getD i 0 = (j : Int)
  · rw [if_pos ⟨hi, h⟩, if_pos h]
  · rw [if_neg (fun c => h c.2), if_neg h]
theorem pk_yes {m D g : Nat} {xs : List Int} {W : World} {o : Nat → Nat} (hN : m * D ≤ 1000) (hr : W.rowIs g 23 (m * D) (fun k => .float .f64 (o k))) (ho : ∀ i j, i < m → j < D → o (i * D + j) = pkO xs m i j) : ResM 0 m D (pkV xs) W m D (some ⟨g, 0, none⟩) (m * D) (m * D) := by
  refine Or.inl ⟨rfl, rfl, rfl, rfl, rfl, g, o, rfl, row_fn hr (fun k hk => ?_) (by omega), fun i j hi hj => ?_, finF_of (fun k hk => ?_)⟩
  · obtain ⟨q1, q2, q3⟩ := split_k hk
    rw [← q3, ho _ _ q1 q2]; exact (pkO_lt xs m _ _).1
  · rw [ho i j hi hj, (pkO_lt xs m _ _).2.1, pkO_all xs j hi]
  · obtain ⟨q1, q2, q3⟩ := split_k hk
    rw [← q3, ho _ _ q1 q2]; exact (pkO_lt xs m _ _).2.2
theorem pk_step {m D k p : Nat} {xs : List Int} {o : Nat → Nat} (hp : xs.getD k 0 = (p : Int)) (hpD : p < D) (ho : ∀ i j, i < m → j < D → o (i * D + j) = pkO xs k i j) : ∀ i j, i < m → j < D → (fun t => if t = k * D + p then 4607182418800017408 else o t) (i * D + j) = pkO xs (k + 1) i j := by
  intro i j hi hj
  show (if i * D + j = k * D + p then 4607182418800017408 else o (i * D + j)) = _
  unfold pkO
  by_cases h : i * D + j = k * D + p
  · obtain ⟨e1, e2⟩ := place_ne hj hpD h
    subst e1 e2
    rw [if_pos rfl, if_pos ⟨by omega, hp⟩]
  · rw [if_neg h, ho i j hi hj]
    unfold pkO
    by_cases hx : xs.getD i 0 = (j : Int)
    · by_cases hik : i < k
      · rw [if_pos ⟨hik, hx⟩, if_pos ⟨by omega, hx⟩]
      · rw [if_neg (fun c => hik c.1), if_neg (fun c => ?_)]
        have : i = k := by omega
        subst this
        rw [hx] at hp
        exact h (by have : j = p := by omega
                    rw [this])
    · rw [if_neg (fun c => hx c.2), if_neg (fun c => hx c.2)]
theorem pk_zero {m D : Nat} (xs : List Int) : ∀ i j, i < m → j < D → (fun _ => (0 : Nat)) (i * D + j) = pkO xs 0 i j := fun i j _ _ => by
  unfold pkO
  rw [if_neg (fun c => absurd c.1 (Nat.not_lt_zero _))]
theorem pk_place {w W : World} {b off m : Nat} {xs : List Int} (hbl : b < w.heap.size) (hcl : ∀ i, i < m → w.cell? ⟨b, off + i, none⟩ = some (.int .i64 (xs.getD i 0))) (hb : Below w.heap.size w W) (i : Nat) (hi : i < m) : W.cell? ⟨b, off + i, none⟩ = some (.int .i64 (xs.getD i 0)) := by
  rw [hb.cell (p := ⟨b, off + i, none⟩) hbl]
  exact hcl i hi
theorem pk_idx {k D p : Nat} (hk : k < 6) (hD : D ≤ 12) (hp : p < D) : (k : Int) * (D : Int) = ((k * D : Nat) : Int) ∧ ((k * D : Nat) : Int) + (p : Int) = ((k * D + p : Nat) : Int) ∧ IntKind.i64.wrap ((k * D : Nat) : Int) = ((k * D : Nat) : Int) ∧ IntKind.i64.wrap ((k * D + p : Nat) : Int) = ((k * D + p : Nat) : Int) ∧ k * D ≤ 72 := by
  have h : k * D ≤ 6 * 12 := Nat.mul_le_mul (by omega) hD
  exact ⟨by simp, by simp, wrapM _ (by omega), wrapM _ (by omega), by omega⟩
end Go.Proofs.Ytcaelnpddipmhaa
