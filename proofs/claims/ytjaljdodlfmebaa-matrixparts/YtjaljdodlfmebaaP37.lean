
/- The document's At, Put, Row, Col; the law's of, told, list, same. -/
import Derived.Test.YtjaljdodlfmebaaP36
namespace Go.Proofs.Ytjaljdodlfmebaa
open Go.RowKit Go.IntWalk

/-- Numbers in memory of one's own. -/
def OwM (W : World) (B : Nat) (ta : Option Addr) (n cap : Nat) (xs : List Nat) : Prop := FlM W ta n cap xs ∧ (n = 0 ∨ ∃ g, ta = some ⟨g, 0, none⟩ ∧ B ≤ g ∧ ∀ k, W.frozen? ⟨g, k, none⟩ = false)
theorem OwM.mono {W : World} {B B' : Nat} {ta : Option Addr} {n cap : Nat} {xs : List Nat} (h : OwM W B ta n cap xs) (hb : B' ≤ B) : OwM W B' ta n cap xs := by
  rcases h.2 with h2 | ⟨g, h1, h2, h3⟩
  · exact ⟨h.1, Or.inl h2⟩
  · exact ⟨h.1, Or.inr ⟨g, h1, Nat.le_trans hb h2, h3⟩⟩
theorem fl_lt {W : World} {g n cap : Nat} {xs : List Nat} (h : FlM W (some ⟨g, 0, none⟩) n cap xs) : g < W.heap.size := by
  rcases h.2.2 with ⟨h1, _⟩ | ⟨b, off, h1, h2, _⟩
  · cases h1
  · simp only [Option.some.injEq, Addr.mk.injEq] at h1
    rw [h1.1]; exact h2
theorem OwM.below {W W' : World} {B : Nat} {ta : Option Addr} {n cap : Nat} {xs : List Nat} (h : OwM W B ta n cap xs) (hb : Below W.heap.size W W') : OwM W' B ta n cap xs := by
  refine ⟨h.1.below hb, ?_⟩
  rcases h.2 with h2 | ⟨g, h1, h2, h3⟩
  · exact Or.inl h2
  · subst h1
    exact Or.inr ⟨g, rfl, h2, fun k => (World.frozen?_of_block (hb.block g (fl_lt h.1))).trans (h3 k)⟩
theorem fl_cell {W : World} {g n cap : Nat} {xs : List Nat} (h : FlM W (some ⟨g, 0, none⟩) n cap xs) (hn : n ≠ 0) : ∃ x, W.cell? ⟨g, 0, none⟩ = some (.float .f64 x) := by
  rcases h.2.2 with ⟨h1, _⟩ | ⟨b, off, h1, _, _, _, h2⟩
  · cases h1
  · simp only [Option.some.injEq, Addr.mk.injEq, and_true] at h1
    obtain ⟨rfl, rfl⟩ := h1
    exact ⟨_, h2 0 (by omega)⟩
theorem fl_ne {W : World} {g n cap b : Nat} {xs : List Nat} {r0 c0 : Int} {s0 : Option Addr} {n0 k0 : Nat} (h : FlM W (some ⟨g, 0, none⟩) n cap xs) (hn : n ≠ 0) (hb : W.heap[b]? = some (MBox r0 c0 s0 n0 k0)) : g ≠ b := fun hc => by
  subst hc
  obtain ⟨x, hx⟩ := fl_cell h hn
  rw [(mcells_of hb).1] at hx
  cases hx
theorem fl_neB {W : World} {g n cap b : Nat} {xs : List Nat} {r0 c0 : Int} {s0 : Option Addr} {n0 k0 : Nat} (h : FlM W (some ⟨g, 0, none⟩) n cap xs) (hn : n ≠ 0) (hb : W.heap[b]? = some (BBox r0 c0 s0 n0 k0)) : g ≠ b := fun hc => by
  subst hc
  obtain ⟨x, hx⟩ := fl_cell h hn
  rw [(bcells_of hb).1] at hx
  cases hx
theorem OwM.sto {W : World} {B : Nat} {ta : Option Addr} {n cap : Nat} {xs : List Nat} (h : OwM W B ta n cap xs) {b : Nat} {r c r0 c0 : Int} {s s0 : Option Addr} {m k n0 k0 : Nat} (hb : W.heap[b]? = some (MBox r0 c0 s0 n0 k0)) : OwM (StoM W b r c s m k) B ta n cap xs := by
  refine ⟨sto_fl h.1 hb, ?_⟩
  by_cases hn : n = 0
  · exact Or.inl hn
  rcases h.2 with h2 | ⟨g, h1, h2, h3⟩
  · exact absurd h2 hn
  · subst h1
    exact Or.inr ⟨g, rfl, h2, fun k => (World.frozen?_of_block (StoM.keep (fl_ne h.1 hn hb))).trans (h3 k)⟩
theorem l_own (sa : Option Addr) (sn sc : Nat) (xs : List Nat) (w : World) (hu : U64At w sa sn xs) (hn : sn ≤ 17592186043904) :
    Calls Try.prog 43 #[.slice sa sn sc] w fun r w' => ∃ ta cap, r = .returned (.slice ta sn cap) ∧ OwM w' w.heap.size ta sn cap xs ∧ Below w.heap.size w w' := by
  refine (Of64_any sa sn sc xs w hu hn).mono ?_
  rintro r w' ⟨v, rfl, h1, h2, h3⟩
  by_cases c : xs = []
  · obtain rfl := h2 c
    subst c
    have h0 : sn = 0 := hu.1.symm
    subst h0
    exact ⟨none, 0, rfl, ⟨⟨rfl, fun x hx => (by cases hx), Or.inl ⟨rfl, rfl, rfl⟩⟩, Or.inl rfl⟩, h3⟩
  · rcases h1.2 with ⟨_, e⟩ | ⟨g, cap, cur, rfl, k1, k2, k3, k4, k5, k6⟩
    · exact absurd (List.length_eq_zero_iff.1 e) c
    · rw [hu.1] at k3 ⊢
      refine ⟨_, cap, rfl, ⟨⟨hu.1, hu.2.1, Or.inr ⟨g, 0, rfl, (Array.getElem?_eq_some_iff.1 k2).1, k3, k4, fun j hj => ?_⟩⟩, Or.inr ⟨g, rfl, k1, fun j => frozen_of_row w' g j cur _ k2⟩⟩, h3⟩
      have e1 : (cur.toList.take (xs.length * 1))[j]? = (xs.map (Value.float .f64))[j]? := by rw [k6]
      have hj2 : j < xs.length := by rw [hu.1]; exact hj
      rw [List.getElem?_take, if_pos (by omega), List.getElem?_map, List.getElem?_eq_getElem hj2] at e1
      have e2 : cur[j]? = some (.float .f64 (xs.getD j 0)) := by
        rw [← Array.getElem?_toList, e1, List.getD_eq_getElem?_getD, List.getElem?_eq_getElem hj2]
        rfl
      rw [Nat.zero_add]
      simp [World.cell?, k2, e2]
set_option maxHeartbeats 1000000 in
theorem ll_own (sa : Option Addr) (sn sc : Nat) (xs : List Nat) (w : World) (hu : U64At w sa sn xs) (hn : sn ≤ 17592186043904) :
    Calls Try.prog 19 #[.slice sa sn sc] w fun r w' => ∃ ta cap, r = .returned (.slice ta sn cap) ∧ OwM w' w.heap.size ta sn cap xs ∧ Below w.heap.size w w' := by
  have HL := hid (l_own sa sn sc xs w hu hn)
  clear hu hn
  go_enter Try.func19, Try.ntmps19
  go_wp2_with fail
  refine HL.out.mono ?_
  rintro e w1 ⟨ta, cap, rfl, h1, h2⟩
  have H := hid (And.intro h1 h2)
  clear h1 h2
  go_wp2_with fail
  go_ret
  exact ⟨_, _, rfl, H.out.1, H.out.2⟩
set_option maxHeartbeats 1000000 in
theorem of_own (r c : Int) (sa : Option Addr) (sn sc : Nat) (xs : List Nat) (w : World) (hu : U64At w sa sn xs) (hn : sn ≤ 17592186043904) :
    Calls Try.prog 4 #[.agg #[.int .i64 r, .int .i64 c, .slice sa sn sc]] w fun e w' => (∃ ta cap, e = .returned (MV r c ta sn cap) ∧ OwM w' w.heap.size ta sn cap xs) ∧ Below w.heap.size w w' := by
  obtain ⟨t1, t2, t3, t4⟩ := two_b w (BBox r c sa sn sc) (MBox 0 0 none 0 0)
  obtain ⟨V, hV⟩ : ∃ V, Hid ((w.alloc (BBox r c sa sn sc)).alloc (MBox 0 0 none 0 0) = V) := ⟨_, rfl⟩
  rw [hV.out] at t1 t2 t3 t4
  have hV' := hV.out
  have HBV := hid t3
  have HR := hid t2
  have HA0 := hid t1
  obtain ⟨x0, x1, x2⟩ := bcells_of t1
  have HLD := hid (ll_own sa sn sc xs V.drew ((hu.below t3).below ((Below.refl _ _).drew)) hn)
  have HSB : Hid (w.heap.size ≤ V.drew.heap.size) := HBV.out.size
  unfold MBox BBox at hV'
  unfold MV
  clear hu hn t1 t2 t3 t4
  go_enter Try.func4, Try.ntmps4
  go_wp2_with fail
  have HQ0 : Hid (Fr3 w V.drew w.heap.size (w.heap.size + 1) (BBox r c sa sn sc) (MBox 0 0 none 0 0)) := (show Fr3 w V w.heap.size (w.heap.size + 1) (BBox r c sa sn sc) (MBox 0 0 none 0 0) from ⟨HBV.out, HA0.out, HR.out⟩).drew
  have HKS : Hid (∀ W, Hid (Fr3 w W w.heap.size (w.heap.size + 1) (BBox r c sa sn sc) (MBox 0 0 none 0 0)) → (W.cell? ⟨w.heap.size, 0, none⟩ = some (.int .i64 r) ∧ W.cell? ⟨w.heap.size, 1, none⟩ = some (.int .i64 c) ∧ W.cell? ⟨w.heap.size, 2, none⟩ = some (.slice sa sn sc))) := fun W hW => bcells_of hW.out.2.1
  have HST : Hid (∀ W, Hid (Fr3 w W w.heap.size (w.heap.size + 1) (BBox r c sa sn sc) (MBox 0 0 none 0 0)) → ∀ r2 c2 s2 n2 k2, ((((W.setCell ⟨w.heap.size + 1, 0, none⟩ (.int .i64 r2)).setCell ⟨w.heap.size + 1, 1, none⟩ (.int .i64 c2)).setCell ⟨w.heap.size + 1, 2, none⟩ (.slice s2 n2 k2)).cell? ⟨w.heap.size, 0, none⟩ = some (.int .i64 r) ∧ (((W.setCell ⟨w.heap.size + 1, 0, none⟩ (.int .i64 r2)).setCell ⟨w.heap.size + 1, 1, none⟩ (.int .i64 c2)).setCell ⟨w.heap.size + 1, 2, none⟩ (.slice s2 n2 k2)).cell? ⟨w.heap.size, 1, none⟩ = some (.int .i64 c) ∧ (((W.setCell ⟨w.heap.size + 1, 0, none⟩ (.int .i64 r2)).setCell ⟨w.heap.size + 1, 1, none⟩ (.int .i64 c2)).setCell ⟨w.heap.size + 1, 2, none⟩ (.slice s2 n2 k2)).cell? ⟨w.heap.size, 2, none⟩ = some (.slice sa sn sc))) := fun W hW r2 c2 s2 n2 k2 => bcells_of (w := StoM W (w.heap.size + 1) r2 c2 s2 n2 k2) ((StoM.keep (by omega)).trans hW.out.2.1)
  refine wp_region_held_drew (S := fun W => W.cell? ⟨w.heap.size, 0, none⟩ = some (.int .i64 r) ∧ W.cell? ⟨w.heap.size, 1, none⟩ = some (.int .i64 c) ∧ W.cell? ⟨w.heap.size, 2, none⟩ = some (.slice sa sn sc)) (by kernel_rfl) (HKS.out _ HQ0) (fun hHeld => ?_)
  refine take_at 0 3 (.pointer (some ⟨w.heap.size, 0, none⟩)) rfl rfl (by kernel_rfl) (by kernel_rfl) (by kernel_rfl) (fun _ _ _ h => h) (Or.inl ⟨by rfl, fun w hSw => by (try dsimp only at hSw); go_simp⟩) (by assumption) ?_
  simp only [Act.put, List.setIfInBounds_toArray, List.set_cons_zero, List.set_cons_succ]
  refine take_at 1 4 (.int .i64 r) rfl rfl (by kernel_rfl) (by kernel_rfl) (by kernel_rfl) (fun _ _ _ h => h) (Or.inl ⟨by rfl, fun w hSw => by (try dsimp only at hSw); go_simp⟩) (by assumption) ?_
  simp only [Act.put, List.setIfInBounds_toArray, List.set_cons_zero, List.set_cons_succ]
  refine take_at 2 5 (.pointer (some ⟨w.heap.size, 1, none⟩)) rfl rfl (by kernel_rfl) (by kernel_rfl) (by kernel_rfl) (fun _ _ _ h => h) (Or.inl ⟨by rfl, fun w hSw => by (try dsimp only at hSw); go_simp⟩) (by assumption) ?_
  simp only [Act.put, List.setIfInBounds_toArray, List.set_cons_zero, List.set_cons_succ]
  refine take_at 3 6 (.int .i64 c) rfl rfl (by kernel_rfl) (by kernel_rfl) (by kernel_rfl) (fun _ _ _ h => h) (Or.inl ⟨by rfl, fun w hSw => by (try dsimp only at hSw); go_simp⟩) (by assumption) ?_
  simp only [Act.put, List.setIfInBounds_toArray, List.set_cons_zero, List.set_cons_succ]
  refine take_at 4 7 (.pointer (some ⟨w.heap.size, 2, none⟩)) rfl rfl (by kernel_rfl) (by kernel_rfl) (by kernel_rfl) (fun _ _ _ h => h) (Or.inl ⟨by rfl, fun w hSw => by (try dsimp only at hSw); go_simp⟩) (by assumption) ?_
  simp only [Act.put, List.setIfInBounds_toArray, List.set_cons_zero, List.set_cons_succ]
  refine take_at 5 8 (.slice sa sn sc) rfl rfl (by kernel_rfl) (by kernel_rfl) (by kernel_rfl) (fun _ _ _ h => h) (Or.inl ⟨by rfl, fun w hSw => by (try dsimp only at hSw); go_simp⟩) (by assumption) ?_
  simp only [Act.put, List.setIfInBounds_toArray, List.set_cons_zero, List.set_cons_succ]
  refine wpAnyH_ready (rs := [6]) (by kernel_rfl) (by simp) ?_
  refine AllReadyH.cons (o := _) rfl (fun K hK => ?_) AllReadyH.nil
  go_simp
  refine HLD.out.mono ?_
  rintro e u1 ⟨ta, cap, rfl, hf1, hb1⟩
  have HG1 := hid (HQ0.out.call hb1)
  have HF1 := hid hf1
  clear hf1 hb1
  go_wp2_with fail
  refine hK.out _ _ (HKS.out _ HG1) (fun hHeld1 => ?_)
  clear hK K
  try simp only [Act.put, List.setIfInBounds_toArray, List.set_cons_zero, List.set_cons_succ]
  refine take_at 7 10 (.agg #[.int .i64 r, .int .i64 c, .slice ta sn cap]) rfl rfl (by kernel_rfl) (by kernel_rfl) (by kernel_rfl) (fun _ _ _ h => h) (Or.inl ⟨by rfl, fun w hSw => by (try dsimp only at hSw); go_simp⟩) (by assumption) ?_
  simp only [Act.put, List.setIfInBounds_toArray, List.set_cons_zero, List.set_cons_succ]
  obtain ⟨y0, y1, y2⟩ := mcells_of HG1.out.2.2
  have fz := frzM HG1.out.2.2
  refine wpAnyH_ready (rs := [8]) (by kernel_rfl) (by simp) ?_
  refine AllReadyH.cons (o := _) rfl (fun K hK => ?_) AllReadyH.nil
  go_simp
  go_wp2_with fail
  refine hK.out _ _ (HST.out _ HG1 _ _ _ _ _) (fun hHeld2 => ?_)
  clear hK K
  try simp only [Act.put, List.setIfInBounds_toArray, List.set_cons_zero, List.set_cons_succ]
  refine wpAnyH_done (by kernel_rfl) ?_ _
  go_wp2_with fail
  exact bodyPost_ret (v := MV r c ta sn cap) (by simp [results, Try.results4, go_sem, y0, y1, y2, MV]) rfl ⟨⟨ta, cap, rfl, (HF1.out.mono HSB.out).sto HG1.out.2.2⟩, StoM.below HG1.out.1 (by omega)⟩
set_option maxHeartbeats 400000 in
theorem rAt_any (r : Int) (sa : Option Addr) (c n cap i j : Nat) (xs : List Nat) (w : World) (h : FlM w sa n cap xs) (hi : i ≤ 100) (hc : c ≤ 100) (hj : j ≤ 100) (hk : i * c + j < n) : Calls Try.prog 26 #[MV r c sa n cap, .int .i64 i, .int .i64 j] w fun r w' => r = .returned (.float .f64 (xs.getD (i * c + j) 0)) ∧ Below w.heap.size w w' := by
  obtain ⟨b, off, rfl, h1, h2, _⟩ := h.at (by omega)
  have hp : i * c ≤ 10000 := Nat.mul_le_mul hi hc
  have hc0 := h2 _ hk
  have e1 : (i : Int) * (c : Int) = ((i * c : Nat) : Int) := by simp
  obtain ⟨p, hp'⟩ : ∃ p, Hid (i * c = p) := ⟨_, rfl⟩
  rw [hp'.out] at e1 hp hk hc0 ⊢
  have e2 : (p : Int) + (j : Int) = ((p + j : Nat) : Int) := by simp
  obtain ⟨k, hk'⟩ : ∃ k, Hid (p + j = k) := ⟨_, rfl⟩
  have e3 := wrapM p (by omega)
  have e4 := wrapM k (by rw [← hk'.out]; omega)
  rw [hk'.out] at e2 hk hc0 ⊢
  have k0 : (0 : Int) ≤ (k : Int) := by omega
  have k1 : (k : Int) < (n : Int) := by omega
  have hcell : (w.alloc (MBox r c (some ⟨b, off, none⟩) n cap)).cell? ⟨b, off + k, none⟩ = some (.float .f64 (xs.getD k 0)) := by
    rw [((Below.refl w.heap.size w).alloc (Nat.le_refl _) _).cell (p := ⟨b, off + k, none⟩) h1]
    exact hc0
  have HB : Hid (Below w.heap.size w (w.alloc (MBox r c (some ⟨b, off, none⟩) n cap))) := (Below.refl _ _).alloc (Nat.le_refl _) _
  obtain ⟨x, hx⟩ : ∃ x, Hid (xs.getD k 0 = x) := ⟨_, rfl⟩
  rw [hx.out] at hcell ⊢
  unfold MBox at HB hcell
  unfold MV
  clear h h1 h2 hc0 hi hc hj hp
  go_enter Try.func26, Try.ntmps26
  go_wp2_with fail
  go_ret
  exact ⟨rfl, HB.out⟩
theorem rAt_fn (r : Int) (sa : Option Addr) (c n cap i j : Nat) (f : Nat → Nat) (w : World) (h : FnM w sa n cap f) (hi : i ≤ 100) (hc : c ≤ 100) (hj : j ≤ 100) (hk : i * c + j < n) : Calls Try.prog 26 #[.agg #[.int .i64 r, .int .i64 c, .slice sa n cap], .int .i64 i, .int .i64 j] w fun r w' => r = .returned (.float .f64 (f (i * c + j))) ∧ Below w.heap.size w w' := by
  have := rAt_any r sa c n cap i j _ w h.fl hi hc hj hk
  rw [getD_map n f _ hk] at this
  exact this
set_option maxRecDepth 4000 in
set_option maxHeartbeats 1000000 in
/-- Put: the number's cell is written, nothing else. -/
theorem Put_any (r : Int) (g c n cap i j x y : Nat) (w : World) (hcell : w.cell? ⟨g, i * c + j, none⟩ = some (.float .f64 y)) (hfz : w.frozen? ⟨g, i * c + j, none⟩ = false) (hg : g < w.heap.size) (hi : i ≤ 100) (hc : c ≤ 100) (hj : j ≤ 100) (hk : i * c + j < n) : Calls Try.prog 25 #[.agg #[.int .i64 r, .int .i64 c, .slice (some ⟨g, 0, none⟩) n cap], .int .i64 i, .int .i64 j, .float .f64 x] w fun e w' => e = .returned (.tuple #[]) ∧ w' = (w.alloc (MBox r c (some ⟨g, 0, none⟩) n cap)).setCell ⟨g, i * c + j, none⟩ (.float .f64 x) := by
  have hst := fstoreM
  have hal : Below w.heap.size w (w.alloc (MBox r c (some ⟨g, 0, none⟩) n cap)) := (Below.refl _ _).alloc (Nat.le_refl _) _
  have hp : i * c ≤ 10000 := Nat.mul_le_mul hi hc
  have e1 : (i : Int) * (c : Int) = ((i * c : Nat) : Int) := by simp
  have hc2 : (w.alloc (MBox r c (some ⟨g, 0, none⟩) n cap)).cell? ⟨g, i * c + j, none⟩ = some (.float .f64 y) := (World.cell?_of_block (hal.block _ hg)).trans hcell
  have hf2 : (w.alloc (MBox r c (some ⟨g, 0, none⟩) n cap)).frozen? ⟨g, i * c + j, none⟩ = false := (World.frozen?_of_block (hal.block _ hg)).trans hfz
  obtain ⟨x0, x1, x2⟩ := mcells_of (w := w.alloc (MBox r c (some ⟨g, 0, none⟩) n cap)) (b := w.heap.size) (nblkM _ _)
  obtain ⟨V, hV⟩ : ∃ V, Hid (w.alloc (MBox r c (some ⟨g, 0, none⟩) n cap) = V) := ⟨_, rfl⟩
  rw [hV.out] at hc2 hf2 x0 x1 x2 ⊢
  have hV' := hV.out
  unfold MBox at hV'
  obtain ⟨P, hP⟩ : ∃ t, Hid (i * c = t) := ⟨_, rfl⟩
  rw [hP.out] at e1 hp hk hc2 hf2 ⊢
  have e2 : (P : Int) + (j : Int) = ((P + j : Nat) : Int) := by simp
  obtain ⟨k, hk'⟩ : ∃ t, Hid (P + j = t) := ⟨_, rfl⟩
  have e3 := wrapM P (by omega)
  have e4 := wrapM k (by rw [← hk'.out]; omega)
  rw [hk'.out] at e2 hk hc2 hf2 ⊢
  have k0 : (0 : Int) ≤ (k : Int) := by omega
  have k1 : (k : Int) < (n : Int) := by omega
  clear hcell hfz hg hi hc hj hp hal
  go_enter Try.func25, Try.ntmps25
  go_wp2_with fail
  exact bodyPost_end (v := .tuple #[]) (by simp [results, Try.results25, go_sem]) rfl ⟨rfl, rfl⟩
end Go.Proofs.Ytjaljdodlfmebaa

namespace Go.Proofs.Ytjaljdodlfmebaa
open Go.RowKit Go.IntWalk

theorem ownsq_kept {w w' : World} {base : Nat} {v : Value} {xs : List Nat} (h : Owns w base v xs) (hb : Below w.heap.size w w') : Owns w' base v xs := by
  obtain ⟨h1, h2 | ⟨g, cap, cur, e1, e2, e3, e4⟩⟩ := h
  · exact ⟨h1, .inl h2⟩
  · exact ⟨h1, .inr ⟨g, cap, cur, e1, e2, (hb.block g (Array.getElem?_eq_some_iff.1 e3).1).trans e3, e4⟩⟩
set_option maxRecDepth 4000 in
set_option maxHeartbeats 1000000 in
/-- told: an error on both sides, nothing beside it. -/
theorem told_no (E : Int) (hE : E ≠ 0) (r2 c2 : Int) (s2 : Option Addr) (n2 k2 : Nat) (w : World) :
    Calls Try.prog 9 #[.agg #[.int .i64 0, .int .i64 0, .slice none 0 0], .int .i64 E, .agg #[.int .i64 r2, .int .i64 c2, .slice s2 n2 k2], .int .i64 E] w fun e w' => e = .returned (.bool true) ∧ Below w.heap.size w w' := by
  obtain ⟨t1, t2, t3, t4⟩ := two_b w (MBox 0 0 none 0 0) (MBox r2 c2 s2 n2 k2)
  have h1 : (E != E) = false := by simp
  have h2 : (E != 0) = true := by simpa using hE
  have h3 : (E == E) = true := by simp
  obtain ⟨V, hV⟩ : ∃ V, Hid ((w.alloc (MBox 0 0 none 0 0)).alloc (MBox r2 c2 s2 n2 k2) = V) := ⟨_, rfl⟩
  rw [hV.out] at t1 t2 t3 t4
  have hV' := hV.out
  have HB := hid t3
  obtain ⟨x0, x1, x2⟩ := mcells_of t1
  unfold MBox at hV'
  clear t1 t2 t3 t4 hE
  go_enter Try.func9, Try.ntmps9
  go_wp2_with fail
  go_ret
  exact ⟨rfl, HB.out⟩
set_option maxRecDepth 4000 in
set_option maxHeartbeats 1000000 in
/-- told: the same matrix on both sides. -/
theorem told_yes8 (r c : Int) (sa sb : Option Addr) (n ca cb : Nat) (f g : Nat → Nat) (w : World) (ha : FnM w sa n ca f) (hb : FnM w sb n cb g) (he : ∀ k, k < n → canonOf (f k) = canonOf (g k)) :
    Calls Try.prog 9 #[.agg #[.int .i64 r, .int .i64 c, .slice sa n ca], .int .i64 0, .agg #[.int .i64 r, .int .i64 c, .slice sb n cb], .int .i64 0] w fun e w' => e = .returned (.bool true) ∧ Below w.heap.size w w' := by
  obtain ⟨t1, t2, t3, t4⟩ := two_b w (MBox r c sa n ca) (MBox r c sb n cb)
  have h1 : ((r : Int) == r) = true := by simp
  have h2 : ((c : Int) == c) = true := by simp
  obtain ⟨V, hV⟩ : ∃ V, Hid ((w.alloc (MBox r c sa n ca)).alloc (MBox r c sb n cb) = V) := ⟨_, rfl⟩
  have HSL := hid (SameL_yes sa sb n ca cb f g _ (ha.below t3) (hb.below t3) he)
  rw [hV.out] at HSL t1 t2 t3 t4
  have hV' := hV.out
  have HB := hid t3
  obtain ⟨x0, x1, x2⟩ := mcells_of t1
  obtain ⟨v0, v1, v2⟩ := mcells_of t2
  unfold MBox at hV'
  clear t1 t2 t3 t4 ha hb he
  go_enter Try.func9, Try.ntmps9
  go_wp2_with fail
  refine HSL.out.mono ?_
  rintro e w1 ⟨rfl, hb1⟩
  have HB1 := hid (HB.out.trans (hb1.mono HB.out.size))
  clear hb1
  go_wp2_with fail
  go_ret
  exact ⟨rfl, HB1.out⟩
end Go.Proofs.Ytjaljdodlfmebaa

namespace Go.Proofs.Ytjaljdodlfmebaa
open Go.RowKit Go.IntWalk

end Go.Proofs.Ytjaljdodlfmebaa

namespace Go.Proofs.Ytjaljdodlfmebaa
open Go.RowKit Go.IntWalk

/-- Four variables as they were laid. -/
def Fr5 (w W : World) (p0 p1 rb mb : Nat) (A B R M : Obj) : Prop := Below w.heap.size w W ∧ W.heap[p0]? = some A ∧ W.heap[p1]? = some B ∧ W.heap[rb]? = some R ∧ W.heap[mb]? = some M
theorem Fr5.drew {w W : World} {p0 p1 rb mb : Nat} {A B R M : Obj} (h : Fr5 w W p0 p1 rb mb A B R M) : Fr5 w W.drew p0 p1 rb mb A B R M := ⟨h.1.drew, h.2⟩
theorem Fr5.call {w W W' : World} {p0 p1 rb mb : Nat} {A B R M : Obj} (h : Fr5 w W p0 p1 rb mb A B R M) (hb : Below W.heap.size W W') : Fr5 w W' p0 p1 rb mb A B R M := ⟨h.1.trans (hb.mono h.1.size), blkM h.2.1 hb, blkM h.2.2.1 hb, blkM h.2.2.2.1 hb, blkM h.2.2.2.2 hb⟩
theorem Fr5.set {w W : World} {p0 p1 rb mb g k : Nat} {A B R M : Obj} (h : Fr5 w W p0 p1 rb mb A B R M) (h0 : p0 ≠ g) (h1 : p1 ≠ g) (h2 : rb ≠ g) (h3 : mb ≠ g) (hg : w.heap.size ≤ g) (x : Value) : Fr5 w (W.setCell ⟨g, k, none⟩ x) p0 p1 rb mb A B R M := ⟨h.1.setCell (p := ⟨g, k, none⟩) hg _, (set_keepM h0 x).trans h.2.1, (set_keepM h1 x).trans h.2.2.1, (set_keepM h2 x).trans h.2.2.2.1, (set_keepM h3 x).trans h.2.2.2.2⟩
end Go.Proofs.Ytjaljdodlfmebaa

namespace Go.Proofs.Ytjaljdodlfmebaa
open Go.RowKit Go.IntWalk

end Go.Proofs.Ytjaljdodlfmebaa

namespace Go.Proofs.Ytjaljdodlfmebaa
open Go.RowKit Go.IntWalk

theorem row_fnM {W : World} {g N : Nat} {o : Nat → Nat} (h : W.rowIs g 52 N (fun k => .float .f64 (o k))) (hlt : ∀ k, k < N → o k < 18446744073709551616) (hmax : N ≤ 9223372036854775807) : FnM W (some ⟨g, 0, none⟩) N N o :=
  Or.inr ⟨g, 0, rfl, h.lt, Nat.le_refl _, hmax, fun k hk => ⟨by rw [Nat.zero_add]; exact h.cell hk, hlt k hk⟩⟩
end Go.Proofs.Ytjaljdodlfmebaa

namespace Go.Proofs.Ytjaljdodlfmebaa
open Go.RowKit Go.IntWalk

/-- A list that isn't there beside an error. -/
def NonL (E : Int) : Value := .tuple #[.slice none 0 0, .int .i64 E]
/-- What MulVec hands back where all goes together: the numbers, or none beside ErrOver. -/
def AnsL (N g : Nat) (o : Nat → Nat) : Value := .tuple #[if finF N o = true then .slice (some ⟨g, 0, none⟩) N N else .slice none 0 0, .int .i64 (if finF N o = true then 0 else 5)]
end Go.Proofs.Ytjaljdodlfmebaa

namespace Go.Proofs.Ytjaljdodlfmebaa
open Go.RowKit Go.IntWalk

end Go.Proofs.Ytjaljdodlfmebaa

namespace Go.Proofs.Ytjaljdodlfmebaa
open Go.RowKit Go.IntWalk

end Go.Proofs.Ytjaljdodlfmebaa

namespace Go.Proofs.Ytjaljdodlfmebaa
open Go.RowKit Go.IntWalk

theorem first_two2 (a b : Int) : firstL [a, b] = first2 a b := by
  unfold first2
  by_cases h : a = 0
  · rw [if_pos h]
    show (if a = 0 then firstL [b] else a) = b
    rw [if_pos h]
    show (if b = 0 then firstL [] else b) = b
    by_cases hb : b = 0
    · rw [if_pos hb, hb]; rfl
    · rw [if_neg hb]
  · rw [if_neg h]
    show (if a = 0 then firstL [b] else a) = a
    rw [if_neg h]
theorem first2_zero {a b : Int} (h : first2 a b = 0) : a = 0 ∧ b = 0 := by
  unfold first2 at h
  by_cases c : a = 0
  · rw [if_pos c] at h; exact ⟨c, h⟩
  · rw [if_neg c] at h; exact absurd h c
/-- The numbers of a product. -/
def prdV (xs ys : List Nat) (c c2 : Nat) (i j : Nat) : Nat := dotM (fun k => xs.getD (i * c + k) 0) (fun k => ys.getD (k * c2 + j) 0) c
/-- What Mul tells of any two. -/
def mulT (rx cx : Int) (n : Nat) (xs : List Nat) (ry cy : Int) (m : Nat) (ys : List Nat) : Int := if first2 (chkM rx cx n xs) (chkM ry cy m ys) = 0 then mulE rx.toNat cx.toNat ry.toNat cy.toNat (prdV xs ys cx.toNat cy.toNat) else first2 (chkM rx cx n xs) (chkM ry cy m ys)
theorem Mul_tot (rx cx : Int) (sa : Option Addr) (n ka : Nat) (xs : List Nat) (ry cy : Int) (sb : Option Addr) (m kb : Nat) (ys : List Nat) (w : World) (ha : FlM w sa n ka xs) (hb : FlM w sb m kb ys) (hn : n ≤ 17592186043904) (hm : m ≤ 17592186043904) :
    Calls Try.prog 28 #[.agg #[.int .i64 rx, .int .i64 cx, .slice sa n ka], .agg #[.int .i64 ry, .int .i64 cy, .slice sb m kb]] w fun e w' => (∃ X0 X1 X2 X3 X4, e = .returned (.tuple #[.agg #[.int .i64 X0, .int .i64 X1, .slice X2 X3 X4], .int .i64 (mulT rx cx n xs ry cy m ys)]) ∧ ResM (mulT rx cx n xs ry cy m ys) rx.toNat cy.toNat (prdV xs ys cx.toNat cy.toNat) w' X0 X1 X2 X3 X4) ∧ Below w.heap.size w w' := by
  unfold mulT
  by_cases h : first2 (chkM rx cx n xs) (chkM ry cy m ys) = 0
  · rw [if_pos h]
    obtain ⟨h1, h2⟩ := first2_zero h
    obtain ⟨r, c, rfl, rfl, hga⟩ := gd_of ha h1
    obtain ⟨r2, c2, rfl, rfl, hgb⟩ := gd_of hb h2
    exact Mul_res r c r2 c2 n m sa sb ka kb _ _ (prdV xs ys c c2) w hga hgb (fun _ i j _ _ => rfl)
  · rw [if_neg h]
    refine (Mul_bad rx cx ry cy n m sa sb ka kb xs ys w ha hb hn hm h).mono ?_
    rintro e w' ⟨rfl, hbb⟩
    obtain ⟨X0, X1, X2, X3, X4, e1, e2⟩ := res_non rx.toNat cy.toNat (prdV xs ys cx.toNat cy.toNat) _ w' h
    exact ⟨⟨X0, X1, X2, X3, X4, by rw [e1], e2⟩, hbb⟩
/-- told of two that were handed back with the same error and numbers. -/
theorem told_res (E : Int) (r c : Nat) (v : Nat → Nat → Nat) (X0 X1 Y0 Y1 : Int) (X2 Y2 : Option Addr) (X3 X4 Y3 Y4 : Nat) (w : World) (h : ResM E r c v w X0 X1 X2 X3 X4) (h2 : E = 0 → ResM E r c v w Y0 Y1 Y2 Y3 Y4) :
    Calls Try.prog 9 #[.agg #[.int .i64 X0, .int .i64 X1, .slice X2 X3 X4], .int .i64 E, .agg #[.int .i64 Y0, .int .i64 Y1, .slice Y2 Y3 Y4], .int .i64 E] w fun e w' => e = .returned (.bool true) ∧ Below w.heap.size w w' := by
  rcases h with ⟨rfl, rfl, rfl, rfl, rfl, g, o, rfl, hf, hv, _⟩ | ⟨h0, rfl, rfl, rfl, rfl, rfl⟩
  · rcases h2 rfl with ⟨_, rfl, rfl, rfl, rfl, g', o', rfl, hf', hv', _⟩ | ⟨h0, _⟩
    · refine told_yes8 r c _ _ (r * c) _ _ o o' w hf hf' (fun k hk => ?_)
      obtain ⟨q1, q2, q3⟩ := split_k hk
      rw [← q3, hv _ _ q1 q2, hv' _ _ q1 q2]
    · exact absurd rfl h0
  · exact told_no E h0 _ _ _ _ _ w
end Go.Proofs.Ytjaljdodlfmebaa
