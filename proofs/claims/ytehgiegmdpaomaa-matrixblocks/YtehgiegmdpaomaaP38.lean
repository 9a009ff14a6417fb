
/- The document's At, Put, Row, Col; the law's of, told, list, same. -/
import Derived.Test.YtehgiegmdpaomaaP37
namespace Go.Proofs.Ytehgiegmdpaomaa
open Go.RowKit Go.IntWalk

/-- Numbers in memory of one's own. -/
def OwM (W : World) (B : Nat) (ta : Option Addr) (n cap : Nat) (xs : List Nat) : Prop := FlM W ta n cap xs ∧ (n = 0 ∨ ∃ g, ta = some ⟨g, 0, none⟩ ∧ B ≤ g ∧ ∀ k, W.frozen? ⟨g, k, none⟩ = false)
theorem OwM.mono {W : World} {B B' : Nat} {ta : Option Addr} {n cap : Nat} {xs : List Nat} (h : OwM W B ta n cap xs) (hb : B' ≤ B) : OwM W B' ta n cap xs := by
  rcases h.2 with h2 | ⟨g, h1, h2, h3⟩
  · exact ⟨h.1, Or.inl h2⟩
  · exact ⟨h.1, Or.inr ⟨g, h1, Nat.le_trans hb h2, h3⟩⟩
theorem fl_lt {W : World} {g n cap : Nat} {xs : List Nat} (h : FlM W (some ⟨g, 0, none⟩) n cap xs) : g < W.heap.size := by
  rcases h.2.2 with ⟨h1, _⟩ | ⟨b, off, h1, h2, _⟩
  · cases h1
  · simp only [Option.some.injEq, Addr.mk.injEq] at h1
    rw [h1.1]; exact h2
theorem OwM.below {W W' : World} {B : Nat} {ta : Option Addr} {n cap : Nat} {xs : List Nat} (h : OwM W B ta n cap xs) (hb : Below W.heap.size W W') : OwM W' B ta n cap xs := by
  refine ⟨h.1.below hb, ?_⟩
  rcases h.2 with h2 | ⟨g, h1, h2, h3⟩
  · exact Or.inl h2
  · subst h1
    exact Or.inr ⟨g, rfl, h2, fun k => (World.frozen?_of_block (hb.block g (fl_lt h.1))).trans (h3 k)⟩
theorem fl_cell {W : World} {g n cap : Nat} {xs : List Nat} (h : FlM W (some ⟨g, 0, none⟩) n cap xs) (hn : n ≠ 0) : ∃ x, W.cell? ⟨g, 0, none⟩ = some (.float .f64 x) := by
  rcases h.2.2 with ⟨h1, _⟩ | ⟨b, off, h1, _, _, _, h2⟩
  · cases h1
  · simp only [Option.some.injEq, Addr.mk.injEq, and_true] at h1
    obtain ⟨rfl, rfl⟩ := h1
    exact ⟨_, h2 0 (by omega)⟩
theorem fl_ne {W : World} {g n cap b : Nat} {xs : List Nat} {r0 c0 : Int} {s0 : Option Addr} {n0 k0 : Nat} (h : FlM W (some ⟨g, 0, none⟩) n cap xs) (hn : n ≠ 0) (hb : W.heap[b]? = some (MBox r0 c0 s0 n0 k0)) : g ≠ b := fun hc => by
  subst hc
  obtain ⟨x, hx⟩ := fl_cell h hn
  rw [(mcells_of hb).1] at hx
  cases hx
theorem fl_neB {W : World} {g n cap b : Nat} {xs : List Nat} {r0 c0 : Int} {s0 : Option Addr} {n0 k0 : Nat} (h : FlM W (some ⟨g, 0, none⟩) n cap xs) (hn : n ≠ 0) (hb : W.heap[b]? = some (BBox r0 c0 s0 n0 k0)) : g ≠ b := fun hc => by
  subst hc
  obtain ⟨x, hx⟩ := fl_cell h hn
  rw [(bcells_of hb).1] at hx
  cases hx
theorem OwM.sto {W : World} {B : Nat} {ta : Option Addr} {n cap : Nat} {xs : List Nat} (h : OwM W B ta n cap xs) {b : Nat} {r c r0 c0 : Int} {s s0 : Option Addr} {m k n0 k0 : Nat} (hb : W.heap[b]? = some (MBox r0 c0 s0 n0 k0)) : OwM (StoM W b r c s m k) B ta n cap xs := by
  refine ⟨sto_fl h.1 hb, ?_⟩
  by_cases hn : n = 0
  · exact Or.inl hn
  rcases h.2 with h2 | ⟨g, h1, h2, h3⟩
  · exact absurd h2 hn
  · subst h1
    exact Or.inr ⟨g, rfl, h2, fun k => (World.frozen?_of_block (StoM.keep (fl_ne h.1 hn hb))).trans (h3 k)⟩
theorem l_own (sa : Option Addr) (sn sc : Nat) (xs : List Nat) (w : World) (hu : U64At w sa sn xs) (hn : sn ≤ 17592186043904) :
    Calls Try.prog 46 #[.slice sa sn sc] w fun r w' => ∃ ta cap, r = .returned (.slice ta sn cap) ∧ OwM w' w.heap.size ta sn cap xs ∧ Below w.heap.size w w' := by
  refine (Of64_any sa sn sc xs w hu hn).mono ?_
  rintro r w' ⟨v, rfl, h1, h2, h3⟩
  by_cases c : xs = []
  · obtain rfl := h2 c
    subst c
    have h0 : sn = 0 := hu.1.symm
    subst h0
    exact ⟨none, 0, rfl, ⟨⟨rfl, fun x hx => (by cases hx), Or.inl ⟨rfl, rfl, rfl⟩⟩, Or.inl rfl⟩, h3⟩
  · rcases h1.2 with ⟨_, e⟩ | ⟨g, cap, cur, rfl, k1, k2, k3, k4, k5, k6⟩
    · exact absurd (List.length_eq_zero_iff.1 e) c
    · rw [hu.1] at k3 ⊢
      refine ⟨_, cap, rfl, ⟨⟨hu.1, hu.2.1, Or.inr ⟨g, 0, rfl, (Array.getElem?_eq_some_iff.1 k2).1, k3, k4, fun j hj => ?_⟩⟩, Or.inr ⟨g, rfl, k1, fun j => frozen_of_row w' g j cur _ k2⟩⟩, h3⟩
      have e1 : (cur.toList.take (xs.length * 1))[j]? = (xs.map (Value.float .f64))[j]? := by rw [k6]
      have hj2 : j < xs.length := by rw [hu.1]; exact hj
      rw [List.getElem?_take, if_pos (by omega), List.getElem?_map, List.getElem?_eq_getElem hj2] at e1
      have e2 : cur[j]? = some (.float .f64 (xs.getD j 0)) := by
        rw [← Array.getElem?_toList, e1, List.getD_eq_getElem?_getD, List.getElem?_eq_getElem hj2]
        rfl
      rw [Nat.zero_add]
      simp [World.cell?, k2, e2]
set_option maxHeartbeats 1000000 in
theorem ll_own (sa : Option Addr) (sn sc : Nat) (xs : List Nat) (w : World) (hu : U64At w sa sn xs) (hn : sn ≤ 17592186043904) :
    Calls Try.prog 18 #[.slice sa sn sc] w fun r w' => ∃ ta cap, r = .returned (.slice ta sn cap) ∧ OwM w' w.heap.size ta sn cap xs ∧ Below w.heap.size w w' := by
  have HL := hid (l_own sa sn sc xs w hu hn)
  clear hu hn
  go_enter Try.func18, Try.ntmps18
  go_wp2_with fail
  refine HL.out.mono ?_
  rintro e w1 ⟨ta, cap, rfl, h1, h2⟩
  have H := hid (And.intro h1 h2)
  clear h1 h2
  go_wp2_with fail
  go_ret
  exact ⟨_, _, rfl, H.out.1, H.out.2⟩
set_option maxHeartbeats 1000000 in
theorem of_own (r c : Int) (sa : Option Addr) (sn sc : Nat) (xs : List Nat) (w : World) (hu : U64At w sa sn xs) (hn : sn ≤ 17592186043904) :
    Calls Try.prog 5 #[.agg #[.int .i64 r, .int .i64 c, .slice sa sn sc]] w fun e w' => (∃ ta cap, e = .returned (MV r c ta sn cap) ∧ OwM w' w.heap.size ta sn cap xs) ∧ Below w.heap.size w w' := by
  obtain ⟨t1, t2, t3, t4⟩ := two_b w (BBox r c sa sn sc) (MBox 0 0 none 0 0)
  obtain ⟨V, hV⟩ : ∃ V, Hid ((w.alloc (BBox r c sa sn sc)).alloc (MBox 0 0 none 0 0) = V) := ⟨_, rfl⟩
  rw [hV.out] at t1 t2 t3 t4
  have hV' := hV.out
  have HBV := hid t3
  have HR := hid t2
  have HA0 := hid t1
  obtain ⟨x0, x1, x2⟩ := bcells_of t1
  have HLD := hid (ll_own sa sn sc xs V.drew ((hu.below t3).below ((Below.refl _ _).drew)) hn)
  have HSB : Hid (w.heap.size ≤ V.drew.heap.size) := HBV.out.size
  unfold MBox BBox at hV'
  unfold MV
  clear hu hn t1 t2 t3 t4
  go_enter Try.func5, Try.ntmps5
  go_wp2_with fail
  have HQ0 : Hid (Fr3 w V.drew w.heap.size (w.heap.size + 1) (BBox r c sa sn sc) (MBox 0 0 none 0 0)) := (show Fr3 w V w.heap.size (w.heap.size + 1) (BBox r c sa sn sc) (MBox 0 0 none 0 0) from ⟨HBV.out, HA0.out, HR.out⟩).drew
  have HKS : Hid (∀ W, Hid (Fr3 w W w.heap.size (w.heap.size + 1) (BBox r c sa sn sc) (MBox 0 0 none 0 0)) → (W.cell? ⟨w.heap.size, 0, none⟩ = some (.int .i64 r) ∧ W.cell? ⟨w.heap.size, 1, none⟩ = some (.int .i64 c) ∧ W.cell? ⟨w.heap.size, 2, none⟩ = some (.slice sa sn sc))) := fun W hW => bcells_of hW.out.2.1
  have HST : Hid (∀ W, Hid (Fr3 w W w.heap.size (w.heap.size + 1) (BBox r c sa sn sc) (MBox 0 0 none 0 0)) → ∀ r2 c2 s2 n2 k2, ((((W.setCell ⟨w.heap.size + 1, 0, none⟩ (.int .i64 r2)).setCell ⟨w.heap.size + 1, 1, none⟩ (.int .i64 c2)).setCell ⟨w.heap.size + 1, 2, none⟩ (.slice s2 n2 k2)).cell? ⟨w.heap.size, 0, none⟩ = some (.int .i64 r) ∧ (((W.setCell ⟨w.heap.size + 1, 0, none⟩ (.int .i64 r2)).setCell ⟨w.heap.size + 1, 1, none⟩ (.int .i64 c2)).setCell ⟨w.heap.size + 1, 2, none⟩ (.slice s2 n2 k2)).cell? ⟨w.heap.size, 1, none⟩ = some (.int .i64 c) ∧ (((W.setCell ⟨w.heap.size + 1, 0, none⟩ (.int .i64 r2)).setCell ⟨w.heap.size + 1, 1, none⟩ (.int .i64 c2)).setCell ⟨w.heap.size + 1, 2, none⟩ (.slice s2 n2 k2)).cell? ⟨w.heap.size, 2, none⟩ = some (.slice sa sn sc))) := fun W hW r2 c2 s2 n2 k2 => bcells_of (w := StoM W (w.heap.size + 1) r2 c2 s2 n2 k2) ((StoM.keep (by omega)).trans hW.out.2.1)
  refine wp_region_held_drew (S := fun W => W.cell? ⟨w.heap.size, 0, none⟩ = some (.int .i64 r) ∧ W.cell? ⟨w.heap.size, 1, none⟩ = some (.int .i64 c) ∧ W.cell? ⟨w.heap.size, 2, none⟩ = some (.slice sa sn sc)) (by kernel_rfl) (HKS.out _ HQ0) (fun hHeld => ?_)
  refine take_at 0 3 (.pointer (some ⟨w.heap.size, 0, none⟩)) rfl rfl (by kernel_rfl) (by kernel_rfl) (by kernel_rfl) (fun _ _ _ h => h) (Or.inl ⟨by rfl, fun w hSw => by (try dsimp only at hSw); go_simp⟩) (by assumption) ?_
  simp only [Act.put, List.setIfInBounds_toArray, List.set_cons_zero, List.set_cons_succ]
  refine take_at 1 4 (.int .i64 r) rfl rfl (by kernel_rfl) (by kernel_rfl) (by kernel_rfl) (fun _ _ _ h => h) (Or.inl ⟨by rfl, fun w hSw => by (try dsimp only at hSw); go_simp⟩) (by assumption) ?_
  simp only [Act.put, List.setIfInBounds_toArray, List.set_cons_zero, List.set_cons_succ]
  refine take_at 2 5 (.pointer (some ⟨w.heap.size, 1, none⟩)) rfl rfl (by kernel_rfl) (by kernel_rfl) (by kernel_rfl) (fun _ _ _ h => h) (Or.inl ⟨by rfl, fun w hSw => by (try dsimp only at hSw); go_simp⟩) (by assumption) ?_
  simp only [Act.put, List.setIfInBounds_toArray, List.set_cons_zero, List.set_cons_succ]
  refine take_at 3 6 (.int .i64 c) rfl rfl (by kernel_rfl) (by kernel_rfl) (by kernel_rfl) (fun _ _ _ h => h) (Or.inl ⟨by rfl, fun w hSw => by (try dsimp only at hSw); go_simp⟩) (by assumption) ?_
  simp only [Act.put, List.setIfInBounds_toArray, List.set_cons_zero, List.set_cons_succ]
  refine take_at 4 7 (.pointer (some ⟨w.heap.size, 2, none⟩)) rfl rfl (by kernel_rfl) (by kernel_rfl) (by kernel_rfl) (fun _ _ _ h => h) (Or.inl ⟨by rfl, fun w hSw => by (try dsimp only at hSw); go_simp⟩) (by assumption) ?_
  simp only [Act.put, List.setIfInBounds_toArray, List.set_cons_zero, List.set_cons_succ]
  refine take_at 5 8 (.slice sa sn sc) rfl rfl (by kernel_rfl) (by kernel_rfl) (by kernel_rfl) (fun _ _ _ h => h) (Or.inl ⟨by rfl, fun w hSw => by (try dsimp only at hSw); go_simp⟩) (by assumption) ?_
  simp only [Act.put, List.setIfInBounds_toArray, List.set_cons_zero, List.set_cons_succ]
  refine wpAnyH_ready (rs := [6]) (by kernel_rfl) (by simp) ?_
  refine AllReadyH.cons (o := _) rfl (fun K hK => ?_) AllReadyH.nil
  go_simp
  refine HLD.out.mono ?_
  rintro e u1 ⟨ta, cap, rfl, hf1, hb1⟩
  have HG1 := hid (HQ0.out.call hb1)
  have HF1 := hid hf1
  clear hf1 hb1
  go_wp2_with fail
  refine hK.out _ _ (HKS.out _ HG1) (fun hHeld1 => ?_)
  clear hK K
  try simp only [Act.put, List.setIfInBounds_toArray, List.set_cons_zero, List.set_cons_succ]
  refine take_at 7 10 (.agg #[.int .i64 r, .int .i64 c, .slice ta sn cap]) rfl rfl (by kernel_rfl) (by kernel_rfl) (by kernel_rfl) (fun _ _ _ h => h) (Or.inl ⟨by rfl, fun w hSw => by (try dsimp only at hSw); go_simp⟩) (by assumption) ?_
  simp only [Act.put, List.setIfInBounds_toArray, List.set_cons_zero, List.set_cons_succ]
  obtain ⟨y0, y1, y2⟩ := mcells_of HG1.out.2.2
  have fz := frzM HG1.out.2.2
  refine wpAnyH_ready (rs := [8]) (by kernel_rfl) (by simp) ?_
  refine AllReadyH.cons (o := _) rfl (fun K hK => ?_) AllReadyH.nil
  go_simp
  go_wp2_with fail
  refine hK.out _ _ (HST.out _ HG1 _ _ _ _ _) (fun hHeld2 => ?_)
  clear hK K
  try simp only [Act.put, List.setIfInBounds_toArray, List.set_cons_zero, List.set_cons_succ]
  refine wpAnyH_done (by kernel_rfl) ?_ _
  go_wp2_with fail
  exact bodyPost_ret (v := MV r c ta sn cap) (by simp [results, Try.results5, go_sem, y0, y1, y2, MV]) rfl ⟨⟨ta, cap, rfl, (HF1.out.mono HSB.out).sto HG1.out.2.2⟩, StoM.below HG1.out.1 (by omega)⟩
set_option maxHeartbeats 400000 in
theorem rAt_any (r : Int) (sa : Option Addr) (c n cap i j : Nat) (xs : List Nat) (w : World) (h : FlM w sa n cap xs) (hi : i ≤ 100) (hc : c ≤ 100) (hj : j ≤ 100) (hk : i * c + j < n) : Calls Try.prog 36 #[MV r c sa n cap, .int .i64 i, .int .i64 j] w fun r w' => r = .returned (.float .f64 (xs.getD (i * c + j) 0)) ∧ Below w.heap.size w w' := by
  obtain ⟨b, off, rfl, h1, h2, _⟩ := h.at (by omega)
  have hp : i * c ≤ 10000 := Nat.mul_le_mul hi hc
  have hc0 := h2 _ hk
  have e1 : (i : Int) * (c : Int) = ((i * c : Nat) : Int) := by simp
  obtain ⟨p, hp'⟩ : ∃ p, Hid (i * c = p) := ⟨_, rfl⟩
  rw [hp'.out] at e1 hp hk hc0 ⊢
  have e2 : (p : Int) + (j : Int) = ((p + j : Nat) : Int) := by simp
  obtain ⟨k, hk'⟩ : ∃ k, Hid (p + j = k) := ⟨_, rfl⟩
  have e3 := wrapM p (by omega)
  have e4 := wrapM k (by rw [← hk'.out]; omega)
  rw [hk'.out] at e2 hk hc0 ⊢
  have k0 : (0 : Int) ≤ (k : Int) := by omega
  have k1 : (k : Int) < (n : Int) := by omega
  have hcell : (w.alloc (MBox r c (some ⟨b, off, none⟩) n cap)).cell? ⟨b, off + k, none⟩ = some (.float .f64 (xs.getD k 0)) := by
    rw [((Below.refl w.heap.size w).alloc (Nat.le_refl _) _).cell (p := ⟨b, off + k, none⟩) h1]
    exact hc0
  have HB : Hid (Below w.heap.size w (w.alloc (MBox r c (some ⟨b, off, none⟩) n cap))) := (Below.refl _ _).alloc (Nat.le_refl _) _
  obtain ⟨x, hx⟩ : ∃ x, Hid (xs.getD k 0 = x) := ⟨_, rfl⟩
  rw [hx.out] at hcell ⊢
  unfold MBox at HB hcell
  unfold MV
  clear h h1 h2 hc0 hi hc hj hp
  go_enter Try.func36, Try.ntmps36
  go_wp2_with fail
  go_ret
  exact ⟨rfl, HB.out⟩
theorem rAt_fn (r : Int) (sa : Option Addr) (c n cap i j : Nat) (f : Nat → Nat) (w : World) (h : FnM w sa n cap f) (hi : i ≤ 100) (hc : c ≤ 100) (hj : j ≤ 100) (hk : i * c + j < n) : Calls Try.prog 36 #[.agg #[.int .i64 r, .int .i64 c, .slice sa n cap], .int .i64 i, .int .i64 j] w fun r w' => r = .returned (.float .f64 (f (i * c + j))) ∧ Below w.heap.size w w' := by
  have := rAt_any r sa c n cap i j _ w h.fl hi hc hj hk
  rw [getD_map n f _ hk] at this
  exact this
set_option maxRecDepth 4000 in
set_option maxHeartbeats 1000000 in
/-- Put: the number's cell is written, nothing else. -/
theorem Put_any (r : Int) (g c n cap i j x y : Nat) (w : World) (hcell : w.cell? ⟨g, i * c + j, none⟩ = some (.float .f64 y)) (hfz : w.frozen? ⟨g, i * c + j, none⟩ = false) (hg : g < w.heap.size) (hi : i ≤ 100) (hc : c ≤ 100) (hj : j ≤ 100) (hk : i * c + j < n) : Calls Try.prog 35 #[.agg #[.int .i64 r, .int .i64 c, .slice (some ⟨g, 0, none⟩) n cap], .int .i64 i, .int .i64 j, .float .f64 x] w fun e w' => e = .returned (.tuple #[]) ∧ w' = (w.alloc (MBox r c (some ⟨g, 0, none⟩) n cap)).setCell ⟨g, i * c + j, none⟩ (.float .f64 x) := by
  have hst := fstoreM
  have hal : Below w.heap.size w (w.alloc (MBox r c (some ⟨g, 0, none⟩) n cap)) := (Below.refl _ _).alloc (Nat.le_refl _) _
  have hp : i * c ≤ 10000 := Nat.mul_le_mul hi hc
  have e1 : (i : Int) * (c : Int) = ((i * c : Nat) : Int) := by simp
  have hc2 : (w.alloc (MBox r c (some ⟨g, 0, none⟩) n cap)).cell? ⟨g, i * c + j, none⟩ = some (.float .f64 y) := (World.cell?_of_block (hal.block _ hg)).trans hcell
  have hf2 : (w.alloc (MBox r c (some ⟨g, 0, none⟩) n cap)).frozen? ⟨g, i * c + j, none⟩ = false := (World.frozen?_of_block (hal.block _ hg)).trans hfz
  obtain ⟨x0, x1, x2⟩ := mcells_of (w := w.alloc (MBox r c (some ⟨g, 0, none⟩) n cap)) (b := w.heap.size) (nblkM _ _)
  obtain ⟨V, hV⟩ : ∃ V, Hid (w.alloc (MBox r c (some ⟨g, 0, none⟩) n cap) = V) := ⟨_, rfl⟩
  rw [hV.out] at hc2 hf2 x0 x1 x2 ⊢
  have hV' := hV.out
  unfold MBox at hV'
  obtain ⟨P, hP⟩ : ∃ t, Hid (i * c = t) := ⟨_, rfl⟩
  rw [hP.out] at e1 hp hk hc2 hf2 ⊢
  have e2 : (P : Int) + (j : Int) = ((P + j : Nat) : Int) := by simp
  obtain ⟨k, hk'⟩ : ∃ t, Hid (P + j = t) := ⟨_, rfl⟩
  have e3 := wrapM P (by omega)
  have e4 := wrapM k (by rw [← hk'.out]; omega)
  rw [hk'.out] at e2 hk hc2 hf2 ⊢
  have k0 : (0 : Int) ≤ (k : Int) := by omega
  have k1 : (k : Int) < (n : Int) := by omega
  clear hcell hfz hg hi hc hj hp hal
  go_enter Try.func35, Try.ntmps35
  go_wp2_with fail
  exact bodyPost_end (v := .tuple #[]) (by simp [results, Try.results35, go_sem]) rfl ⟨rfl, rfl⟩
end Go.Proofs.Ytehgiegmdpaomaa
