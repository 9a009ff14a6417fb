
/- matrix: rows, dot products of rows, the closures of turned, byRows, Add, Mirror, Mean, Sandwich. (Written by mkmxf.py.) -/
import Derived.Test.YtglgjkhfoajflaaP22
namespace Go.Proofs.Ytglgjkhfoajflaa
open Go.RowKit Go.IntWalk

/-- Numbers in a list, of any place, told by a function; nil or not. -/
def FnM (w : World) (sa : Option Addr) (n cap : Nat) (f : Nat → Nat) : Prop := (sa = none ∧ n = 0 ∧ cap = 0) ∨ ∃ b off, sa = some ⟨b, off, none⟩ ∧ b < w.heap.size ∧ n ≤ cap ∧ cap ≤ 9223372036854775807 ∧ ∀ j, j < n → w.cell? ⟨b, off + j, none⟩ = some (.float .f64 (f j)) ∧ f j < 18446744073709551616
theorem FnM.below {w w' : World} {sa : Option Addr} {n cap : Nat} {f : Nat → Nat} (h : FnM w sa n cap f) (hb : Below w.heap.size w w') : FnM w' sa n cap f := by
  rcases h with h | ⟨b, off, h3, h4, h5, h6, h7⟩
  · exact Or.inl h
  · exact Or.inr ⟨b, off, h3, Nat.lt_of_lt_of_le h4 hb.size, h5, h6, fun j hj => ⟨by rw [hb.cell (p := ⟨b, off + j, none⟩) h4]; exact (h7 j hj).1, (h7 j hj).2⟩⟩
theorem FlM.fn {w : World} {sa : Option Addr} {n cap : Nat} {xs : List Nat} (h : FlM w sa n cap xs) : FnM w sa n cap (fun j => xs.getD j 0) := by
  obtain ⟨h1, h2, h3 | ⟨b, off, h3, h4, h5, h6, h7⟩⟩ := h
  · exact Or.inl h3
  · exact Or.inr ⟨b, off, h3, h4, h5, h6, fun j hj => ⟨h7 j hj, h2 _ (mem_getM xs j (by omega))⟩⟩
theorem FnM.fl {w : World} {sa : Option Addr} {n cap : Nat} {f : Nat → Nat} (h : FnM w sa n cap f) : FlM w sa n cap ((List.range n).map f) := by
  refine ⟨by simp, fun x hx => ?_, ?_⟩
  · obtain ⟨j, hj, rfl⟩ := List.mem_map.1 hx
    rw [List.mem_range] at hj
    rcases h with ⟨_, h2, _⟩ | ⟨b, off, _, _, _, _, h7⟩
    · omega
    · exact (h7 j hj).2
  · rcases h with h | ⟨b, off, h3, h4, h5, h6, h7⟩
    · exact Or.inl h
    · refine Or.inr ⟨b, off, h3, h4, h5, h6, fun j hj => ?_⟩
      rw [(h7 j hj).1, List.getD_eq_getElem?_getD, List.getElem?_map, List.getElem?_range hj]
      rfl
theorem FnM.congr {w : World} {sa : Option Addr} {n cap : Nat} {f g : Nat → Nat} (h : FnM w sa n cap f) (hg : ∀ j, j < n → f j = g j) : FnM w sa n cap g := by
  rcases h with h | ⟨b, off, h3, h4, h5, h6, h7⟩
  · exact Or.inl h
  · exact Or.inr ⟨b, off, h3, h4, h5, h6, fun j hj => by rw [← hg j hj]; exact h7 j hj⟩
set_option maxHeartbeats 400000 in
theorem dot_zero (sa sb : Option Addr) (ca cb : Nat) (w : World) : Calls Try.prog 85 #[.slice sa 0 ca, .slice sb 0 cb] w fun e w' => e = .returned (.float .f64 0) ∧ Below w.heap.size w w' := by
  go_enter Try.func85, Try.ntmps85
  go_wp2_with fail
  go_loopw [5, 9] (fun s i wr => s = .float .f64 0 ∧ i = .int .i64 0 ∧ Below w.heap.size w wr) (fun _ _ _ => 0)
  case atStart => exact ⟨rfl, rfl, Below.refl _ _⟩
  case round =>
    obtain ⟨rfl, rfl, hb⟩ := hrel
    go_wp2_with fail
    go_ret
    exact ⟨rfl, hb⟩
theorem dot_any (sa sb : Option Addr) (n ca cb : Nat) (f g : Nat → Nat) (w : World) (hn : n ≤ 17592186043904) (ha : FnM w sa n ca f) (hb : FnM w sb n cb g) : Calls Try.prog 85 #[.slice sa n ca, .slice sb n cb] w fun e w' => ∃ z : Nat, e = .returned (.float .f64 z) ∧ (z < 18446744073709551616 ∧ canonOf z = dotM f g n) ∧ Below w.heap.size w w' := by
  by_cases h : n = 0
  · subst h
    refine (dot_zero sa sb ca cb w).mono ?_
    rintro e w' ⟨rfl, h2⟩
    exact ⟨0, rfl, ⟨by decide, by show canonOf 0 = 0; decide⟩, h2⟩
  · rcases ha with ⟨_, h2, _⟩ | ⟨b, off, rfl, q1, _, _, q4⟩
    · exact absurd h2 h
    rcases hb with ⟨_, h2, _⟩ | ⟨b2, off2, rfl, q5, _, _, q8⟩
    · exact absurd h2 h
    exact dot_some b off b2 off2 n ca cb f g w hn q1 q5 q4 q8
set_option maxHeartbeats 1000000 in
theorem row_nil (r : Int) (i : Nat) (hi : i ≤ 100) (w : World) : Calls Try.prog 99 #[MV r (0 : Nat) none 0 0, .int .i64 i] w fun e w' => e = .returned (.slice none 0 0) ∧ Below w.heap.size w w' := by
  have HB : Hid (Below w.heap.size w (w.alloc (MBox r (0 : Nat) none 0 0))) := (Below.refl _ _).alloc (Nat.le_refl _) _
  obtain ⟨i1, hi1⟩ : ∃ t, Hid (i + 1 = t) := ⟨_, rfl⟩
  have e1 : IntKind.i64.wrap ((i : Int) + 1) = (i1 : Int) := by have := hi1.out; rw [IntWalk.i64_in _ (by omega)]; omega
  have e2 : (i : Int) + 1 = (i1 : Int) := by have := hi1.out; omega
  unfold MBox at HB
  unfold MV
  clear hi
  go_enter Try.func99, Try.ntmps99
  go_wp2_with fail
  go_ret
  exact ⟨rfl, HB.out⟩
set_option maxHeartbeats 1000000 in
theorem row_some (r : Int) (b off c n cap i : Nat) (f : Nat → Nat) (w : World) (hi : i ≤ 100) (hc : c ≤ 100) (hn : (i + 1) * c ≤ n) (hcap : n ≤ cap) (hmax : cap ≤ 9223372036854775807) (hb : b < w.heap.size) (hcell : ∀ j, j < n → w.cell? ⟨b, off + j, none⟩ = some (.float .f64 (f j)) ∧ f j < 18446744073709551616) :
    Calls Try.prog 99 #[MV r c (some ⟨b, off, none⟩) n cap, .int .i64 i] w fun e w' => (∃ sa' cap', e = .returned (.slice sa' c cap') ∧ FnM w' sa' c cap' (fun j => f (i * c + j))) ∧ Below w.heap.size w w' := by
  have HB : Hid (Below w.heap.size w (w.alloc (MBox r c (some ⟨b, off, none⟩) n cap))) := (Below.refl _ _).alloc (Nat.le_refl _) _
  obtain ⟨i1, hi1⟩ : ∃ t, Hid (i + 1 = t) := ⟨_, rfl⟩
  have e1 : IntKind.i64.wrap ((i : Int) + 1) = (i1 : Int) := by have := hi1.out; rw [IntWalk.i64_in _ (by omega)]; omega
  have e2 : (i : Int) + 1 = (i1 : Int) := by have := hi1.out; omega
  have hq0 : i * c + c = (i + 1) * c := by rw [Nat.add_mul, Nat.one_mul]
  have hp0 : (i + 1) * c ≤ 101 * 100 := Nat.mul_le_mul (by omega) hc
  obtain ⟨p, hp⟩ : ∃ t, Hid (i * c = t) := ⟨_, rfl⟩
  obtain ⟨q, hq⟩ : ∃ t, Hid ((i + 1) * c = t) := ⟨_, rfl⟩
  have e3 : (i : Int) * (c : Int) = (p : Int) := by rw [← hp.out]; simp
  have e4 : (i1 : Int) * (c : Int) = (q : Int) := by rw [← hq.out, ← hi1.out]; simp
  rw [hq.out] at hq0 hp0 hn
  rw [hp.out] at hq0
  have w1 := wrapM p (by omega)
  have w2 := wrapM q (by omega)
  have w3 := wrapM i1 (by have := hi1.out; omega)
  have t0 : (0 : Int) ≤ (p : Int) := by omega
  have t1 : (p : Int) ≤ (q : Int) := by omega
  have t2 : (q : Int) ≤ (cap : Int) := by omega
  have t3 : p ≤ q := by omega
  have t4 : q ≤ cap := by omega
  have t5 : q - p = c := by omega
  have t6 : (0 : Int) ≤ (q : Int) := by omega
  have HC : Hid (∀ W, Below w.heap.size w W → ∀ j, j < n → W.cell? ⟨b, off + j, none⟩ = some (.float .f64 (f j)) ∧ f j < 18446744073709551616) := fun W hW j hj => ⟨(hW.cell (p := ⟨b, off + j, none⟩) hb).trans (hcell j hj).1, (hcell j hj).2⟩
  have HL := hid (And.intro hn (And.intro hmax (And.intro hb hq0)))
  have HE : Hid (∀ j, i * c + j = p + j) := fun j => by rw [hp.out]
  unfold MBox at HB
  unfold MV
  clear hi hc hn hcap hmax hb hcell hp0 hq0
  by_cases h : cap = p
  · have HC0 : Hid (c = 0) := by show c = 0; omega
    subst h
    go_enter Try.func99, Try.ntmps99
    go_wp2_with fail
    go_ret
    have hc0 := HC0.out
    refine ⟨⟨_, _, rfl, Or.inr ⟨b, off, rfl, ?_, by omega, by decide, fun j hj => absurd hj (by omega)⟩⟩, HB.out⟩
    exact Nat.lt_of_lt_of_le HL.out.2.2.1 HB.out.size
  · go_enter Try.func99, Try.ntmps99
    go_wp2_with fail
    go_ret
    have hl := HL.out
    refine ⟨⟨_, _, rfl, Or.inr ⟨b, off + p, rfl, Nat.lt_of_lt_of_le hl.2.2.1 HB.out.size, by omega, by omega, fun j hj => ?_⟩⟩, HB.out⟩
    have := HC.out _ HB.out (p + j) (by omega)
    dsimp only
    rw [HE.out, Nat.add_assoc]
    exact this
theorem row_any (r : Int) (sa : Option Addr) (c n cap i : Nat) (f : Nat → Nat) (w : World) (h : FnM w sa n cap f) (hi : i ≤ 100) (hc : c ≤ 100) (hn : (i + 1) * c ≤ n) :
    Calls Try.prog 99 #[MV r c sa n cap, .int .i64 i] w fun e w' => (∃ sa' cap', e = .returned (.slice sa' c cap') ∧ FnM w' sa' c cap' (fun j => f (i * c + j))) ∧ Below w.heap.size w w' := by
  rcases h with ⟨rfl, rfl, rfl⟩ | ⟨b, off, rfl, h4, h5, h6, h7⟩
  · have hc0 : c = 0 := by
      rw [Nat.add_mul, Nat.one_mul] at hn
      omega
    subst hc0
    refine (row_nil r i hi w).mono ?_
    rintro e w' ⟨rfl, h2⟩
    exact ⟨⟨none, 0, rfl, Or.inl ⟨rfl, rfl, rfl⟩⟩, h2⟩
  · exact row_some r b off c n cap i f w hi hc hn h5 h6 h4 h7
theorem at_fn (r : Int) (sa : Option Addr) (c n cap i j : Nat) (f : Nat → Nat) (w : World) (h : FnM w sa n cap f) (hi : i ≤ 100) (hc : c ≤ 100) (hj : j ≤ 100) (hk : i * c + j < n) : Calls Try.prog 73 #[MV r c sa n cap, .int .i64 i, .int .i64 j] w fun r w' => r = .returned (.float .f64 (f (i * c + j))) ∧ Below w.heap.size w w' := by
  have := at_any r sa c n cap i j _ w h.fl hi hc hj hk
  rw [show ((List.range n).map f).getD (i * c + j) 0 = f (i * c + j) by rw [List.getD_eq_getElem?_getD, List.getElem?_map, List.getElem?_range hk]; rfl] at this
  exact this
theorem fn_lt {w : World} {sa : Option Addr} {n cap : Nat} {f : Nat → Nat} (h : FnM w sa n cap f) (j : Nat) (hj : j < n) : f j < 18446744073709551616 := by
  rcases h with ⟨_, h2, _⟩ | ⟨_, _, _, _, _, _, h7⟩
  · omega
  · exact (h7 j hj).2
set_option maxRecDepth 4000 in
set_option maxHeartbeats 2000000 in
theorem clo_byRows (i j c : Nat) (p0 p1 : Nat) (ra rb : Nat) (sa sb : Option Addr) (na ka nb kb : Nat) (f g : Nat → Nat) (w : World) (h0 : w.heap[p0]? = some (MBox ra c sa na ka)) (h1 : w.heap[p1]? = some (MBox rb c sb nb kb)) (ha : FnM w sa na ka f) (hb : FnM w sb nb kb g) (hc : c ≤ 100) (hi : i ≤ 100) (hj : j ≤ 100) (hia : (i + 1) * c ≤ na) (hjb : (j + 1) * c ≤ nb) :
    Calls Try.prog 98 #[.int .i64 i, .int .i64 j, .pointer (some ⟨p0, 0, none⟩), .pointer (some ⟨p1, 0, none⟩)] w fun e w' => ∃ x : Nat, e = .returned (.float .f64 x) ∧ (x < 18446744073709551616 ∧ canonOf x = dotM (fun k => f (i * c + k)) (fun k => g (j * c + k)) c) ∧ Below w.heap.size w w' := by
  have HKS : Hid (∀ W, Hid (Below w.heap.size w W) → (W.cell? ⟨p0, 0, none⟩ = some (.int .i64 ra) ∧ W.cell? ⟨p0, 1, none⟩ = some (.int .i64 c) ∧ W.cell? ⟨p0, 2, none⟩ = some (.slice sa na ka) ∧ W.cell? ⟨p1, 0, none⟩ = some (.int .i64 rb) ∧ W.cell? ⟨p1, 1, none⟩ = some (.int .i64 c) ∧ W.cell? ⟨p1, 2, none⟩ = some (.slice sb nb kb)) ∧ Hid (Below w.heap.size w W)) := fun W hW => by
    obtain ⟨a0, a1, a2⟩ := mcells_of (w := W) ((hW.out.block _ (Array.getElem?_eq_some_iff.1 h0).1).trans h0)
    obtain ⟨b0, b1, b2⟩ := mcells_of (w := W) ((hW.out.block _ (Array.getElem?_eq_some_iff.1 h1).1).trans h1)
    exact ⟨⟨a0, a1, a2, b0, b1, b2⟩, hW⟩
  have HRA : Hid (∀ W, Hid (Below w.heap.size w W) → Calls Try.prog 99 #[.agg #[.int .i64 ra, .int .i64 c, .slice sa na ka], .int .i64 i] W fun e w' => (∃ sa' cap', e = .returned (.slice sa' c cap') ∧ FnM w' sa' c cap' (fun k => f (i * c + k))) ∧ Below W.heap.size W w') := fun W hW => row_any ra sa c na ka i f W (ha.below hW.out) hi hc hia
  have HRB : Hid (∀ W, Hid (Below w.heap.size w W) → Calls Try.prog 99 #[.agg #[.int .i64 rb, .int .i64 c, .slice sb nb kb], .int .i64 j] W fun e w' => (∃ sa' cap', e = .returned (.slice sa' c cap') ∧ FnM w' sa' c cap' (fun k => g (j * c + k))) ∧ Below W.heap.size W w') := fun W hW => row_any rb sb c nb kb j g W (hb.below hW.out) hj hc hjb
  have HCC : Hid (c ≤ 17592186043904) := by show c ≤ _; omega
  have HQ0 : Hid (Below w.heap.size w w.drew) := (Below.refl _ _).drew
  clear h0 h1 ha hb hc hi hj hia hjb
  go_enter Try.func98, Try.ntmps98
  go_wp2_with fail
  refine wp_region_held_drew (S := fun W => (W.cell? ⟨p0, 0, none⟩ = some (.int .i64 ra) ∧ W.cell? ⟨p0, 1, none⟩ = some (.int .i64 c) ∧ W.cell? ⟨p0, 2, none⟩ = some (.slice sa na ka) ∧ W.cell? ⟨p1, 0, none⟩ = some (.int .i64 rb) ∧ W.cell? ⟨p1, 1, none⟩ = some (.int .i64 c) ∧ W.cell? ⟨p1, 2, none⟩ = some (.slice sb nb kb)) ∧ Hid (Below w.heap.size w W)) (by kernel_rfl) (HKS.out _ HQ0) (fun hHeld => ?_)
  refine take_at 0 7 (.agg #[.int .i64 ra, .int .i64 c, .slice sa na ka]) rfl rfl (by kernel_rfl) (by kernel_rfl) (by kernel_rfl) (fun _ _ _ h => h) (Or.inl ⟨by rfl, fun w hSw => by (try dsimp only at hSw); go_simp⟩) (by assumption) ?_
  simp only [Act.put, List.setIfInBounds_toArray, List.set_cons_zero, List.set_cons_succ]
  refine take_at 1 8 (.int .i64 i) rfl rfl (by kernel_rfl) (by kernel_rfl) (by kernel_rfl) (fun _ _ _ h => h) (Or.inl ⟨by rfl, fun w hSw => by (try dsimp only at hSw); go_simp⟩) (by assumption) ?_
  simp only [Act.put, List.setIfInBounds_toArray, List.set_cons_zero, List.set_cons_succ]
  refine take_at 3 10 (.agg #[.int .i64 rb, .int .i64 c, .slice sb nb kb]) rfl rfl (by kernel_rfl) (by kernel_rfl) (by kernel_rfl) (fun _ _ _ h => h) (Or.inl ⟨by rfl, fun w hSw => by (try dsimp only at hSw); go_simp⟩) (by assumption) ?_
  simp only [Act.put, List.setIfInBounds_toArray, List.set_cons_zero, List.set_cons_succ]
  refine take_at 4 11 (.int .i64 j) rfl rfl (by kernel_rfl) (by kernel_rfl) (by kernel_rfl) (fun _ _ _ h => h) (Or.inl ⟨by rfl, fun w hSw => by (try dsimp only at hSw); go_simp⟩) (by assumption) ?_
  simp only [Act.put, List.setIfInBounds_toArray, List.set_cons_zero, List.set_cons_succ]
  refine wpAnyH_ready (rs := [2]) (by kernel_rfl) (by simp) ?_
  refine AllReadyH.cons (o := _) rfl (fun K hK => ?_) AllReadyH.nil
  go_simp
  refine (HRA.out _ HQ0).mono ?_
  rintro e u1 ⟨⟨s1, k1, rfl, hf1⟩, hb1⟩
  have HG1 : Hid (Below w.heap.size w u1) := HQ0.out.trans (hb1.mono HQ0.out.size)
  have HF1 := hid hf1
  clear hf1 hb1
  go_wp2_with fail
  refine hK.out _ _ (HKS.out _ HG1) (fun hHeld1 => ?_)
  clear hK K
  try simp only [Act.put, List.setIfInBounds_toArray, List.set_cons_zero, List.set_cons_succ]
  refine wpAnyH_ready (rs := [5]) (by kernel_rfl) (by simp) ?_
  refine AllReadyH.cons (o := _) rfl (fun K hK => ?_) AllReadyH.nil
  go_simp
  refine (HRB.out _ HG1).mono ?_
  rintro e u2 ⟨⟨s2, k2, rfl, hf2⟩, hb2⟩
  have HG2 : Hid (Below w.heap.size w u2) := HG1.out.trans (hb2.mono HG1.out.size)
  have HF1 := hid (HF1.out.below hb2)
  have HF2 := hid hf2
  clear hf2 hb2
  go_wp2_with fail
  refine hK.out _ _ (HKS.out _ HG2) (fun hHeld2 => ?_)
  clear hK K
  try simp only [Act.put, List.setIfInBounds_toArray, List.set_cons_zero, List.set_cons_succ]
  refine wpAnyH_ready (rs := [6]) (by kernel_rfl) (by simp) ?_
  refine AllReadyH.cons (o := _) rfl (fun K hK => ?_) AllReadyH.nil
  go_simp
  refine (dot_any s1 s2 c k1 k2 _ _ _ HCC.out HF1.out HF2.out).mono ?_
  rintro e u3 ⟨z, rfl, hz, hb3⟩
  have HG3 : Hid (Below w.heap.size w u3) := HG2.out.trans (hb3.mono HG2.out.size)
  have HZ := hid hz
  clear hz hb3
  go_wp2_with fail
  refine hK.out _ _ (HKS.out _ HG3) (fun hHeld3 => ?_)
  clear hK K
  try simp only [Act.put, List.setIfInBounds_toArray, List.set_cons_zero, List.set_cons_succ]
  refine take_at 7 6 (.float .f64 z) rfl rfl (by kernel_rfl) (by kernel_rfl) (by kernel_rfl) (fun _ _ _ h => h) (Or.inl ⟨by rfl, fun w hSw => by (try dsimp only at hSw); go_simp⟩) (by assumption) ?_
  simp only [Act.put, List.setIfInBounds_toArray, List.set_cons_zero, List.set_cons_succ]
  refine wpAnyH_done (by kernel_rfl) ?_ _
  go_wp2_with fail
  go_ret
  exact ⟨z, rfl, HZ.out, HG3.out⟩
set_option maxRecDepth 4000 in
set_option maxHeartbeats 2000000 in
theorem clo_turned (i j : Nat) (p0 : Nat) (ra ca : Nat) (sa : Option Addr) (na ka : Nat) (f : Nat → Nat) (w : World) (h0 : w.heap[p0]? = some (MBox ra ca sa na ka)) (ha : FnM w sa na ka f) (hc : ca ≤ 100) (hi : i ≤ 100) (hj : j ≤ 100) (hk : j * ca + i < na) :
    Calls Try.prog 97 #[.int .i64 i, .int .i64 j, .pointer (some ⟨p0, 0, none⟩)] w fun e w' => ∃ x : Nat, e = .returned (.float .f64 x) ∧ (x = f (j * ca + i) ∧ x < 18446744073709551616) ∧ Below w.heap.size w w' := by
  obtain ⟨a0, a1, a2⟩ := mcells_of h0
  have HAT := hid (at_fn ra sa ca na ka j i f w ha hj hc hi hk)
  have HLT := hid (fn_lt ha _ hk)
  unfold MV at HAT
  clear h0 ha hc hi hj hk
  go_enter Try.func97, Try.ntmps97
  go_wp2_with fail
  refine HAT.out.mono ?_
  rintro e w1 ⟨rfl, hb1⟩
  go_wp2_with fail
  go_ret
  exact ⟨_, rfl, ⟨rfl, HLT.out⟩, hb1⟩
end Go.Proofs.Ytglgjkhfoajflaa
