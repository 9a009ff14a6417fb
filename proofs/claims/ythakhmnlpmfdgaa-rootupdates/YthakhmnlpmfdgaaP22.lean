
/- matrix: turned, byRows, answered, refused, the checks of two. -/
import Derived.Test.YthakhmnlpmfdgaaP21
import Derived.Test.YthakhmnlpmfdgaaP20
import Derived.Test.YthakhmnlpmfdgaaP4
namespace Go.Proofs.Ythakhmnlpmfdgaa
open Go.RowKit Go.IntWalk

theorem FillR.fn {P : Nat → Nat → Nat → Prop} {r c B : Nat} {e : Ending} {w' : World} (h : FillR P r c (r * c) B e w') (hmax : r * c ≤ 9223372036854775807) : ∃ (g : Nat) (o : Nat → Nat), e = .returned (MV r c (some ⟨g, 0, none⟩) (r * c) (r * c)) ∧ B ≤ g ∧ FnM w' (some ⟨g, 0, none⟩) (r * c) (r * c) o ∧ ∀ i j, i < r → j < c → P i j (o (i * c + j)) := by
  obtain ⟨g, o, h1, h2, h3, h4⟩ := h
  refine ⟨g, o, h1, h2, Or.inr ⟨g, 0, rfl, h3.lt, Nat.le_refl _, hmax, fun k hk => ?_⟩, fun i j hi hj => (h4 i j hi hj).1⟩
  have hc : 0 < c := by
    apply Classical.byContradiction
    intro hc
    have : c = 0 := by omega
    subst this
    omega
  have e1 : k / c * c + k % c = k := by rw [Nat.mul_comm]; exact Nat.div_add_mod k c
  have := h4 (k / c) (k % c) ((Nat.div_lt_iff_lt_mul hc).2 hk) (Nat.mod_lt _ hc)
  rw [e1] at this
  exact ⟨by rw [Nat.zero_add]; exact h3.cell hk, this.2⟩
theorem mir_at {P : Nat → Nat → Nat → Prop} {n : Nat} {o : Nat → Nat} (h : ∀ i j, i < n → j ≤ i → MirP P n o i j) (i j : Nat) (hi : i < n) (hj : j < n) : o (i * n + j) < 18446744073709551616 ∧ o (i * n + j) = o (j * n + i) := by
  by_cases c : j ≤ i
  · obtain ⟨⟨_, h2⟩, h3⟩ := h i j hi c
    exact ⟨h2, h3.symm⟩
  · obtain ⟨⟨_, h2⟩, h3⟩ := h j i hj (by omega)
    exact ⟨by rw [h3]; exact h2, h3⟩
theorem MirR.fn {P : Nat → Nat → Nat → Prop} {n B : Nat} {e : Ending} {w' : World} (h : MirR P n (n * n) B e w') (hmax : n * n ≤ 9223372036854775807) : ∃ (g : Nat) (o : Nat → Nat), e = .returned (MV n n (some ⟨g, 0, none⟩) (n * n) (n * n)) ∧ B ≤ g ∧ FnM w' (some ⟨g, 0, none⟩) (n * n) (n * n) o ∧ (∀ i j, i < n → j < n → o (i * n + j) = o (j * n + i)) ∧ ∀ i j, i < n → j ≤ i → P i j (o (i * n + j)) := by
  obtain ⟨g, o, h1, h2, h3, h4⟩ := h
  refine ⟨g, o, h1, h2, Or.inr ⟨g, 0, rfl, h3.lt, Nat.le_refl _, hmax, fun k hk => ?_⟩, fun i j hi hj => (mir_at h4 i j hi hj).2, fun i j hi hj => (h4 i j hi hj).1.1⟩
  have hc : 0 < n := by
    apply Classical.byContradiction
    intro hc
    have : n = 0 := by omega
    subst this
    omega
  have e1 : k / n * n + k % n = k := by rw [Nat.mul_comm]; exact Nat.div_add_mod k n
  have := mir_at h4 (k / n) (k % n) ((Nat.div_lt_iff_lt_mul hc).2 hk) (Nat.mod_lt _ hc)
  rw [e1] at this
  exact ⟨by rw [Nat.zero_add]; exact h3.cell hk, this.1⟩
set_option maxHeartbeats 400000 in
theorem refused_any (E : Int) (w : World) : Calls Try.prog 73 #[.int .i64 E] w fun e w' => e = .returned (.tuple #[MV 0 0 none 0 0, .int .i64 E]) ∧ Below w.heap.size w w' := by
  have HB : Hid (Below w.heap.size w (w.alloc (MBox 0 0 none 0 0))) := (Below.refl _ _).alloc (Nat.le_refl _) _
  unfold MBox at HB
  unfold MV
  go_enter Try.func73, Try.ntmps73
  go_wp2_with fail
  exact bodyPost_ret (v := .tuple #[.agg #[.int .i64 0, .int .i64 0, .slice none 0 0], .int .i64 E]) (by simp [results, Try.results73, go_sem]) rfl ⟨rfl, HB.out⟩
/-- Blocks laid one behind the other. -/
theorem two_b (w : World) (A R : Obj) : ((w.alloc A).alloc R).heap[w.heap.size]? = some A ∧ ((w.alloc A).alloc R).heap[w.heap.size + 1]? = some R ∧ Below w.heap.size w ((w.alloc A).alloc R) ∧ ((w.alloc A).alloc R).heap.size = w.heap.size + 2 := by
  refine ⟨?_, ?_, ((Below.refl _ _).alloc (Nat.le_refl _) _).alloc (by simp) _, by simp⟩
  · rw [((Below.refl (w.alloc A).heap.size (w.alloc A)).alloc (Nat.le_refl _) R).block _ (by simp)]
    exact nblkM _ _
  · have := nblkM (w.alloc A) R
    rw [World.size_alloc] at this
    exact this
theorem three_b (w : World) (A B R : Obj) : (((w.alloc A).alloc B).alloc R).heap[w.heap.size]? = some A ∧ (((w.alloc A).alloc B).alloc R).heap[w.heap.size + 1]? = some B ∧ (((w.alloc A).alloc B).alloc R).heap[w.heap.size + 1 + 1]? = some R ∧ Below w.heap.size w (((w.alloc A).alloc B).alloc R) ∧ (((w.alloc A).alloc B).alloc R).heap.size = w.heap.size + 3 := by
  obtain ⟨h1, h2, h3, h4⟩ := two_b w A B
  have hb : Below ((w.alloc A).alloc B).heap.size ((w.alloc A).alloc B) (((w.alloc A).alloc B).alloc R) := (Below.refl _ _).alloc (Nat.le_refl _) R
  refine ⟨(hb.block _ (by rw [h4]; omega)).trans h1, (hb.block _ (by rw [h4]; omega)).trans h2, ?_, h3.trans (hb.mono h3.size), by simp⟩
  have := nblkM ((w.alloc A).alloc B) R
  rw [h4] at this
  exact this
theorem blkM {A B : World} {b : Nat} {o : Obj} (h : A.heap[b]? = some o) (hb : Below A.heap.size A B) : B.heap[b]? = some o := (hb.block _ (Array.getElem?_eq_some_iff.1 h).1).trans h
theorem frzM {A : World} {b : Nat} {r c : Int} {sa : Option Addr} {n cap : Nat} (h : A.heap[b]? = some (MBox r c sa n cap)) (o : Nat) : A.frozen? ⟨b, o, none⟩ = false := by unfold MBox at h; simp [World.frozen?, h]
/-- A matrix' three stores into a variable. -/
def StoM (W : World) (b : Nat) (r c : Int) (sa : Option Addr) (n cap : Nat) : World := ((W.setCell ⟨b, 0, none⟩ (.int .i64 r)).setCell ⟨b, 1, none⟩ (.int .i64 c)).setCell ⟨b, 2, none⟩ (.slice sa n cap)
theorem StoM.keep {W : World} {a b : Nat} {r c : Int} {sa : Option Addr} {n cap : Nat} (hab : a ≠ b) : (StoM W b r c sa n cap).heap[a]? = W.heap[a]? := by
  unfold StoM
  rw [set_keepM hab, set_keepM hab, set_keepM hab]
theorem StoM.below {w W : World} {b : Nat} {r c : Int} {sa : Option Addr} {n cap : Nat} (h : Below w.heap.size w W) (hb : w.heap.size ≤ b) : Below w.heap.size w (StoM W b r c sa n cap) :=
  ((h.setCell (p := ⟨b, 0, none⟩) hb _).setCell (p := ⟨b, 1, none⟩) hb _).setCell (p := ⟨b, 2, none⟩) hb _
theorem StoM.fn {W : World} {b : Nat} {r c r0 c0 : Int} {sa sb s0 : Option Addr} {n cap m k n0 k0 : Nat} {f : Nat → Nat} (h : FnM W sb m k f) (hb : W.heap[b]? = some (MBox r0 c0 s0 n0 k0)) : FnM (StoM W b r c sa n cap) sb m k f := by
  rcases h with h | ⟨b', off, h3, h4, h5, h6, h7⟩
  · exact Or.inl h
  · by_cases hm : m = 0
    · subst hm
      refine Or.inr ⟨b', off, h3, ?_, h5, h6, fun j hj => absurd hj (Nat.not_lt_zero j)⟩
      unfold StoM
      simpa [World.setCell] using h4
    · have hne : b' ≠ b := fun hc => by
        subst hc
        have h8 := (h7 0 (by omega)).1
        unfold MBox at hb
        rw [Nat.add_zero] at h8
        simp only [World.cell?, hb] at h8
        match off, h8 with
        | 0, h8 => simp at h8
        | 1, h8 => simp at h8
        | 2, h8 => simp at h8
        | (t + 3), h8 => simp at h8
      refine Or.inr ⟨b', off, h3, ?_, h5, h6, fun j hj => ⟨?_, (h7 j hj).2⟩⟩
      · unfold StoM
        simpa [World.setCell] using h4
      · have := (h7 j hj).1
        unfold World.cell? at this ⊢
        rw [StoM.keep hne]
        exact this
set_option maxRecDepth 4000 in
set_option maxHeartbeats 1000000 in
theorem turned_any (r c n : Nat) (sa : Option Addr) (cap : Nat) (f : Nat → Nat) (w : World) (h : FnM w sa n cap f) (hn : r * c ≤ n) (hr : r ≤ 100) (hc : c ≤ 100) : Calls Try.prog 74 #[MV r c sa n cap] w fun e w' => FillR (fun i j x => x = f (j * c + i)) c r (c * r) w.heap.size e w' ∧ Below w.heap.size w w' := by
  obtain ⟨t1, t2, t3, t4⟩ := two_b w (MBox r c sa n cap) (MBox 0 0 none 0 0)
  have HF := hid (fill_turned c r hc hr ⟨w.heap.size, 0, none⟩ (fun i j x => x = f (j * c + i)) _ (fun W i j hW hi hj => clo_turned i j w.heap.size r c sa n cap f W (blkM t1 hW) ((h.below t3).below hW) hc (by omega) (by omega) (Nat.lt_of_lt_of_le (place_lt hj hi) hn)))
  obtain ⟨V, hV⟩ : ∃ V, Hid ((w.alloc (MBox r c sa n cap)).alloc (MBox 0 0 none 0 0) = V) := ⟨_, rfl⟩
  rw [hV.out] at HF t1 t2 t3 t4
  have HR := hid t2
  have HB := hid t3
  have HS := hid t4
  have hV' := hV.out
  obtain ⟨z0, z1, z2⟩ := mcells_of t1
  unfold MBox at hV'
  unfold MV
  clear t1 t2 t3 t4 h hn hr hc
  go_enter Try.func74, Try.ntmps74
  go_wp2_with fail
  refine HF.out.mono ?_
  rintro e w1 ⟨⟨g, o, rfl, hg, hrow, hP⟩, hb1⟩
  have HR1 := hid (blkM HR.out hb1)
  have HB1 := hid (HB.out.trans (hb1.mono HB.out.size))
  have HG := hid (And.intro hg (And.intro hrow hP))
  obtain ⟨r0, r1, r2⟩ := mcells_of HR1.out
  have fz := frzM HR1.out
  unfold MV
  clear hb1 hg hrow hP
  go_wp2_with fail
  refine bodyPost_ret (v := MV c r (some ⟨g, 0, none⟩) (c * r) (c * r)) (by simp [results, Try.results74, go_sem, r0, r1, r2, MV]) rfl ⟨⟨g, o, rfl, by have := HG.out.1; have := HS.out; omega, HG.out.2.1.of_block (StoM.keep (by have := HG.out.1; have := HS.out; omega)), HG.out.2.2⟩, StoM.below HB1.out (by omega)⟩
set_option maxRecDepth 4000 in
set_option maxHeartbeats 1000000 in
theorem byRows_any (ra rb c na nb : Nat) (sa sb : Option Addr) (ka kb : Nat) (f g : Nat → Nat) (w : World) (ha : FnM w sa na ka f) (hb : FnM w sb nb kb g) (hna : ra * c ≤ na) (hnb : rb * c ≤ nb) (hra : ra ≤ 100) (hrb : rb ≤ 100) (hc : c ≤ 100) :
    Calls Try.prog 77 #[MV ra c sa na ka, MV rb c sb nb kb] w fun e w' => FillR (fun i j x => canonOf x = dotM (fun k => f (i * c + k)) (fun k => g (j * c + k)) c) ra rb (ra * rb) w.heap.size e w' ∧ Below w.heap.size w w' := by
  obtain ⟨t1, t2, t3, t4, t5⟩ := three_b w (MBox ra c sa na ka) (MBox rb c sb nb kb) (MBox 0 0 none 0 0)
  have HF := hid (fill_byRows ra rb hra hrb ⟨w.heap.size, 0, none⟩ ⟨w.heap.size + 1, 0, none⟩ (fun i j x => canonOf x = dotM (fun k => f (i * c + k)) (fun k => g (j * c + k)) c) _ (fun W i j hW hi hj => by
    refine (clo_byRows i j c w.heap.size (w.heap.size + 1) ra rb sa sb na ka nb kb f g W (blkM t1 hW) (blkM t2 hW) ((ha.below t4).below hW) ((hb.below t4).below hW) hc (by omega) (by omega) (Nat.le_trans (Nat.mul_le_mul_right c (by omega)) hna) (Nat.le_trans (Nat.mul_le_mul_right c (by omega)) hnb)).mono ?_
    rintro e w' ⟨x, rfl, ⟨h1, h2⟩, h3⟩
    exact ⟨x, rfl, ⟨h2, h1⟩, h3⟩))
  obtain ⟨V, hV⟩ : ∃ V, Hid (((w.alloc (MBox ra c sa na ka)).alloc (MBox rb c sb nb kb)).alloc (MBox 0 0 none 0 0) = V) := ⟨_, rfl⟩
  rw [hV.out] at HF t1 t2 t3 t4 t5
  have HR := hid t3
  have HB := hid t4
  have HS := hid t5
  have hV' := hV.out
  obtain ⟨z0, z1, z2⟩ := mcells_of t1
  obtain ⟨y0, y1, y2⟩ := mcells_of t2
  unfold MBox at hV'
  unfold MV
  clear t1 t2 t3 t4 t5 ha hb hna hnb hra hrb hc
  go_enter Try.func77, Try.ntmps77
  go_wp2_with fail
  refine HF.out.mono ?_
  rintro e w1 ⟨⟨g', o, rfl, hg, hrow, hP⟩, hb1⟩
  have HR1 := hid (blkM HR.out hb1)
  have HB1 := hid (HB.out.trans (hb1.mono HB.out.size))
  have HG := hid (And.intro hg (And.intro hrow hP))
  obtain ⟨r0, r1, r2⟩ := mcells_of HR1.out
  have fz := frzM HR1.out
  unfold MV
  clear hb1 hg hrow hP
  go_wp2_with fail
  refine bodyPost_ret (v := MV ra rb (some ⟨g', 0, none⟩) (ra * rb) (ra * rb)) (by simp [results, Try.results77, go_sem, r0, r1, r2, MV]) rfl ⟨⟨g', o, rfl, by have := HG.out.1; have := HS.out; omega, HG.out.2.1.of_block (StoM.keep (by have := HG.out.1; have := HS.out; omega)), HG.out.2.2⟩, StoM.below HB1.out (by omega)⟩
/-- The numbers told by a function: all finite. -/
def finF (n : Nat) (f : Nat → Nat) : Bool := finM ((List.range n).map f)
set_option maxRecDepth 4000 in
set_option maxHeartbeats 1000000 in
theorem answered_any (r c : Int) (n : Nat) (sa : Option Addr) (cap : Nat) (f : Nat → Nat) (w : World) (h : FnM w sa n cap f) (hn : n ≤ 17592186043904) : Calls Try.prog 76 #[MV r c sa n cap] w fun e w' => e = .returned (.tuple #[if finF n f = true then MV r c sa n cap else MV 0 0 none 0 0, .int .i64 (if finF n f = true then 0 else 5)]) ∧ (∀ sb m k (g : Nat → Nat), FnM w sb m k g → FnM w' sb m k g) ∧ Below w.heap.size w w' := by
  obtain ⟨t1, t2, t3, t4⟩ := two_b w (MBox r c sa n cap) (MBox 0 0 none 0 0)
  have HFI := hid (FinM_any sa n cap _ _ ((h.below t3).fl) hn)
  obtain ⟨V, hV⟩ : ∃ V, Hid ((w.alloc (MBox r c sa n cap)).alloc (MBox 0 0 none 0 0) = V) := ⟨_, rfl⟩
  rw [hV.out] at HFI t1 t2 t3 t4
  have HR := hid t2
  have HA := hid t1
  have HB := hid t3
  have HS := hid t4
  have hV' := hV.out
  obtain ⟨z0, z1, z2⟩ := mcells_of t1
  unfold MBox at hV'
  obtain ⟨F, hF⟩ : ∃ F, Hid (finF n f = F) := ⟨_, rfl⟩
  unfold finF at hF
  rw [hF.out] at HFI
  have e1 : finF n f = F := hF.out
  rw [e1]
  clear t1 t2 t3 t4 h hn e1
  cases F with
  | true =>
    rw [if_pos rfl, if_pos rfl]
    unfold MV
    go_enter Try.func76, Try.ntmps76
    go_wp2_with fail
    refine HFI.out.mono ?_
    rintro e w1 ⟨rfl, hb1⟩
    have HR1 := hid (blkM HR.out hb1)
    have HA1 := hid (blkM HA.out hb1)
    have HB1 := hid (HB.out.trans (hb1.mono HB.out.size))
    obtain ⟨r0, r1, r2⟩ := mcells_of HR1.out
    obtain ⟨a0, a1, a2⟩ := mcells_of HA1.out
    have fz := frzM HR1.out
    clear hb1
    go_wp2_with fail
    refine bodyPost_ret (v := .tuple #[MV r c sa n cap, .int .i64 0]) (by simp [results, Try.results76, go_sem, r0, r1, r2, MV]) rfl ⟨rfl, fun sb m k g hg => ?_, StoM.below HB1.out (by omega)⟩
    exact StoM.fn (hg.below HB1.out) HR1.out
  | false =>
    rw [if_neg (by decide), if_neg (by decide)]
    unfold MV
    go_enter Try.func76, Try.ntmps76
    go_wp2_with fail
    refine HFI.out.mono ?_
    rintro e w1 ⟨rfl, hb1⟩
    have HR1 := hid (blkM HR.out hb1)
    have HB1 := hid (HB.out.trans (hb1.mono HB.out.size))
    clear hb1
    go_wp2_with fail
    refine (refused_any 5 _).mono ?_
    rintro e w2 ⟨rfl, hb2⟩
    have HR2 := hid (blkM HR1.out hb2)
    have HB2 := hid (HB1.out.trans (hb2.mono HB1.out.size))
    obtain ⟨r0, r1, r2⟩ := mcells_of HR2.out
    have fz := frzM HR2.out
    unfold MV
    clear hb2
    go_wp2_with fail
    refine bodyPost_ret (v := .tuple #[MV 0 0 none 0 0, .int .i64 5]) (by simp [results, Try.results76, go_sem, r0, r1, r2, MV]) rfl ⟨rfl, fun sb m k g hg => ?_, StoM.below HB2.out (by omega)⟩
    exact StoM.fn (hg.below HB2.out) HR2.out
/-- The first of two errors. -/
def first2 (a b : Int) : Int := if a = 0 then b else a
end Go.Proofs.Ythakhmnlpmfdgaa

namespace Go.Proofs.Ythakhmnlpmfdgaa
open Go.RowKit Go.IntWalk

/-- Two variables that hold matrices as they were laid. -/
def Fr3 (w W : World) (p0 p1 : Nat) (A B : Obj) : Prop := Below w.heap.size w W ∧ W.heap[p0]? = some A ∧ W.heap[p1]? = some B
theorem Fr3.drew {w W : World} {p0 p1 : Nat} {A B : Obj} (h : Fr3 w W p0 p1 A B) : Fr3 w W.drew p0 p1 A B := ⟨h.1.drew, h.2.1, h.2.2⟩
theorem Fr3.call {w W W' : World} {p0 p1 : Nat} {A B : Obj} (h : Fr3 w W p0 p1 A B) (hb : Below W.heap.size W W') : Fr3 w W' p0 p1 A B := ⟨h.1.trans (hb.mono h.1.size), blkM h.2.1 hb, blkM h.2.2 hb⟩
theorem Fr3.sto {w W : World} {p0 p1 b : Nat} {A B : Obj} {r c : Int} {sa : Option Addr} {n cap : Nat} (h : Fr3 w W p0 p1 A B) (h0 : p0 ≠ b) (h1 : p1 ≠ b) (hb : w.heap.size ≤ b) : Fr3 w (StoM W b r c sa n cap) p0 p1 A B := ⟨StoM.below h.1 hb, (StoM.keep h0).trans h.2.1, (StoM.keep h1).trans h.2.2⟩
theorem chk_good {r c n : Nat} {xs : List Nat} (hr : r ≤ 12) (hc : c ≤ 12) (hn : n = r * c) (hf : finM xs = true) : chkM r c n xs = 0 := by
  unfold chkM sideB
  rw [if_neg (by simp; omega), if_neg (by rw [hn]; simp), if_neg (by rw [hf]; simp)]
theorem chk_some {r c : Int} {n : Nat} {xs : List Nat} (h : chkM r c n xs = 0) : ∃ a b : Nat, r = a ∧ c = b ∧ a ≤ 12 ∧ b ≤ 12 ∧ n = a * b ∧ finM xs = true := by
  unfold chkM at h
  by_cases h1 : sideB r = false ∨ sideB c = false
  · rw [if_pos h1] at h; cases h
  rw [if_neg h1] at h
  by_cases h2 : (n : Int) ≠ r * c
  · rw [if_pos h2] at h; cases h
  rw [if_neg h2] at h
  by_cases h3 : finM xs = false
  · rw [if_pos h3] at h; cases h
  have hr : 0 ≤ r ∧ r ≤ 12 := by
    have : sideB r = true := by revert h1; cases sideB r <;> simp
    unfold sideB at this; simpa using this
  have hc : 0 ≤ c ∧ c ≤ 12 := by
    have : sideB c = true := by revert h1; cases sideB c <;> simp
    unfold sideB at this; simpa using this
  obtain ⟨a, rfl⟩ := Int.eq_ofNat_of_zero_le hr.1
  obtain ⟨b, rfl⟩ := Int.eq_ofNat_of_zero_le hc.1
  refine ⟨a, b, rfl, rfl, by omega, by omega, ?_, by revert h3; cases finM xs <;> simp⟩
  have h4 : (n : Int) = (a : Int) * (b : Int) := by
    apply Classical.byContradiction
    intro h5
    exact h2 h5
  exact_mod_cast h4
/-- A good matrix. -/
def Gd (w : World) (r c : Nat) (sa : Option Addr) (n cap : Nat) (f : Nat → Nat) : Prop := r ≤ 12 ∧ c ≤ 12 ∧ n = r * c ∧ FnM w sa n cap f ∧ finF n f = true
theorem Gd.below {w w' : World} {r c : Nat} {sa : Option Addr} {n cap : Nat} {f : Nat → Nat} (h : Gd w r c sa n cap f) (hb : Below w.heap.size w w') : Gd w' r c sa n cap f := ⟨h.1, h.2.1, h.2.2.1, h.2.2.2.1.below hb, h.2.2.2.2⟩
theorem Gd.le {w : World} {r c : Nat} {sa : Option Addr} {n cap : Nat} {f : Nat → Nat} (h : Gd w r c sa n cap f) : n ≤ 144 := by
  rw [h.2.2.1]; exact Nat.mul_le_mul h.1 h.2.1
theorem Gd.chk {w : World} {r c : Nat} {sa : Option Addr} {n cap : Nat} {f : Nat → Nat} (h : Gd w r c sa n cap f) : chkM r c n ((List.range n).map f) = 0 := chk_good h.1 h.2.1 h.2.2.1 h.2.2.2.2
/-- What a call hands back: the matrix, or none beside ErrOver. -/
def AnsM (r c N g : Nat) (o : Nat → Nat) : Value := .tuple #[if finF N o = true then MV r c (some ⟨g, 0, none⟩) N N else MV 0 0 none 0 0, .int .i64 (if finF N o = true then 0 else 5)]
end Go.Proofs.Ythakhmnlpmfdgaa

namespace Go.Proofs.Ythakhmnlpmfdgaa
open Go.RowKit Go.IntWalk

/-- Nothing beside an error. -/
def NonM (E : Int) : Value := .tuple #[MV 0 0 none 0 0, .int .i64 E]
set_option maxRecDepth 4000 in
set_option maxHeartbeats 1000000 in
theorem Trn_bad (r c : Int) (n : Nat) (sa : Option Addr) (ka : Nat) (xs : List Nat) (w : World) (ha : FlM w sa n ka xs) (hn : n ≤ 17592186043904) (hE : chkM r c n xs ≠ 0) :
    Calls Try.prog 52 #[MV r c sa n ka] w fun e w' => e = .returned (NonM (chkM r c n xs)) ∧ Below w.heap.size w w' := by
  obtain ⟨t1, t2, t3, t4⟩ := two_b w (MBox r c sa n ka) (MBox 0 0 none 0 0)
  have HCB := hid (fun W (hW : Below w.heap.size w W) => Check_any r c sa n ka xs W (ha.below hW) hn)
  obtain ⟨E, hEE⟩ : ∃ E, Hid (chkM r c n xs = E) := ⟨_, rfl⟩
  rw [hEE.out] at HCB hE
  rw [hEE.out]
  have hne : (E != 0) = true := by simpa using hE
  obtain ⟨V, hV⟩ : ∃ V, Hid ((w.alloc (MBox r c sa n ka)).alloc (MBox 0 0 none 0 0) = V) := ⟨_, rfl⟩
  rw [hV.out] at t1 t2 t3 t4
  have hV' := hV.out
  have HB := hid t3
  have HR := hid t2
  obtain ⟨x0, x1, x2⟩ := mcells_of t1
  unfold MBox at hV'
  unfold NonM
  unfold MV at HCB ⊢
  clear t1 t2 t3 t4 ha hn hE
  go_enter Try.func52, Try.ntmps52
  go_wp2_with fail
  refine (HCB.out _ HB.out).mono ?_
  rintro e w1 ⟨rfl, hb1⟩
  have HB1 := hid (HB.out.trans (hb1.mono HB.out.size))
  have HR1 := hid (blkM HR.out hb1)
  clear hb1
  go_wp2_with fail
  refine (refused_any E _).mono ?_
  rintro e w2 ⟨rfl, hb2⟩
  have HB2 := hid (HB1.out.trans (hb2.mono HB1.out.size))
  have HR2 := hid (blkM HR1.out hb2)
  obtain ⟨r0, r1, r2⟩ := mcells_of HR2.out
  have fz := frzM HR2.out
  unfold MV
  clear hb2
  go_wp2_with fail
  exact bodyPost_ret (v := .tuple #[MV 0 0 none 0 0, .int .i64 E]) (by simp [results, Try.results52, go_sem, r0, r1, r2, MV]) rfl ⟨rfl, StoM.below HB2.out (by omega)⟩
set_option maxRecDepth 4000 in
set_option maxHeartbeats 1000000 in
theorem Trn_ok (r c n : Nat) (sa : Option Addr) (ka : Nat) (f : Nat → Nat) (w : World) (ha : Gd w r c sa n ka f) :
    Calls Try.prog 52 #[MV r c sa n ka] w fun e w' => (∃ (g : Nat) (o : Nat → Nat), e = .returned (.tuple #[MV c r (some ⟨g, 0, none⟩) (c * r) (c * r), .int .i64 0]) ∧ FnM w' (some ⟨g, 0, none⟩) (c * r) (c * r) o ∧ ∀ i j, i < c → j < r → o (i * r + j) = f (j * c + i)) ∧ Below w.heap.size w w' := by
  obtain ⟨t1, t2, t3, t4⟩ := two_b w (MBox r c sa n ka) (MBox 0 0 none 0 0)
  have HCB := hid (fun W (hW : Below w.heap.size w W) => Check_any r c sa n ka _ W ((ha.below hW).2.2.2.1.fl) (by have := ha.le; omega))
  rw [ha.chk] at HCB
  have l1 := ha.1
  have l2 := ha.2.1
  have hm1 : c * r ≤ 144 := Nat.mul_le_mul l2 l1
  have HM1 : Hid (c * r ≤ 9223372036854775807) := by show _ ≤ _; omega
  have HTU : Hid (∀ W, Below w.heap.size w W → Calls Try.prog 74 #[.agg #[.int .i64 r, .int .i64 c, .slice sa n ka]] W fun e w' => FillR (fun i j x => x = f (j * c + i)) c r (c * r) W.heap.size e w' ∧ Below W.heap.size W w') := fun W hW => turned_any r c n sa ka f W (ha.below hW).2.2.2.1 (by rw [ha.2.2.1]; exact Nat.le_refl _) (by omega) (by omega)
  obtain ⟨V, hV⟩ : ∃ V, Hid ((w.alloc (MBox r c sa n ka)).alloc (MBox 0 0 none 0 0) = V) := ⟨_, rfl⟩
  rw [hV.out] at t1 t2 t3 t4
  have hV' := hV.out
  have HB := hid t3
  have HR := hid t2
  have HA0 := hid t1
  obtain ⟨x0, x1, x2⟩ := mcells_of t1
  unfold MBox at hV'
  unfold MV at HCB ⊢
  clear t1 t2 t3 t4 ha l1 l2 hm1
  go_enter Try.func52, Try.ntmps52
  go_wp2_with fail
  refine (HCB.out _ HB.out).mono ?_
  rintro e w1 ⟨rfl, hb1⟩
  have HB1 := hid (HB.out.trans (hb1.mono HB.out.size))
  have HR1 := hid (blkM HR.out hb1)
  obtain ⟨x0, x1, x2⟩ := mcells_of (blkM HA0.out hb1)
  clear hb1
  go_wp2_with fail
  refine (HTU.out _ HB1.out).mono ?_
  rintro e w2 ⟨hfi, hb2⟩
  obtain ⟨g1, o1, rfl, hg1, hf1, hp1⟩ := hfi.fn HM1.out
  have HB2 := hid (HB1.out.trans (hb2.mono HB1.out.size))
  have HR2 := hid (blkM HR1.out hb2)
  have HF1 := hid hf1
  have HP1 := hid hp1
  obtain ⟨r0, r1, r2⟩ := mcells_of HR2.out
  have fz := frzM HR2.out
  unfold MV
  clear hb2 hfi hg1 hf1 hp1
  go_wp2_with fail
  exact bodyPost_ret (v := .tuple #[MV c r (some ⟨g1, 0, none⟩) (c * r) (c * r), .int .i64 0]) (by simp [results, Try.results52, go_sem, r0, r1, r2, MV]) rfl ⟨⟨g1, o1, rfl, StoM.fn HF1.out HR2.out, HP1.out⟩, StoM.below HB2.out (by omega)⟩
end Go.Proofs.Ythakhmnlpmfdgaa

namespace Go.Proofs.Ythakhmnlpmfdgaa
open Go.RowKit Go.IntWalk

end Go.Proofs.Ythakhmnlpmfdgaa

namespace Go.Proofs.Ythakhmnlpmfdgaa
open Go.RowKit Go.IntWalk

end Go.Proofs.Ythakhmnlpmfdgaa

namespace Go.Proofs.Ythakhmnlpmfdgaa
open Go.RowKit Go.IntWalk

end Go.Proofs.Ythakhmnlpmfdgaa
