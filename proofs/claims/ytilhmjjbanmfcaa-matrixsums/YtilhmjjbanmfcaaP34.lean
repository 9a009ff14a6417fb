
/- matrix: what checkSquare, Mirror, Mean, Sandwich refuse; Mirror of a good square. -/
import Derived.Test.YtilhmjjbanmfcaaP33
namespace Go.Proofs.Ytilhmjjbanmfcaa
open Go.RowKit Go.IntWalk

set_option maxRecDepth 4000 in
set_option maxHeartbeats 1000000 in
theorem square_bad (r c : Int) (n : Nat) (sa : Option Addr) (ka : Nat) (xs : List Nat) (w : World) (ha : FlM w sa n ka xs) (hn : n ≤ 17592186043904) (hE : chkM r c n xs ≠ 0) :
    Calls Try.prog 67 #[MV r c sa n ka] w fun e w' => e = .returned (.int .i64 (chkM r c n xs)) ∧ Below w.heap.size w w' := by
  have HA0 : Hid ((w.alloc (MBox r c sa n ka)).heap[w.heap.size]? = some (MBox r c sa n ka)) := nblkM _ _
  have HB : Hid (Below w.heap.size w (w.alloc (MBox r c sa n ka))) := (Below.refl _ _).alloc (Nat.le_refl _) _
  have HCB := hid (fun W (hW : Below w.heap.size w W) => Check_any r c sa n ka xs W (ha.below hW) hn)
  obtain ⟨E, hEE⟩ : ∃ E, Hid (chkM r c n xs = E) := ⟨_, rfl⟩
  rw [hEE.out] at HCB hE
  rw [hEE.out]
  have hne : (E != 0) = true := by simpa using hE
  obtain ⟨V, hV⟩ : ∃ V, Hid (w.alloc (MBox r c sa n ka) = V) := ⟨_, rfl⟩
  rw [hV.out] at HA0 HB
  have hV' := hV.out
  obtain ⟨x0, x1, x2⟩ := mcells_of HA0.out
  unfold MBox at hV'
  unfold MV at HCB ⊢
  clear ha hn hE
  go_enter Try.func67, Try.ntmps67
  go_wp2_with fail
  refine (HCB.out _ HB.out).mono ?_
  rintro e w1 ⟨rfl, hb1⟩
  have HB1 := hid (HB.out.trans (hb1.mono HB.out.size))
  clear hb1
  go_wp2_with fail
  go_ret
  exact ⟨rfl, HB1.out⟩
set_option maxRecDepth 4000 in
set_option maxHeartbeats 1000000 in
theorem Mirror_non (r c E : Int) (n : Nat) (sa : Option Addr) (ka : Nat) (w : World) (hE : E ≠ 0) (hS : ∀ W, Below w.heap.size w W → Calls Try.prog 67 #[MV r c sa n ka] W fun e w' => e = .returned (.int .i64 E) ∧ Below W.heap.size W w') :
    Calls Try.prog 32 #[MV r c sa n ka] w fun e w' => e = .returned (NonM E) ∧ Below w.heap.size w w' := by
  obtain ⟨t1, t2, t3, t4⟩ := two_b w (MBox r c sa n ka) (MBox 0 0 none 0 0)
  have HCB := hid hS
  have hne : (E != 0) = true := by simpa using hE
  obtain ⟨V, hV⟩ : ∃ V, Hid ((w.alloc (MBox r c sa n ka)).alloc (MBox 0 0 none 0 0) = V) := ⟨_, rfl⟩
  rw [hV.out] at t1 t2 t3 t4
  have hV' := hV.out
  have HB := hid t3
  have HR := hid t2
  obtain ⟨x0, x1, x2⟩ := mcells_of t1
  unfold MBox at hV'
  unfold NonM
  unfold MV at HCB ⊢
  clear t1 t2 t3 t4 hS hE
  go_enter Try.func32, Try.ntmps32
  go_wp2_with fail
  refine (HCB.out _ HB.out).mono ?_
  rintro e w1 ⟨rfl, hb1⟩
  have HB1 := hid (HB.out.trans (hb1.mono HB.out.size))
  have HR1 := hid (blkM HR.out hb1)
  clear hb1
  go_wp2_with fail
  refine (refused_any E _).mono ?_
  rintro e w2 ⟨rfl, hb2⟩
  have HB2 := hid (HB1.out.trans (hb2.mono HB1.out.size))
  have HR2 := hid (blkM HR1.out hb2)
  obtain ⟨r0, r1, r2⟩ := mcells_of HR2.out
  have fz := frzM HR2.out
  unfold MV
  clear hb2
  go_wp2_with fail
  exact bodyPost_ret (v := .tuple #[MV 0 0 none 0 0, .int .i64 E]) (by simp [results, Try.results32, go_sem, r0, r1, r2, MV]) rfl ⟨rfl, StoM.below HB2.out (by omega)⟩
set_option maxRecDepth 4000 in
set_option maxHeartbeats 1000000 in
theorem Mean_non (r c E : Int) (n : Nat) (sa : Option Addr) (ka : Nat) (w : World) (hE : E ≠ 0) (hS : ∀ W, Below w.heap.size w W → Calls Try.prog 67 #[MV r c sa n ka] W fun e w' => e = .returned (.int .i64 E) ∧ Below W.heap.size W w') :
    Calls Try.prog 34 #[MV r c sa n ka] w fun e w' => e = .returned (NonM E) ∧ Below w.heap.size w w' := by
  obtain ⟨t1, t2, t3, t4⟩ := two_b w (MBox r c sa n ka) (MBox 0 0 none 0 0)
  have HCB := hid hS
  have hne : (E != 0) = true := by simpa using hE
  obtain ⟨V, hV⟩ : ∃ V, Hid ((w.alloc (MBox r c sa n ka)).alloc (MBox 0 0 none 0 0) = V) := ⟨_, rfl⟩
  rw [hV.out] at t1 t2 t3 t4
  have hV' := hV.out
  have HB := hid t3
  have HR := hid t2
  obtain ⟨x0, x1, x2⟩ := mcells_of t1
  unfold MBox at hV'
  unfold NonM
  unfold MV at HCB ⊢
  clear t1 t2 t3 t4 hS hE
  go_enter Try.func34, Try.ntmps34
  go_wp2_with fail
  refine (HCB.out _ HB.out).mono ?_
  rintro e w1 ⟨rfl, hb1⟩
  have HB1 := hid (HB.out.trans (hb1.mono HB.out.size))
  have HR1 := hid (blkM HR.out hb1)
  clear hb1
  go_wp2_with fail
  refine (refused_any E _).mono ?_
  rintro e w2 ⟨rfl, hb2⟩
  have HB2 := hid (HB1.out.trans (hb2.mono HB1.out.size))
  have HR2 := hid (blkM HR1.out hb2)
  obtain ⟨r0, r1, r2⟩ := mcells_of HR2.out
  have fz := frzM HR2.out
  unfold MV
  clear hb2
  go_wp2_with fail
  exact bodyPost_ret (v := .tuple #[MV 0 0 none 0 0, .int .i64 E]) (by simp [results, Try.results34, go_sem, r0, r1, r2, MV]) rfl ⟨rfl, StoM.below HB2.out (by omega)⟩
set_option maxRecDepth 4000 in
set_option maxHeartbeats 1000000 in
theorem Mirror_ok (c n : Nat) (sa : Option Addr) (ka : Nat) (f : Nat → Nat) (w : World) (ha : Gd w c c sa n ka f) :
    Calls Try.prog 32 #[MV c c sa n ka] w fun e w' => (∃ (g : Nat) (o : Nat → Nat), e = .returned (.tuple #[MV c c (some ⟨g, 0, none⟩) (c * c) (c * c), .int .i64 0]) ∧ FnM w' (some ⟨g, 0, none⟩) (c * c) (c * c) o ∧ (∀ i j, i < c → j < c → o (i * c + j) = o (j * c + i)) ∧ ∀ i j, i < c → j ≤ i → o (i * c + j) = f (i * c + j)) ∧ Below w.heap.size w w' := by
  obtain ⟨t1, t2, t3, t4⟩ := two_b w (MBox c c sa n ka) (MBox 0 0 none 0 0)
  have HCB := hid (fun W (hW : Below w.heap.size w W) => square_good c c n sa ka f W (ha.below hW))
  rw [if_pos rfl] at HCB
  have l1 := ha.1
  have hm1 : c * c ≤ 144 := Nat.mul_le_mul l1 l1
  have HM1 : Hid (c * c ≤ 144) := hm1
  have HFI := hid (fun W (hW : Below ((w.alloc (MBox c c sa n ka)).alloc (MBox 0 0 none 0 0)).heap.size ((w.alloc (MBox c c sa n ka)).alloc (MBox 0 0 none 0 0)) W) => mir_Mirror c (by omega) ⟨w.heap.size, 0, none⟩ (fun i j x => x = f (i * c + j)) W (fun W2 i j hW2 hi hj => clo_Mirror i j w.heap.size c c sa n ka f W2 (blkM (blkM t1 hW) hW2) (((ha.2.2.2.1.below t3).below hW).below hW2) (by omega) (by omega) (by omega) (by rw [ha.2.2.1]; exact place_lt hi (by omega))))
  obtain ⟨V, hV⟩ : ∃ V, Hid ((w.alloc (MBox c c sa n ka)).alloc (MBox 0 0 none 0 0) = V) := ⟨_, rfl⟩
  rw [hV.out] at HFI t1 t2 t3 t4
  have hV' := hV.out
  have HB := hid t3
  have HR := hid t2
  have HA0 := hid t1
  obtain ⟨x0, x1, x2⟩ := mcells_of t1
  unfold MBox at hV'
  unfold MV at HCB ⊢
  clear t1 t2 t3 t4 ha l1 hm1
  go_enter Try.func32, Try.ntmps32
  go_wp2_with fail
  refine (HCB.out _ HB.out).mono ?_
  rintro e w1 ⟨rfl, hb1⟩
  have HB1 := hid (HB.out.trans (hb1.mono HB.out.size))
  have HR1 := hid (blkM HR.out hb1)
  have HFF := hid (HFI.out _ hb1)
  obtain ⟨x0, x1, x2⟩ := mcells_of (blkM HA0.out hb1)
  clear hb1
  go_wp2_with fail
  refine HFF.out.mono ?_
  rintro e w2 ⟨hfi, hb2⟩
  obtain ⟨g1, o1, rfl, hg1, hf1, hs1, hp1⟩ := hfi.fn (by have := HM1.out; omega)
  have HB2 := hid (HB1.out.trans (hb2.mono HB1.out.size))
  have HR2 := hid (blkM HR1.out hb2)
  have HF1 := hid hf1
  have HP1 := hid hp1
  have HS1 := hid hs1
  obtain ⟨y0, y1, y2⟩ := mcells_of HR2.out
  have fz := frzM HR2.out
  unfold MV
  clear hb2 hfi hg1 hf1 hp1 hs1
  go_wp2_with fail
  exact bodyPost_ret (v := .tuple #[MV c c (some ⟨g1, 0, none⟩) (c * c) (c * c), .int .i64 0]) (by simp [results, Try.results32, go_sem, y0, y1, y2, MV]) rfl ⟨⟨g1, o1, rfl, StoM.fn HF1.out HR2.out, HS1.out, HP1.out⟩, StoM.below HB2.out (by omega)⟩
end Go.Proofs.Ytilhmjjbanmfcaa

namespace Go.Proofs.Ytilhmjjbanmfcaa
open Go.RowKit Go.IntWalk

set_option maxRecDepth 4000 in
set_option maxHeartbeats 1000000 in
theorem Sand_bad (r c r2 c2 : Int) (n n2 : Nat) (sa sb : Option Addr) (ka kb : Nat) (xs ys : List Nat) (w : World) (ha : FlM w sa n ka xs) (hb : FlM w sb n2 kb ys) (hn : n ≤ 17592186043904) (hn2 : n2 ≤ 17592186043904) (hE : first2 (chkM r c n xs) (chkM r2 c2 n2 ys) ≠ 0) :
    Calls Try.prog 58 #[MV r c sa n ka, MV r2 c2 sb n2 kb] w fun e w' => e = .returned (NonM (first2 (chkM r c n xs) (chkM r2 c2 n2 ys))) ∧ Below w.heap.size w w' := by
  obtain ⟨t1, t2, t3, t4, t5⟩ := three_b w (MBox r c sa n ka) (MBox r2 c2 sb n2 kb) (MBox 0 0 none 0 0)
  have HCB := hid (fun W (hW : Below w.heap.size w W) => checkBoth_any r c r2 c2 n n2 sa sb ka kb _ _ W (ha.below hW) (hb.below hW) hn hn2)
  obtain ⟨E, hEE⟩ : ∃ E, Hid (first2 (chkM r c n xs) (chkM r2 c2 n2 ys) = E) := ⟨_, rfl⟩
  rw [hEE.out] at HCB hE
  rw [hEE.out]
  have hne : (E != 0) = true := by simpa using hE
  obtain ⟨V, hV⟩ : ∃ V, Hid (((w.alloc (MBox r c sa n ka)).alloc (MBox r2 c2 sb n2 kb)).alloc (MBox 0 0 none 0 0) = V) := ⟨_, rfl⟩
  rw [hV.out] at t1 t2 t3 t4 t5
  have hV' := hV.out
  have HB := hid t4
  have HR := hid t3
  obtain ⟨x0, x1, x2⟩ := mcells_of t1
  obtain ⟨v0, v1, v2⟩ := mcells_of t2
  unfold MBox at hV'
  unfold NonM
  unfold MV at HCB ⊢
  clear t1 t2 t3 t4 t5 ha hb hn hn2 hE
  go_enter Try.func58, Try.ntmps58
  go_wp2_with fail
  refine (HCB.out _ HB.out).mono ?_
  rintro e w1 ⟨rfl, hb1⟩
  have HB1 := hid (HB.out.trans (hb1.mono HB.out.size))
  have HR1 := hid (blkM HR.out hb1)
  clear hb1
  go_wp2_with fail
  refine (refused_any E _).mono ?_
  rintro e w2 ⟨rfl, hb2⟩
  have HB2 := hid (HB1.out.trans (hb2.mono HB1.out.size))
  have HR2 := hid (blkM HR1.out hb2)
  obtain ⟨r0, r1, r2⟩ := mcells_of HR2.out
  have fz := frzM HR2.out
  unfold MV
  clear hb2
  go_wp2_with fail
  exact bodyPost_ret (v := .tuple #[MV 0 0 none 0 0, .int .i64 E]) (by simp [results, Try.results58, go_sem, r0, r1, r2, MV]) rfl ⟨rfl, StoM.below HB2.out (by omega)⟩
set_option maxRecDepth 4000 in
set_option maxHeartbeats 1000000 in
theorem Sand_shape (r c r2 c2 n n2 : Nat) (sa sb : Option Addr) (ka kb : Nat) (f f2 : Nat → Nat) (w : World) (ha : Gd w r c sa n ka f) (hb : Gd w r2 c2 sb n2 kb f2) (hs : ¬ (r2 = c2 ∧ c = r2)) :
    Calls Try.prog 58 #[MV r c sa n ka, MV r2 c2 sb n2 kb] w fun e w' => e = .returned (NonM 3) ∧ Below w.heap.size w w' := by
  obtain ⟨t1, t2, t3, t4, t5⟩ := three_b w (MBox r c sa n ka) (MBox r2 c2 sb n2 kb) (MBox 0 0 none 0 0)
  have HCB := hid (fun W (hW : Below w.heap.size w W) => checkBoth_any r c r2 c2 n n2 sa sb ka kb _ _ W ((ha.below hW).2.2.2.1.fl) ((hb.below hW).2.2.2.1.fl) (by have := ha.le; omega) (by have := hb.le; omega))
  rw [ha.chk, hb.chk, show first2 0 0 = 0 by rfl] at HCB
  by_cases h1 : r2 = c2
  · have h2 : c ≠ r2 := fun h => hs ⟨h1, h⟩
    have d1 : ((r2 : Int) != (c2 : Int)) = false := by rw [h1]; simp
    have d2 : ((c : Int) != (r2 : Int)) = true := by simp; omega
    clear h1 h2 hs
    obtain ⟨V, hV⟩ : ∃ V, Hid (((w.alloc (MBox r c sa n ka)).alloc (MBox r2 c2 sb n2 kb)).alloc (MBox 0 0 none 0 0) = V) := ⟨_, rfl⟩
    rw [hV.out] at t1 t2 t3 t4 t5
    have hV' := hV.out
    have HB := hid t4
    have HR := hid t3
    have HA0 := hid t1
    have HA1 := hid t2
    obtain ⟨x0, x1, x2⟩ := mcells_of t1
    obtain ⟨v0, v1, v2⟩ := mcells_of t2
    unfold MBox at hV'
    unfold NonM
    unfold MV at HCB ⊢
    clear t1 t2 t3 t4 t5 ha hb
    go_enter Try.func58, Try.ntmps58
    go_wp2_with fail
    refine (HCB.out _ HB.out).mono ?_
    rintro e w1 ⟨rfl, hb1⟩
    have HB1 := hid (HB.out.trans (hb1.mono HB.out.size))
    have HR1 := hid (blkM HR.out hb1)
    obtain ⟨x0, x1, x2⟩ := mcells_of (blkM HA0.out hb1)
    obtain ⟨v0, v1, v2⟩ := mcells_of (blkM HA1.out hb1)
    clear hb1
    go_wp2_with fail
    refine (refused_any 3 _).mono ?_
    rintro e w2 ⟨rfl, hb2⟩
    have HB2 := hid (HB1.out.trans (hb2.mono HB1.out.size))
    have HR2 := hid (blkM HR1.out hb2)
    obtain ⟨r0, r1, r2⟩ := mcells_of HR2.out
    have fz := frzM HR2.out
    unfold MV
    clear hb2
    go_wp2_with fail
    exact bodyPost_ret (v := .tuple #[MV 0 0 none 0 0, .int .i64 3]) (by simp [results, Try.results58, go_sem, r0, r1, r2, MV]) rfl ⟨rfl, StoM.below HB2.out (by omega)⟩
  · have d1 : ((r2 : Int) != (c2 : Int)) = true := by simp; omega
    clear h1 hs
    obtain ⟨V, hV⟩ : ∃ V, Hid (((w.alloc (MBox r c sa n ka)).alloc (MBox r2 c2 sb n2 kb)).alloc (MBox 0 0 none 0 0) = V) := ⟨_, rfl⟩
    rw [hV.out] at t1 t2 t3 t4 t5
    have hV' := hV.out
    have HB := hid t4
    have HR := hid t3
    have HA0 := hid t1
    have HA1 := hid t2
    obtain ⟨x0, x1, x2⟩ := mcells_of t1
    obtain ⟨v0, v1, v2⟩ := mcells_of t2
    unfold MBox at hV'
    unfold NonM
    unfold MV at HCB ⊢
    clear t1 t2 t3 t4 t5 ha hb
    go_enter Try.func58, Try.ntmps58
    go_wp2_with fail
    refine (HCB.out _ HB.out).mono ?_
    rintro e w1 ⟨rfl, hb1⟩
    have HB1 := hid (HB.out.trans (hb1.mono HB.out.size))
    have HR1 := hid (blkM HR.out hb1)
    obtain ⟨x0, x1, x2⟩ := mcells_of (blkM HA0.out hb1)
    obtain ⟨v0, v1, v2⟩ := mcells_of (blkM HA1.out hb1)
    clear hb1
    go_wp2_with fail
    refine (refused_any 3 _).mono ?_
    rintro e w2 ⟨rfl, hb2⟩
    have HB2 := hid (HB1.out.trans (hb2.mono HB1.out.size))
    have HR2 := hid (blkM HR1.out hb2)
    obtain ⟨r0, r1, r2⟩ := mcells_of HR2.out
    have fz := frzM HR2.out
    unfold MV
    clear hb2
    go_wp2_with fail
    exact bodyPost_ret (v := .tuple #[MV 0 0 none 0 0, .int .i64 3]) (by simp [results, Try.results58, go_sem, r0, r1, r2, MV]) rfl ⟨rfl, StoM.below HB2.out (by omega)⟩
/-- What Sandwich hands back: a good symmetric matrix, or none. -/
def SymR (E : Int) (W : World) (X0 X1 : Int) (X2 : Option Addr) (X3 X4 : Nat) : Prop :=
  (E = 0 ∧ ∃ (r : Nat) (o : Nat → Nat), X0 = r ∧ X1 = r ∧ Gd W r r X2 X3 X4 o ∧ ∀ i j, i < r → j < r → o (i * r + j) = o (j * r + i)) ∨ (E ≠ 0 ∧ X0 = 0 ∧ X1 = 0 ∧ X2 = none ∧ X3 = 0 ∧ X4 = 0)
theorem sym_of (r g : Nat) (hr : r ≤ 12) (o : Nat → Nat) (W : World) (hf : FnM W (some ⟨g, 0, none⟩) (r * r) (r * r) o) (hv : ∀ i j, i < r → j < r → o (i * r + j) = o (j * r + i)) : ∃ X0 X1 X2 X3 X4 E, AnsM r r (r * r) g o = .tuple #[.agg #[.int .i64 X0, .int .i64 X1, .slice X2 X3 X4], .int .i64 E] ∧ SymR E W X0 X1 X2 X3 X4 := by
  unfold AnsM
  by_cases h : finF (r * r) o = true
  · rw [if_pos h, if_pos h]
    exact ⟨_, _, _, _, _, _, rfl, Or.inl ⟨rfl, r, o, rfl, rfl, ⟨hr, hr, rfl, hf, h⟩, hv⟩⟩
  · rw [if_neg h, if_neg h]
    exact ⟨_, _, _, _, _, _, rfl, Or.inr ⟨by decide, rfl, rfl, rfl, rfl, rfl⟩⟩
theorem sym_non (E : Int) (W : World) (hE : E ≠ 0) : ∃ X0 X1 X2 X3 X4 F, NonM E = .tuple #[.agg #[.int .i64 X0, .int .i64 X1, .slice X2 X3 X4], .int .i64 F] ∧ SymR F W X0 X1 X2 X3 X4 := ⟨_, _, _, _, _, _, rfl, Or.inr ⟨hE, rfl, rfl, rfl, rfl, rfl⟩⟩
/-- Sandwich of any two. -/
theorem Sand_any (r c r2 c2 : Int) (n n2 : Nat) (sa sb : Option Addr) (ka kb : Nat) (xs ys : List Nat) (w : World) (ha : FlM w sa n ka xs) (hb : FlM w sb n2 kb ys) (hn : n ≤ 17592186043904) (hn2 : n2 ≤ 17592186043904) :
    Calls Try.prog 58 #[.agg #[.int .i64 r, .int .i64 c, .slice sa n ka], .agg #[.int .i64 r2, .int .i64 c2, .slice sb n2 kb]] w fun e w' => (∃ X0 X1 X2 X3 X4 E, e = .returned (.tuple #[.agg #[.int .i64 X0, .int .i64 X1, .slice X2 X3 X4], .int .i64 E]) ∧ SymR E w' X0 X1 X2 X3 X4) ∧ Below w.heap.size w w' := by
  by_cases hE : first2 (chkM r c n xs) (chkM r2 c2 n2 ys) = 0
  · have h1 : chkM r c n xs = 0 ∧ chkM r2 c2 n2 ys = 0 := by
      unfold first2 at hE
      by_cases h : chkM r c n xs = 0
      · rw [h] at hE
        exact ⟨h, by simpa using hE⟩
      · simp [h] at hE
    obtain ⟨a, b, rfl, rfl, hga⟩ := gd_of ha h1.1
    obtain ⟨a2, b2, rfl, rfl, hgb⟩ := gd_of hb h1.2
    by_cases hs : a2 = b2 ∧ b = a2
    · obtain ⟨rfl, rfl⟩ := hs
      refine (Sand_ok a b n n2 sa sb ka kb _ _ w hga hgb).mono ?_
      rintro e w' ⟨⟨g, o, rfl, hf, hv, _⟩, hbb⟩
      obtain ⟨X0, X1, X2, X3, X4, E, q1, q2⟩ := sym_of a g hga.1 o w' hf hv
      exact ⟨⟨X0, X1, X2, X3, X4, E, by rw [q1], q2⟩, hbb⟩
    · refine (Sand_shape a b a2 b2 n n2 sa sb ka kb _ _ w hga hgb hs).mono ?_
      rintro e w' ⟨rfl, hbb⟩
      obtain ⟨X0, X1, X2, X3, X4, E, q1, q2⟩ := sym_non 3 w' (by decide)
      exact ⟨⟨X0, X1, X2, X3, X4, E, by rw [q1], q2⟩, hbb⟩
  · refine (Sand_bad r c r2 c2 n n2 sa sb ka kb xs ys w ha hb hn hn2 hE).mono ?_
    rintro e w' ⟨rfl, hbb⟩
    obtain ⟨X0, X1, X2, X3, X4, E, q1, q2⟩ := sym_non _ w' hE
    exact ⟨⟨X0, X1, X2, X3, X4, E, by rw [q1], q2⟩, hbb⟩
end Go.Proofs.Ytilhmjjbanmfcaa
