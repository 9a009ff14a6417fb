
/- matrix: what Sandwich refuses; Sandwich of any two; Symmetric. (Written by mkmyb.py.) -/
import Derived.Test.YtfkpdjieiifldabP42
namespace Go.Proofs.Ytfkpdjieiifldab
open Go.RowKit Go.IntWalk

set_option maxRecDepth 4000 in
set_option maxHeartbeats 1000000 in
theorem Sand_bad (r c r2 c2 : Int) (n n2 : Nat) (sa sb : Option Addr) (ka kb : Nat) (xs ys : List Nat) (w : World) (ha : FlM w sa n ka xs) (hb : FlM w sb n2 kb ys) (hn : n ≤ 17592186043904) (hn2 : n2 ≤ 17592186043904) (hE : first2 (chkM r c n xs) (chkM r2 c2 n2 ys) ≠ 0) :
    Calls Try.prog 20 #[MV r c sa n ka, MV r2 c2 sb n2 kb] w fun e w' => e = .returned (NonM (first2 (chkM r c n xs) (chkM r2 c2 n2 ys))) ∧ Below w.heap.size w w' := by
  obtain ⟨t1, t2, t3, t4, t5⟩ := three_b w (MBox r c sa n ka) (MBox r2 c2 sb n2 kb) (MBox 0 0 none 0 0)
  have HCB := hid (fun W (hW : Below w.heap.size w W) => checkBoth_any r c r2 c2 n n2 sa sb ka kb _ _ W (ha.below hW) (hb.below hW) hn hn2)
  obtain ⟨E, hEE⟩ : ∃ E, Hid (first2 (chkM r c n xs) (chkM r2 c2 n2 ys) = E) := ⟨_, rfl⟩
  rw [hEE.out] at HCB hE
  rw [hEE.out]
  have hne : (E != 0) = true := by simpa using hE
  obtain ⟨V, hV⟩ : ∃ V, Hid (((w.alloc (MBox r c sa n ka)).alloc (MBox r2 c2 sb n2 kb)).alloc (MBox 0 0 none 0 0) = V) := ⟨_, rfl⟩
  rw [hV.out] at t1 t2 t3 t4 t5
  have hV' := hV.out
  have HB := hid t4
  have HR := hid t3
  obtain ⟨x0, x1, x2⟩ := mcells_of t1
  obtain ⟨v0, v1, v2⟩ := mcells_of t2
  unfold MBox at hV'
  unfold NonM
  unfold MV at HCB ⊢
  clear t1 t2 t3 t4 t5 ha hb hn hn2 hE
  go_enter Try.func20, Try.ntmps20
  go_wp2_with fail
  refine (HCB.out _ HB.out).mono ?_
  rintro e w1 ⟨rfl, hb1⟩
  have HB1 := hid (HB.out.trans (hb1.mono HB.out.size))
  have HR1 := hid (blkM HR.out hb1)
  clear hb1
  go_wp2_with fail
  refine (refused_any E _).mono ?_
  rintro e w2 ⟨rfl, hb2⟩
  have HB2 := hid (HB1.out.trans (hb2.mono HB1.out.size))
  have HR2 := hid (blkM HR1.out hb2)
  obtain ⟨r0, r1, r2⟩ := mcells_of HR2.out
  have fz := frzM HR2.out
  unfold MV
  clear hb2
  go_wp2_with fail
  exact bodyPost_ret (v := .tuple #[MV 0 0 none 0 0, .int .i64 E]) (by simp [results, Try.results20, go_sem, r0, r1, r2, MV]) rfl ⟨rfl, StoM.below HB2.out (by omega)⟩
set_option maxRecDepth 4000 in
set_option maxHeartbeats 1000000 in
theorem Sand_shape (r c r2 c2 n n2 : Nat) (sa sb : Option Addr) (ka kb : Nat) (f f2 : Nat → Nat) (w : World) (ha : Gd w r c sa n ka f) (hb : Gd w r2 c2 sb n2 kb f2) (hs : ¬ (r2 = c2 ∧ c = r2)) :
    Calls Try.prog 20 #[MV r c sa n ka, MV r2 c2 sb n2 kb] w fun e w' => e = .returned (NonM 3) ∧ Below w.heap.size w w' := by
  obtain ⟨t1, t2, t3, t4, t5⟩ := three_b w (MBox r c sa n ka) (MBox r2 c2 sb n2 kb) (MBox 0 0 none 0 0)
  have HCB := hid (fun W (hW : Below w.heap.size w W) => checkBoth_any r c r2 c2 n n2 sa sb ka kb _ _ W ((ha.below hW).2.2.2.1.fl) ((hb.below hW).2.2.2.1.fl) (by have := ha.le; omega) (by have := hb.le; omega))
  rw [ha.chk, hb.chk, show first2 0 0 = 0 by rfl] at HCB
  by_cases h1 : r2 = c2
  · have h2 : c ≠ r2 := fun h => hs ⟨h1, h⟩
    have d1 : ((r2 : Int) != (c2 : Int)) = false := by rw [h1]; simp
    have d2 : ((c : Int) != (r2 : Int)) = true := by simp; omega
    clear h1 h2 hs
    obtain ⟨V, hV⟩ : ∃ V, Hid (((w.alloc (MBox r c sa n ka)).alloc (MBox r2 c2 sb n2 kb)).alloc (MBox 0 0 none 0 0) = V) := ⟨_, rfl⟩
    rw [hV.out] at t1 t2 t3 t4 t5
    have hV' := hV.out
    have HB := hid t4
    have HR := hid t3
    have HA0 := hid t1
    have HA1 := hid t2
    obtain ⟨x0, x1, x2⟩ := mcells_of t1
    obtain ⟨v0, v1, v2⟩ := mcells_of t2
    unfold MBox at hV'
    unfold NonM
    unfold MV at HCB ⊢
    clear t1 t2 t3 t4 t5 ha hb
    go_enter Try.func20, Try.ntmps20
    go_wp2_with fail
    refine (HCB.out _ HB.out).mono ?_
    rintro e w1 ⟨rfl, hb1⟩
    have HB1 := hid (HB.out.trans (hb1.mono HB.out.size))
    have HR1 := hid (blkM HR.out hb1)
    obtain ⟨x0, x1, x2⟩ := mcells_of (blkM HA0.out hb1)
    obtain ⟨v0, v1, v2⟩ := mcells_of (blkM HA1.out hb1)
    clear hb1
    go_wp2_with fail
    refine (refused_any 3 _).mono ?_
    rintro e w2 ⟨rfl, hb2⟩
    have HB2 := hid (HB1.out.trans (hb2.mono HB1.out.size))
    have HR2 := hid (blkM HR1.out hb2)
    obtain ⟨r0, r1, r2⟩ := mcells_of HR2.out
    have fz := frzM HR2.out
    unfold MV
    clear hb2
    go_wp2_with fail
    exact bodyPost_ret (v := .tuple #[MV 0 0 none 0 0, .int .i64 3]) (by simp [results, Try.results20, go_sem, r0, r1, r2, MV]) rfl ⟨rfl, StoM.below HB2.out (by omega)⟩
  · have d1 : ((r2 : Int) != (c2 : Int)) = true := by simp; omega
    clear h1 hs
    obtain ⟨V, hV⟩ : ∃ V, Hid (((w.alloc (MBox r c sa n ka)).alloc (MBox r2 c2 sb n2 kb)).alloc (MBox 0 0 none 0 0) = V) := ⟨_, rfl⟩
    rw [hV.out] at t1 t2 t3 t4 t5
    have hV' := hV.out
    have HB := hid t4
    have HR := hid t3
    have HA0 := hid t1
    have HA1 := hid t2
    obtain ⟨x0, x1, x2⟩ := mcells_of t1
    obtain ⟨v0, v1, v2⟩ := mcells_of t2
    unfold MBox at hV'
    unfold NonM
    unfold MV at HCB ⊢
    clear t1 t2 t3 t4 t5 ha hb
    go_enter Try.func20, Try.ntmps20
    go_wp2_with fail
    refine (HCB.out _ HB.out).mono ?_
    rintro e w1 ⟨rfl, hb1⟩
    have HB1 := hid (HB.out.trans (hb1.mono HB.out.size))
    have HR1 := hid (blkM HR.out hb1)
    obtain ⟨x0, x1, x2⟩ := mcells_of (blkM HA0.out hb1)
    obtain ⟨v0, v1, v2⟩ := mcells_of (blkM HA1.out hb1)
    clear hb1
    go_wp2_with fail
    refine (refused_any 3 _).mono ?_
    rintro e w2 ⟨rfl, hb2⟩
    have HB2 := hid (HB1.out.trans (hb2.mono HB1.out.size))
    have HR2 := hid (blkM HR1.out hb2)
    obtain ⟨r0, r1, r2⟩ := mcells_of HR2.out
    have fz := frzM HR2.out
    unfold MV
    clear hb2
    go_wp2_with fail
    exact bodyPost_ret (v := .tuple #[MV 0 0 none 0 0, .int .i64 3]) (by simp [results, Try.results20, go_sem, r0, r1, r2, MV]) rfl ⟨rfl, StoM.below HB2.out (by omega)⟩
/-- What Sandwich hands back: a good symmetric matrix, or none. -/
def SymR (E : Int) (W : World) (X0 X1 : Int) (X2 : Option Addr) (X3 X4 : Nat) : Prop :=
  (E = 0 ∧ ∃ (r : Nat) (o : Nat → Nat), X0 = r ∧ X1 = r ∧ Gd W r r X2 X3 X4 o ∧ ∀ i j, i < r → j < r → o (i * r + j) = o (j * r + i)) ∨ (E ≠ 0 ∧ X0 = 0 ∧ X1 = 0 ∧ X2 = none ∧ X3 = 0 ∧ X4 = 0)
theorem sym_of (r g : Nat) (hr : r ≤ 12) (o : Nat → Nat) (W : World) (hf : FnM W (some ⟨g, 0, none⟩) (r * r) (r * r) o) (hv : ∀ i j, i < r → j < r → o (i * r + j) = o (j * r + i)) : ∃ X0 X1 X2 X3 X4 E, AnsM r r (r * r) g o = .tuple #[.agg #[.int .i64 X0, .int .i64 X1, .slice X2 X3 X4], .int .i64 E] ∧ SymR E W X0 X1 X2 X3 X4 := by
  unfold AnsM
  by_cases h : finF (r * r) o = true
  · rw [if_pos h, if_pos h]
    exact ⟨_, _, _, _, _, _, rfl, Or.inl ⟨rfl, r, o, rfl, rfl, ⟨hr, hr, rfl, hf, h⟩, hv⟩⟩
  · rw [if_neg h, if_neg h]
    exact ⟨_, _, _, _, _, _, rfl, Or.inr ⟨by decide, rfl, rfl, rfl, rfl, rfl⟩⟩
theorem sym_non (E : Int) (W : World) (hE : E ≠ 0) : ∃ X0 X1 X2 X3 X4 F, NonM E = .tuple #[.agg #[.int .i64 X0, .int .i64 X1, .slice X2 X3 X4], .int .i64 F] ∧ SymR F W X0 X1 X2 X3 X4 := ⟨_, _, _, _, _, _, rfl, Or.inr ⟨hE, rfl, rfl, rfl, rfl, rfl⟩⟩
/-- Sandwich of any two. -/
theorem Sand_any (r c r2 c2 : Int) (n n2 : Nat) (sa sb : Option Addr) (ka kb : Nat) (xs ys : List Nat) (w : World) (ha : FlM w sa n ka xs) (hb : FlM w sb n2 kb ys) (hn : n ≤ 17592186043904) (hn2 : n2 ≤ 17592186043904) :
    Calls Try.prog 20 #[.agg #[.int .i64 r, .int .i64 c, .slice sa n ka], .agg #[.int .i64 r2, .int .i64 c2, .slice sb n2 kb]] w fun e w' => (∃ X0 X1 X2 X3 X4 E, e = .returned (.tuple #[.agg #[.int .i64 X0, .int .i64 X1, .slice X2 X3 X4], .int .i64 E]) ∧ SymR E w' X0 X1 X2 X3 X4) ∧ Below w.heap.size w w' := by
  by_cases hE : first2 (chkM r c n xs) (chkM r2 c2 n2 ys) = 0
  · have h1 : chkM r c n xs = 0 ∧ chkM r2 c2 n2 ys = 0 := by
      unfold first2 at hE
      by_cases h : chkM r c n xs = 0
      · rw [h] at hE
        exact ⟨h, by simpa using hE⟩
      · simp [h] at hE
    obtain ⟨a, b, rfl, rfl, hga⟩ := gd_of ha h1.1
    obtain ⟨a2, b2, rfl, rfl, hgb⟩ := gd_of hb h1.2
    by_cases hs : a2 = b2 ∧ b = a2
    · obtain ⟨rfl, rfl⟩ := hs
      refine (Sand_ok a b n n2 sa sb ka kb _ _ w hga hgb).mono ?_
      rintro e w' ⟨⟨g, o, rfl, hf, hv, _⟩, hbb⟩
      obtain ⟨X0, X1, X2, X3, X4, E, q1, q2⟩ := sym_of a g hga.1 o w' hf hv
      exact ⟨⟨X0, X1, X2, X3, X4, E, by rw [q1], q2⟩, hbb⟩
    · refine (Sand_shape a b a2 b2 n n2 sa sb ka kb _ _ w hga hgb hs).mono ?_
      rintro e w' ⟨rfl, hbb⟩
      obtain ⟨X0, X1, X2, X3, X4, E, q1, q2⟩ := sym_non 3 w' (by decide)
      exact ⟨⟨X0, X1, X2, X3, X4, E, by rw [q1], q2⟩, hbb⟩
  · refine (Sand_bad r c r2 c2 n n2 sa sb ka kb xs ys w ha hb hn hn2 hE).mono ?_
    rintro e w' ⟨rfl, hbb⟩
    obtain ⟨X0, X1, X2, X3, X4, E, q1, q2⟩ := sym_non _ w' hE
    exact ⟨⟨X0, X1, X2, X3, X4, E, by rw [q1], q2⟩, hbb⟩
end Go.Proofs.Ytfkpdjieiifldab
