
/- matrix: what is refused; Transpose, checkSquare, checkAlike, Add. -/
import Derived.Test.YthnblidkbcficaaP22
namespace Go.Proofs.Ythnblidkbcficaa
open Go.RowKit Go.IntWalk

/-- Nothing beside an error. -/
def NonM (E : Int) : Value := .tuple #[MV 0 0 none 0 0, .int .i64 E]
set_option maxRecDepth 4000 in
set_option maxHeartbeats 1000000 in
theorem Mul_bad (r c r2 c2 : Int) (n n2 : Nat) (sa sb : Option Addr) (ka kb : Nat) (xs ys : List Nat) (w : World) (ha : FlM w sa n ka xs) (hb : FlM w sb n2 kb ys) (hn : n ≤ 17592186043904) (hn2 : n2 ≤ 17592186043904) (hE : first2 (chkM r c n xs) (chkM r2 c2 n2 ys) ≠ 0) :
    Calls Try.prog 59 #[MV r c sa n ka, MV r2 c2 sb n2 kb] w fun e w' => e = .returned (NonM (first2 (chkM r c n xs) (chkM r2 c2 n2 ys))) ∧ Below w.heap.size w w' := by
  obtain ⟨t1, t2, t3, t4, t5⟩ := three_b w (MBox r c sa n ka) (MBox r2 c2 sb n2 kb) (MBox 0 0 none 0 0)
  have HCB := hid (fun W (hW : Below w.heap.size w W) => checkBoth_any r c r2 c2 n n2 sa sb ka kb _ _ W (ha.below hW) (hb.below hW) hn hn2)
  obtain ⟨E, hEE⟩ : ∃ E, Hid (first2 (chkM r c n xs) (chkM r2 c2 n2 ys) = E) := ⟨_, rfl⟩
  rw [hEE.out] at HCB hE
  rw [hEE.out]
  have hne : (E != 0) = true := by simpa using hE
  obtain ⟨V, hV⟩ : ∃ V, Hid (((w.alloc (MBox r c sa n ka)).alloc (MBox r2 c2 sb n2 kb)).alloc (MBox 0 0 none 0 0) = V) := ⟨_, rfl⟩
  rw [hV.out] at t1 t2 t3 t4 t5
  have hV' := hV.out
  have HB := hid t4
  have HR := hid t3
  obtain ⟨x0, x1, x2⟩ := mcells_of t1
  obtain ⟨v0, v1, v2⟩ := mcells_of t2
  unfold MBox at hV'
  unfold NonM
  unfold MV at HCB ⊢
  clear t1 t2 t3 t4 t5 ha hb hn hn2 hE
  go_enter Try.func59, Try.ntmps59
  go_wp2_with fail
  refine (HCB.out _ HB.out).mono ?_
  rintro e w1 ⟨rfl, hb1⟩
  have HB1 := hid (HB.out.trans (hb1.mono HB.out.size))
  have HR1 := hid (blkM HR.out hb1)
  clear hb1
  go_wp2_with fail
  refine (refused_any E _).mono ?_
  rintro e w2 ⟨rfl, hb2⟩
  have HB2 := hid (HB1.out.trans (hb2.mono HB1.out.size))
  have HR2 := hid (blkM HR1.out hb2)
  obtain ⟨r0, r1, r2⟩ := mcells_of HR2.out
  have fz := frzM HR2.out
  unfold MV
  clear hb2
  go_wp2_with fail
  exact bodyPost_ret (v := .tuple #[MV 0 0 none 0 0, .int .i64 E]) (by simp [results, Try.results59, go_sem, r0, r1, r2, MV]) rfl ⟨rfl, StoM.below HB2.out (by omega)⟩
set_option maxRecDepth 4000 in
set_option maxHeartbeats 1000000 in
theorem Mul_shape (r c r2 c2 n n2 : Nat) (sa sb : Option Addr) (ka kb : Nat) (f f2 : Nat → Nat) (w : World) (ha : Gd w r c sa n ka f) (hb : Gd w r2 c2 sb n2 kb f2) (hs : c ≠ r2) :
    Calls Try.prog 59 #[MV r c sa n ka, MV r2 c2 sb n2 kb] w fun e w' => e = .returned (NonM 3) ∧ Below w.heap.size w w' := by
  obtain ⟨t1, t2, t3, t4, t5⟩ := three_b w (MBox r c sa n ka) (MBox r2 c2 sb n2 kb) (MBox 0 0 none 0 0)
  have HCB := hid (fun W (hW : Below w.heap.size w W) => checkBoth_any r c r2 c2 n n2 sa sb ka kb _ _ W ((ha.below hW).2.2.2.1.fl) ((hb.below hW).2.2.2.1.fl) (by have := ha.le; omega) (by have := hb.le; omega))
  rw [ha.chk, hb.chk, show first2 0 0 = 0 by rfl] at HCB
  have hne : ((c : Int) != (r2 : Int)) = true := by simp; omega
  obtain ⟨V, hV⟩ : ∃ V, Hid (((w.alloc (MBox r c sa n ka)).alloc (MBox r2 c2 sb n2 kb)).alloc (MBox 0 0 none 0 0) = V) := ⟨_, rfl⟩
  rw [hV.out] at t1 t2 t3 t4 t5
  have hV' := hV.out
  have HB := hid t4
  have HR := hid t3
  have HA0 := hid t1
  have HA1 := hid t2
  obtain ⟨x0, x1, x2⟩ := mcells_of t1
  obtain ⟨v0, v1, v2⟩ := mcells_of t2
  unfold MBox at hV'
  unfold NonM
  unfold MV at HCB ⊢
  clear t1 t2 t3 t4 t5 ha hb hs
  go_enter Try.func59, Try.ntmps59
  go_wp2_with fail
  refine (HCB.out _ HB.out).mono ?_
  rintro e w1 ⟨rfl, hb1⟩
  have HB1 := hid (HB.out.trans (hb1.mono HB.out.size))
  have HR1 := hid (blkM HR.out hb1)
  obtain ⟨x0, x1, x2⟩ := mcells_of (blkM HA0.out hb1)
  obtain ⟨v0, v1, v2⟩ := mcells_of (blkM HA1.out hb1)
  clear hb1
  go_wp2_with fail
  refine (refused_any 3 _).mono ?_
  rintro e w2 ⟨rfl, hb2⟩
  have HB2 := hid (HB1.out.trans (hb2.mono HB1.out.size))
  have HR2 := hid (blkM HR1.out hb2)
  obtain ⟨r0, r1, r2⟩ := mcells_of HR2.out
  have fz := frzM HR2.out
  unfold MV
  clear hb2
  go_wp2_with fail
  exact bodyPost_ret (v := .tuple #[MV 0 0 none 0 0, .int .i64 3]) (by simp [results, Try.results59, go_sem, r0, r1, r2, MV]) rfl ⟨rfl, StoM.below HB2.out (by omega)⟩
set_option maxRecDepth 4000 in
set_option maxHeartbeats 1000000 in
theorem Trn_bad (r c : Int) (n : Nat) (sa : Option Addr) (ka : Nat) (xs : List Nat) (w : World) (ha : FlM w sa n ka xs) (hn : n ≤ 17592186043904) (hE : chkM r c n xs ≠ 0) :
    Calls Try.prog 37 #[MV r c sa n ka] w fun e w' => e = .returned (NonM (chkM r c n xs)) ∧ Below w.heap.size w w' := by
  obtain ⟨t1, t2, t3, t4⟩ := two_b w (MBox r c sa n ka) (MBox 0 0 none 0 0)
  have HCB := hid (fun W (hW : Below w.heap.size w W) => Check_any r c sa n ka xs W (ha.below hW) hn)
  obtain ⟨E, hEE⟩ : ∃ E, Hid (chkM r c n xs = E) := ⟨_, rfl⟩
  rw [hEE.out] at HCB hE
  rw [hEE.out]
  have hne : (E != 0) = true := by simpa using hE
  obtain ⟨V, hV⟩ : ∃ V, Hid ((w.alloc (MBox r c sa n ka)).alloc (MBox 0 0 none 0 0) = V) := ⟨_, rfl⟩
  rw [hV.out] at t1 t2 t3 t4
  have hV' := hV.out
  have HB := hid t3
  have HR := hid t2
  obtain ⟨x0, x1, x2⟩ := mcells_of t1
  unfold MBox at hV'
  unfold NonM
  unfold MV at HCB ⊢
  clear t1 t2 t3 t4 ha hn hE
  go_enter Try.func37, Try.ntmps37
  go_wp2_with fail
  refine (HCB.out _ HB.out).mono ?_
  rintro e w1 ⟨rfl, hb1⟩
  have HB1 := hid (HB.out.trans (hb1.mono HB.out.size))
  have HR1 := hid (blkM HR.out hb1)
  clear hb1
  go_wp2_with fail
  refine (refused_any E _).mono ?_
  rintro e w2 ⟨rfl, hb2⟩
  have HB2 := hid (HB1.out.trans (hb2.mono HB1.out.size))
  have HR2 := hid (blkM HR1.out hb2)
  obtain ⟨r0, r1, r2⟩ := mcells_of HR2.out
  have fz := frzM HR2.out
  unfold MV
  clear hb2
  go_wp2_with fail
  exact bodyPost_ret (v := .tuple #[MV 0 0 none 0 0, .int .i64 E]) (by simp [results, Try.results37, go_sem, r0, r1, r2, MV]) rfl ⟨rfl, StoM.below HB2.out (by omega)⟩
set_option maxRecDepth 4000 in
set_option maxHeartbeats 1000000 in
theorem Trn_ok (r c n : Nat) (sa : Option Addr) (ka : Nat) (f : Nat → Nat) (w : World) (ha : Gd w r c sa n ka f) :
    Calls Try.prog 37 #[MV r c sa n ka] w fun e w' => (∃ (g : Nat) (o : Nat → Nat), e = .returned (.tuple #[MV c r (some ⟨g, 0, none⟩) (c * r) (c * r), .int .i64 0]) ∧ FnM w' (some ⟨g, 0, none⟩) (c * r) (c * r) o ∧ ∀ i j, i < c → j < r → o (i * r + j) = f (j * c + i)) ∧ Below w.heap.size w w' := by
  obtain ⟨t1, t2, t3, t4⟩ := two_b w (MBox r c sa n ka) (MBox 0 0 none 0 0)
  have HCB := hid (fun W (hW : Below w.heap.size w W) => Check_any r c sa n ka _ W ((ha.below hW).2.2.2.1.fl) (by have := ha.le; omega))
  rw [ha.chk] at HCB
  have l1 := ha.1
  have l2 := ha.2.1
  have hm1 : c * r ≤ 144 := Nat.mul_le_mul l2 l1
  have HM1 : Hid (c * r ≤ 9223372036854775807) := by show _ ≤ _; omega
  have HTU : Hid (∀ W, Below w.heap.size w W → Calls Try.prog 99 #[.agg #[.int .i64 r, .int .i64 c, .slice sa n ka]] W fun e w' => FillR (fun i j x => x = f (j * c + i)) c r (c * r) W.heap.size e w' ∧ Below W.heap.size W w') := fun W hW => turned_any r c n sa ka f W (ha.below hW).2.2.2.1 (by rw [ha.2.2.1]; exact Nat.le_refl _) (by omega) (by omega)
  obtain ⟨V, hV⟩ : ∃ V, Hid ((w.alloc (MBox r c sa n ka)).alloc (MBox 0 0 none 0 0) = V) := ⟨_, rfl⟩
  rw [hV.out] at t1 t2 t3 t4
  have hV' := hV.out
  have HB := hid t3
  have HR := hid t2
  have HA0 := hid t1
  obtain ⟨x0, x1, x2⟩ := mcells_of t1
  unfold MBox at hV'
  unfold MV at HCB ⊢
  clear t1 t2 t3 t4 ha l1 l2 hm1
  go_enter Try.func37, Try.ntmps37
  go_wp2_with fail
  refine (HCB.out _ HB.out).mono ?_
  rintro e w1 ⟨rfl, hb1⟩
  have HB1 := hid (HB.out.trans (hb1.mono HB.out.size))
  have HR1 := hid (blkM HR.out hb1)
  obtain ⟨x0, x1, x2⟩ := mcells_of (blkM HA0.out hb1)
  clear hb1
  go_wp2_with fail
  refine (HTU.out _ HB1.out).mono ?_
  rintro e w2 ⟨hfi, hb2⟩
  obtain ⟨g1, o1, rfl, hg1, hf1, hp1⟩ := hfi.fn HM1.out
  have HB2 := hid (HB1.out.trans (hb2.mono HB1.out.size))
  have HR2 := hid (blkM HR1.out hb2)
  have HF1 := hid hf1
  have HP1 := hid hp1
  obtain ⟨r0, r1, r2⟩ := mcells_of HR2.out
  have fz := frzM HR2.out
  unfold MV
  clear hb2 hfi hg1 hf1 hp1
  go_wp2_with fail
  exact bodyPost_ret (v := .tuple #[MV c r (some ⟨g1, 0, none⟩) (c * r) (c * r), .int .i64 0]) (by simp [results, Try.results37, go_sem, r0, r1, r2, MV]) rfl ⟨⟨g1, o1, rfl, StoM.fn HF1.out HR2.out, HP1.out⟩, StoM.below HB2.out (by omega)⟩
set_option maxRecDepth 4000 in
set_option maxHeartbeats 1000000 in
theorem alike_good (r c r2 c2 n n2 : Nat) (sa sb : Option Addr) (ka kb : Nat) (f f2 : Nat → Nat) (w : World) (ha : Gd w r c sa n ka f) (hb : Gd w r2 c2 sb n2 kb f2) :
    Calls Try.prog 105 #[MV r c sa n ka, MV r2 c2 sb n2 kb] w fun e w' => e = .returned (.int .i64 (if r = r2 ∧ c = c2 then 0 else 3)) ∧ Below w.heap.size w w' := by
  obtain ⟨t1, t2, t3, t4⟩ := two_b w (MBox r c sa n ka) (MBox r2 c2 sb n2 kb)
  have HCB := hid (fun W (hW : Below w.heap.size w W) => checkBoth_any r c r2 c2 n n2 sa sb ka kb _ _ W ((ha.below hW).2.2.2.1.fl) ((hb.below hW).2.2.2.1.fl) (by have := ha.le; omega) (by have := hb.le; omega))
  rw [ha.chk, hb.chk, show first2 0 0 = 0 by rfl] at HCB
  obtain ⟨V, hV⟩ : ∃ V, Hid ((w.alloc (MBox r c sa n ka)).alloc (MBox r2 c2 sb n2 kb) = V) := ⟨_, rfl⟩
  rw [hV.out] at t1 t2 t3 t4
  have hV' := hV.out
  have HB := hid t3
  have HA0 := hid t1
  have HA1 := hid t2
  obtain ⟨x0, x1, x2⟩ := mcells_of t1
  obtain ⟨v0, v1, v2⟩ := mcells_of t2
  unfold MBox at hV'
  unfold MV at HCB ⊢
  clear t1 t2 t3 t4 ha hb
  by_cases h1 : r = r2
  · have d1 : ((r : Int) != (r2 : Int)) = false := by rw [h1]; simp
    by_cases h2 : c = c2
    · have d2 : ((c : Int) != (c2 : Int)) = false := by rw [h2]; simp
      rw [if_pos ⟨h1, h2⟩]
      clear h1 h2
      go_enter Try.func105, Try.ntmps105
      go_wp2_with fail
      refine (HCB.out _ HB.out).mono ?_
      rintro e w1 ⟨rfl, hb1⟩
      have HB1 := hid (HB.out.trans (hb1.mono HB.out.size))
      obtain ⟨x0, x1, x2⟩ := mcells_of (blkM HA0.out hb1)
      obtain ⟨v0, v1, v2⟩ := mcells_of (blkM HA1.out hb1)
      clear hb1
      go_wp2_with fail
      go_ret
      exact ⟨rfl, HB1.out⟩
    · have d2 : ((c : Int) != (c2 : Int)) = true := by simp; omega
      rw [if_neg (fun h => h2 h.2)]
      clear h1 h2
      go_enter Try.func105, Try.ntmps105
      go_wp2_with fail
      refine (HCB.out _ HB.out).mono ?_
      rintro e w1 ⟨rfl, hb1⟩
      have HB1 := hid (HB.out.trans (hb1.mono HB.out.size))
      obtain ⟨x0, x1, x2⟩ := mcells_of (blkM HA0.out hb1)
      obtain ⟨v0, v1, v2⟩ := mcells_of (blkM HA1.out hb1)
      clear hb1
      go_wp2_with fail
      go_ret
      exact ⟨rfl, HB1.out⟩
  · have d1 : ((r : Int) != (r2 : Int)) = true := by simp; omega
    rw [if_neg (fun h => h1 h.1)]
    clear h1
    go_enter Try.func105, Try.ntmps105
    go_wp2_with fail
    refine (HCB.out _ HB.out).mono ?_
    rintro e w1 ⟨rfl, hb1⟩
    have HB1 := hid (HB.out.trans (hb1.mono HB.out.size))
    obtain ⟨x0, x1, x2⟩ := mcells_of (blkM HA0.out hb1)
    obtain ⟨v0, v1, v2⟩ := mcells_of (blkM HA1.out hb1)
    clear hb1
    go_wp2_with fail
    go_ret
    exact ⟨rfl, HB1.out⟩
set_option maxRecDepth 4000 in
set_option maxHeartbeats 1000000 in
theorem Add_shape (r c r2 c2 n n2 : Nat) (sa sb : Option Addr) (ka kb : Nat) (f f2 : Nat → Nat) (w : World) (ha : Gd w r c sa n ka f) (hb : Gd w r2 c2 sb n2 kb f2) (hs : ¬ (r = r2 ∧ c = c2)) :
    Calls Try.prog 48 #[MV r c sa n ka, MV r2 c2 sb n2 kb] w fun e w' => e = .returned (NonM 3) ∧ Below w.heap.size w w' := by
  obtain ⟨t1, t2, t3, t4, t5⟩ := three_b w (MBox r c sa n ka) (MBox r2 c2 sb n2 kb) (MBox 0 0 none 0 0)
  have HCB := hid (fun W (hW : Below w.heap.size w W) => alike_good r c r2 c2 n n2 sa sb ka kb f f2 W (ha.below hW) (hb.below hW))
  rw [if_neg hs] at HCB
  obtain ⟨V, hV⟩ : ∃ V, Hid (((w.alloc (MBox r c sa n ka)).alloc (MBox r2 c2 sb n2 kb)).alloc (MBox 0 0 none 0 0) = V) := ⟨_, rfl⟩
  rw [hV.out] at t1 t2 t3 t4 t5
  have hV' := hV.out
  have HB := hid t4
  have HR := hid t3
  obtain ⟨x0, x1, x2⟩ := mcells_of t1
  obtain ⟨v0, v1, v2⟩ := mcells_of t2
  unfold MBox at hV'
  unfold NonM
  unfold MV at HCB ⊢
  clear t1 t2 t3 t4 t5 ha hb hs
  go_enter Try.func48, Try.ntmps48
  go_wp2_with fail
  refine (HCB.out _ HB.out).mono ?_
  rintro e w1 ⟨rfl, hb1⟩
  have HB1 := hid (HB.out.trans (hb1.mono HB.out.size))
  have HR1 := hid (blkM HR.out hb1)
  clear hb1
  go_wp2_with fail
  refine (refused_any 3 _).mono ?_
  rintro e w2 ⟨rfl, hb2⟩
  have HB2 := hid (HB1.out.trans (hb2.mono HB1.out.size))
  have HR2 := hid (blkM HR1.out hb2)
  obtain ⟨r0, r1, r2⟩ := mcells_of HR2.out
  have fz := frzM HR2.out
  unfold MV
  clear hb2
  go_wp2_with fail
  exact bodyPost_ret (v := .tuple #[MV 0 0 none 0 0, .int .i64 3]) (by simp [results, Try.results48, go_sem, r0, r1, r2, MV]) rfl ⟨rfl, StoM.below HB2.out (by omega)⟩
set_option maxRecDepth 4000 in
set_option maxHeartbeats 1000000 in
theorem Add_ok (r c n n2 : Nat) (sa sb : Option Addr) (ka kb : Nat) (f f2 : Nat → Nat) (w : World) (ha : Gd w r c sa n ka f) (hb : Gd w r c sb n2 kb f2) :
    Calls Try.prog 48 #[MV r c sa n ka, MV r c sb n2 kb] w fun e w' => (∃ (g : Nat) (o : Nat → Nat), e = .returned (AnsM r c (r * c) g o) ∧ FnM w' (some ⟨g, 0, none⟩) (r * c) (r * c) o ∧ ∀ i j, i < r → j < c → canonOf (o (i * c + j)) = caf .add (canonOf (f (i * c + j))) (canonOf (f2 (i * c + j)))) ∧ Below w.heap.size w w' := by
  obtain ⟨t1, t2, t3, t4, t5⟩ := three_b w (MBox r c sa n ka) (MBox r c sb n2 kb) (MBox 0 0 none 0 0)
  have HCB := hid (fun W (hW : Below w.heap.size w W) => alike_good r c r c n n2 sa sb ka kb f f2 W (ha.below hW) (hb.below hW))
  rw [if_pos ⟨rfl, rfl⟩] at HCB
  have l1 := ha.1
  have l2 := ha.2.1
  have hm1 : r * c ≤ 144 := Nat.mul_le_mul l1 l2
  have HM1 : Hid (r * c ≤ 144) := hm1
  have HFI := hid (fun W (hW : Below (((w.alloc (MBox r c sa n ka)).alloc (MBox r c sb n2 kb)).alloc (MBox 0 0 none 0 0)).heap.size (((w.alloc (MBox r c sa n ka)).alloc (MBox r c sb n2 kb)).alloc (MBox 0 0 none 0 0)) W) => fill_Add r c (by omega) (by omega) ⟨w.heap.size, 0, none⟩ ⟨w.heap.size + 1, 0, none⟩ (fun i j x => canonOf x = caf .add (canonOf (f (i * c + j))) (canonOf (f2 (i * c + j)))) W (fun W2 i j hW2 hi hj => clo_Add i j w.heap.size (w.heap.size + 1) r c r c sa sb n ka n2 kb f f2 W2 (blkM (blkM t1 hW) hW2) (blkM (blkM t2 hW) hW2) (((ha.2.2.2.1.below t4).below hW).below hW2) (((hb.2.2.2.1.below t4).below hW).below hW2) (by omega) (by omega) (by omega) (by omega) (by rw [ha.2.2.1]; exact place_lt hi hj) (by rw [hb.2.2.1]; exact place_lt hi hj)))
  obtain ⟨V, hV⟩ : ∃ V, Hid (((w.alloc (MBox r c sa n ka)).alloc (MBox r c sb n2 kb)).alloc (MBox 0 0 none 0 0) = V) := ⟨_, rfl⟩
  rw [hV.out] at HFI t1 t2 t3 t4 t5
  have hV' := hV.out
  have HB := hid t4
  have HR := hid t3
  have HA0 := hid t1
  have HA1 := hid t2
  obtain ⟨x0, x1, x2⟩ := mcells_of t1
  obtain ⟨v0, v1, v2⟩ := mcells_of t2
  unfold MBox at hV'
  unfold MV at HCB ⊢
  clear t1 t2 t3 t4 t5 ha hb l1 l2 hm1
  go_enter Try.func48, Try.ntmps48
  go_wp2_with fail
  refine (HCB.out _ HB.out).mono ?_
  rintro e w1 ⟨rfl, hb1⟩
  have HB1 := hid (HB.out.trans (hb1.mono HB.out.size))
  have HR1 := hid (blkM HR.out hb1)
  have HFF := hid (HFI.out _ hb1)
  obtain ⟨x0, x1, x2⟩ := mcells_of (blkM HA0.out hb1)
  obtain ⟨v0, v1, v2⟩ := mcells_of (blkM HA1.out hb1)
  clear hb1
  go_wp2_with fail
  refine HFF.out.mono ?_
  rintro e w2 ⟨hfi, hb2⟩
  obtain ⟨g1, o1, rfl, hg1, hf1, hp1⟩ := hfi.fn (by have := HM1.out; omega)
  have HB2 := hid (HB1.out.trans (hb2.mono HB1.out.size))
  have HR2 := hid (blkM HR1.out hb2)
  have HF1 := hid hf1
  have HP1 := hid hp1
  clear hb2 hfi hg1 hf1 hp1
  have HAN := hid (answered_any r c (r * c) _ (r * c) o1 w2 HF1.out (by have := HM1.out; omega))
  obtain ⟨X0, X1, X2, X3, X4, hXX⟩ : ∃ a b s m k, Hid ((if finF (r * c) o1 = true then MV r c (some ⟨g1, 0, none⟩) (r * c) (r * c) else MV 0 0 none 0 0) = MV a b s m k) := by
    by_cases q : finF (r * c) o1 = true
    · exact ⟨r, c, _, _, _, by show _ = _; rw [if_pos q]⟩
    · exact ⟨0, 0, _, _, _, by show _ = _; rw [if_neg q]⟩
  obtain ⟨E, hE⟩ : ∃ E, Hid ((if finF (r * c) o1 = true then 0 else 5 : Int) = E) := ⟨_, rfl⟩
  rw [hXX.out, hE.out] at HAN
  unfold MV at HAN ⊢
  go_wp2_with fail
  refine HAN.out.mono ?_
  rintro e w3 ⟨rfl, hk3, hb3⟩
  have HB3 := hid (HB2.out.trans (hb3.mono HB2.out.size))
  have HR3 := hid (blkM HR2.out hb3)
  have HF3 := hid (hk3 _ _ _ _ HF1.out)
  obtain ⟨y0, y1, y2⟩ := mcells_of HR3.out
  have fz := frzM HR3.out
  clear hk3 hb3
  go_wp2_with fail
  exact bodyPost_ret (v := AnsM r c (r * c) g1 o1) (by unfold AnsM; rw [hXX.out, hE.out]; simp [results, Try.results48, go_sem, y0, y1, y2, MV]) rfl ⟨⟨g1, o1, rfl, StoM.fn HF3.out HR3.out, HP1.out⟩, StoM.below HB3.out (by omega)⟩
end Go.Proofs.Ythnblidkbcficaa
