
/- matrix: what checkSquare, Mirror, Mean, Sandwich refuse; Mirror of a good square. -/
import Derived.Test.YtfkpdjieiifldabP41
namespace Go.Proofs.Ytfkpdjieiifldab
open Go.RowKit Go.IntWalk

set_option maxRecDepth 4000 in
set_option maxHeartbeats 1000000 in
theorem square_bad (r c : Int) (n : Nat) (sa : Option Addr) (ka : Nat) (xs : List Nat) (w : World) (ha : FlM w sa n ka xs) (hn : n ≤ 17592186043904) (hE : chkM r c n xs ≠ 0) :
    Calls Try.prog 63 #[MV r c sa n ka] w fun e w' => e = .returned (.int .i64 (chkM r c n xs)) ∧ Below w.heap.size w w' := by
  have HA0 : Hid ((w.alloc (MBox r c sa n ka)).heap[w.heap.size]? = some (MBox r c sa n ka)) := nblkM _ _
  have HB : Hid (Below w.heap.size w (w.alloc (MBox r c sa n ka))) := (Below.refl _ _).alloc (Nat.le_refl _) _
  have HCB := hid (fun W (hW : Below w.heap.size w W) => Check_any r c sa n ka xs W (ha.below hW) hn)
  obtain ⟨E, hEE⟩ : ∃ E, Hid (chkM r c n xs = E) := ⟨_, rfl⟩
  rw [hEE.out] at HCB hE
  rw [hEE.out]
  have hne : (E != 0) = true := by simpa using hE
  obtain ⟨V, hV⟩ : ∃ V, Hid (w.alloc (MBox r c sa n ka) = V) := ⟨_, rfl⟩
  rw [hV.out] at HA0 HB
  have hV' := hV.out
  obtain ⟨x0, x1, x2⟩ := mcells_of HA0.out
  unfold MBox at hV'
  unfold MV at HCB ⊢
  clear ha hn hE
  go_enter Try.func63, Try.ntmps63
  go_wp2_with fail
  refine (HCB.out _ HB.out).mono ?_
  rintro e w1 ⟨rfl, hb1⟩
  have HB1 := hid (HB.out.trans (hb1.mono HB.out.size))
  clear hb1
  go_wp2_with fail
  go_ret
  exact ⟨rfl, HB1.out⟩
set_option maxRecDepth 4000 in
set_option maxHeartbeats 1000000 in
theorem Mirror_non (r c E : Int) (n : Nat) (sa : Option Addr) (ka : Nat) (w : World) (hE : E ≠ 0) (hS : ∀ W, Below w.heap.size w W → Calls Try.prog 63 #[MV r c sa n ka] W fun e w' => e = .returned (.int .i64 E) ∧ Below W.heap.size W w') :
    Calls Try.prog 21 #[MV r c sa n ka] w fun e w' => e = .returned (NonM E) ∧ Below w.heap.size w w' := by
  obtain ⟨t1, t2, t3, t4⟩ := two_b w (MBox r c sa n ka) (MBox 0 0 none 0 0)
  have HCB := hid hS
  have hne : (E != 0) = true := by simpa using hE
  obtain ⟨V, hV⟩ : ∃ V, Hid ((w.alloc (MBox r c sa n ka)).alloc (MBox 0 0 none 0 0) = V) := ⟨_, rfl⟩
  rw [hV.out] at t1 t2 t3 t4
  have hV' := hV.out
  have HB := hid t3
  have HR := hid t2
  obtain ⟨x0, x1, x2⟩ := mcells_of t1
  unfold MBox at hV'
  unfold NonM
  unfold MV at HCB ⊢
  clear t1 t2 t3 t4 hS hE
  go_enter Try.func21, Try.ntmps21
  go_wp2_with fail
  refine (HCB.out _ HB.out).mono ?_
  rintro e w1 ⟨rfl, hb1⟩
  have HB1 := hid (HB.out.trans (hb1.mono HB.out.size))
  have HR1 := hid (blkM HR.out hb1)
  clear hb1
  go_wp2_with fail
  refine (refused_any E _).mono ?_
  rintro e w2 ⟨rfl, hb2⟩
  have HB2 := hid (HB1.out.trans (hb2.mono HB1.out.size))
  have HR2 := hid (blkM HR1.out hb2)
  obtain ⟨r0, r1, r2⟩ := mcells_of HR2.out
  have fz := frzM HR2.out
  unfold MV
  clear hb2
  go_wp2_with fail
  exact bodyPost_ret (v := .tuple #[MV 0 0 none 0 0, .int .i64 E]) (by simp [results, Try.results21, go_sem, r0, r1, r2, MV]) rfl ⟨rfl, StoM.below HB2.out (by omega)⟩
set_option maxRecDepth 4000 in
set_option maxHeartbeats 1000000 in
theorem Mean_non (r c E : Int) (n : Nat) (sa : Option Addr) (ka : Nat) (w : World) (hE : E ≠ 0) (hS : ∀ W, Below w.heap.size w W → Calls Try.prog 63 #[MV r c sa n ka] W fun e w' => e = .returned (.int .i64 E) ∧ Below W.heap.size W w') :
    Calls Try.prog 22 #[MV r c sa n ka] w fun e w' => e = .returned (NonM E) ∧ Below w.heap.size w w' := by
  obtain ⟨t1, t2, t3, t4⟩ := two_b w (MBox r c sa n ka) (MBox 0 0 none 0 0)
  have HCB := hid hS
  have hne : (E != 0) = true := by simpa using hE
  obtain ⟨V, hV⟩ : ∃ V, Hid ((w.alloc (MBox r c sa n ka)).alloc (MBox 0 0 none 0 0) = V) := ⟨_, rfl⟩
  rw [hV.out] at t1 t2 t3 t4
  have hV' := hV.out
  have HB := hid t3
  have HR := hid t2
  obtain ⟨x0, x1, x2⟩ := mcells_of t1
  unfold MBox at hV'
  unfold NonM
  unfold MV at HCB ⊢
  clear t1 t2 t3 t4 hS hE
  go_enter Try.func22, Try.ntmps22
  go_wp2_with fail
  refine (HCB.out _ HB.out).mono ?_
  rintro e w1 ⟨rfl, hb1⟩
  have HB1 := hid (HB.out.trans (hb1.mono HB.out.size))
  have HR1 := hid (blkM HR.out hb1)
  clear hb1
  go_wp2_with fail
  refine (refused_any E _).mono ?_
  rintro e w2 ⟨rfl, hb2⟩
  have HB2 := hid (HB1.out.trans (hb2.mono HB1.out.size))
  have HR2 := hid (blkM HR1.out hb2)
  obtain ⟨r0, r1, r2⟩ := mcells_of HR2.out
  have fz := frzM HR2.out
  unfold MV
  clear hb2
  go_wp2_with fail
  exact bodyPost_ret (v := .tuple #[MV 0 0 none 0 0, .int .i64 E]) (by simp [results, Try.results22, go_sem, r0, r1, r2, MV]) rfl ⟨rfl, StoM.below HB2.out (by omega)⟩
set_option maxRecDepth 4000 in
set_option maxHeartbeats 1000000 in
theorem Mirror_ok (c n : Nat) (sa : Option Addr) (ka : Nat) (f : Nat → Nat) (w : World) (ha : Gd w c c sa n ka f) :
    Calls Try.prog 21 #[MV c c sa n ka] w fun e w' => (∃ (g : Nat) (o : Nat → Nat), e = .returned (.tuple #[MV c c (some ⟨g, 0, none⟩) (c * c) (c * c), .int .i64 0]) ∧ FnM w' (some ⟨g, 0, none⟩) (c * c) (c * c) o ∧ (∀ i j, i < c → j < c → o (i * c + j) = o (j * c + i)) ∧ ∀ i j, i < c → j ≤ i → o (i * c + j) = f (i * c + j)) ∧ Below w.heap.size w w' := by
  obtain ⟨t1, t2, t3, t4⟩ := two_b w (MBox c c sa n ka) (MBox 0 0 none 0 0)
  have HCB := hid (fun W (hW : Below w.heap.size w W) => square_good c c n sa ka f W (ha.below hW))
  rw [if_pos rfl] at HCB
  have l1 := ha.1
  have hm1 : c * c ≤ 144 := Nat.mul_le_mul l1 l1
  have HM1 : Hid (c * c ≤ 144) := hm1
  have HFI := hid (fun W (hW : Below ((w.alloc (MBox c c sa n ka)).alloc (MBox 0 0 none 0 0)).heap.size ((w.alloc (MBox c c sa n ka)).alloc (MBox 0 0 none 0 0)) W) => mir_Mirror c (by omega) ⟨w.heap.size, 0, none⟩ (fun i j x => x = f (i * c + j)) W (fun W2 i j hW2 hi hj => clo_Mirror i j w.heap.size c c sa n ka f W2 (blkM (blkM t1 hW) hW2) (((ha.2.2.2.1.below t3).below hW).below hW2) (by omega) (by omega) (by omega) (by rw [ha.2.2.1]; exact place_lt hi (by omega))))
  obtain ⟨V, hV⟩ : ∃ V, Hid ((w.alloc (MBox c c sa n ka)).alloc (MBox 0 0 none 0 0) = V) := ⟨_, rfl⟩
  rw [hV.out] at HFI t1 t2 t3 t4
  have hV' := hV.out
  have HB := hid t3
  have HR := hid t2
  have HA0 := hid t1
  obtain ⟨x0, x1, x2⟩ := mcells_of t1
  unfold MBox at hV'
  unfold MV at HCB ⊢
  clear t1 t2 t3 t4 ha l1 hm1
  go_enter Try.func21, Try.ntmps21
  go_wp2_with fail
  refine (HCB.out _ HB.out).mono ?_
  rintro e w1 ⟨rfl, hb1⟩
  have HB1 := hid (HB.out.trans (hb1.mono HB.out.size))
  have HR1 := hid (blkM HR.out hb1)
  have HFF := hid (HFI.out _ hb1)
  obtain ⟨x0, x1, x2⟩ := mcells_of (blkM HA0.out hb1)
  clear hb1
  go_wp2_with fail
  refine HFF.out.mono ?_
  rintro e w2 ⟨hfi, hb2⟩
  obtain ⟨g1, o1, rfl, hg1, hf1, hs1, hp1⟩ := hfi.fn (by have := HM1.out; omega)
  have HB2 := hid (HB1.out.trans (hb2.mono HB1.out.size))
  have HR2 := hid (blkM HR1.out hb2)
  have HF1 := hid hf1
  have HP1 := hid hp1
  have HS1 := hid hs1
  obtain ⟨y0, y1, y2⟩ := mcells_of HR2.out
  have fz := frzM HR2.out
  unfold MV
  clear hb2 hfi hg1 hf1 hp1 hs1
  go_wp2_with fail
  exact bodyPost_ret (v := .tuple #[MV c c (some ⟨g1, 0, none⟩) (c * c) (c * c), .int .i64 0]) (by simp [results, Try.results21, go_sem, y0, y1, y2, MV]) rfl ⟨⟨g1, o1, rfl, StoM.fn HF1.out HR2.out, HS1.out, HP1.out⟩, StoM.below HB2.out (by omega)⟩
end Go.Proofs.Ytfkpdjieiifldab
