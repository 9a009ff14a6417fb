
/- The law's own: a number out of its bits, a motion out of its parts, told. -/
import Derived.Test.YtggiklghcnojiaaP35
namespace Go.Proofs.Ytggiklghcnojiaa
open Go.RowKit Go.IntWalk

theorem f14_any (b : Nat) (w : World) : Calls Try.prog 14 #[.int .u64 (b : Int)] w fun r w' => r = .returned (.float .f64 b) ∧ w' = w := by
  have h1 := f64from
  go_enter Try.func14, Try.ntmps14
  go_wp2
  go_ret
  exact ⟨rfl, rfl⟩
theorem OwnPt.keepG {w w' : World} {base k : Nat} {v : Value} {K A : Nat → Int} {N F : Nat → Nat} (h : OwnPt w base v k K A N F) (hb : ∀ g, base ≤ g → w'.heap[g]? = w.heap[g]?) : OwnPt w' base v k K A N F := by
  obtain ⟨h1, h2⟩ := h
  refine ⟨h1, ?_⟩
  rcases h2 with h2 | ⟨g, cap, cur, e1, e2, e3, e4⟩
  · exact .inl h2
  · exact .inr ⟨g, cap, cur, e1, e2, (hb g e2).trans e3, e4⟩
theorem moset {W : World} {b : Nat} {sa sa2 : Option Addr} {n n2 cap cap2 : Nat} (h : W.heap[b]? = some (MoBox sa n cap)) : (W.setCell ⟨b, 0, none⟩ (.slice sa2 n2 cap2)).heap[b]? = some (MoBox sa2 n2 cap2) := by
  unfold MoBox at h ⊢
  simp [World.setCell, Array.getElem?_modify, h]
theorem mofrz {A : World} {b : Nat} {sa : Option Addr} {n cap : Nat} (h : A.heap[b]? = some (MoBox sa n cap)) : A.frozen? ⟨b, 0, none⟩ = false := by unfold MoBox at h; simp [World.frozen?, h]
/-- The four cells of a part as it comes in. -/
def PuC (W : World) (b off : Nat) (k a : Int) (n f : Nat) : Prop := W.cell? ⟨b, off, none⟩ = some (.int .i64 k) ∧ W.cell? ⟨b, off + 1, none⟩ = some (.int .i64 a) ∧ W.cell? ⟨b, off + 2, none⟩ = some (.int .u64 ((n : Nat) : Int)) ∧ W.cell? ⟨b, off + 3, none⟩ = some (.int .u64 ((f : Nat) : Int))
theorem pu_at {w W : World} {b off n : Nat} {K A : Nat → Int} {N F : Nat → Nat} (hbl : b < w.heap.size) (hcl : ∀ i, i < n → w.cell? ⟨b, off + i * 4, none⟩ = some (.int .i64 (K i)) ∧ w.cell? ⟨b, off + i * 4 + 1, none⟩ = some (.int .i64 (A i)) ∧ w.cell? ⟨b, off + i * 4 + 2, none⟩ = some (.int .u64 ((N i : Nat) : Int)) ∧ w.cell? ⟨b, off + i * 4 + 3, none⟩ = some (.int .u64 ((F i : Nat) : Int))) (hb : Below w.heap.size w W) (i : Nat) (hi : i < n) : PuC W b (off + i * 4) (K i) (A i) (N i) (F i) := by
  unfold PuC
  rw [hb.cell (p := ⟨b, off + i * 4, none⟩) hbl, hb.cell (p := ⟨b, off + i * 4 + 1, none⟩) hbl, hb.cell (p := ⟨b, off + i * 4 + 2, none⟩) hbl, hb.cell (p := ⟨b, off + i * 4 + 3, none⟩) hbl]
  exact hcl i hi
/-- An append as one step of a region that draws. -/
theorem step_app {ops : Array Oper} {o : Oper} {a : Act} {w w' : World} {K : Act → World → Prop} {Q : Exit → Act → World → Prop} {E : Prop} {r : Value} (T : TypeId)
    (hg : o.guard = none) (s x : Operand) (hop : o.op = Op.call { callee := Callee.builtin Builtin.append, args := #[s, x], argTypes := #[T, T] })
    (u v : Value) (hs : a.eval s = u) (hx : a.eval x = v) (hrun : (Builtin.append_ #[T, T] o.type #[u, v]).run Try.prog w = .ok r w') (hK : K (a.put o.dst r) w') :
    if Region.wanted o (yielded ops a.tmps) = true then Oper.wp Try.prog o a w K Q else E := by
  have hw : Region.wanted o (yielded ops a.tmps) = true := by simp [Region.wanted, hg]
  rw [if_pos hw]
  unfold Oper.wp
  simp [execOp, hop, resolve, invoke, builtin, hs, hx, hrun, Result.andThen]
  exact hK
theorem mo_append {wr : World} {B k : Nat} {ta : Option Addr} {tc : Nat} {K A : Nat → Int} {N F : Nat → Nat} (ty : TypeId) (h : OwnPt wr B (.slice ta k tc) k K A N F) (hk : k < 4398046511104) (hB : B ≤ wr.heap.size) :
    ∃ g tc2 w9, (Builtin.append_ #[24, 24] ty #[.slice ta k tc, .slice (some ⟨wr.heap.size, 0, none⟩) 1 1]).run Try.prog (wr.alloc (PBox (K k) (A k) (N k) (F k))) = .ok (.slice (some ⟨g, 0, none⟩) (k + 1) tc2) w9 ∧ OwnPt w9 B (.slice (some ⟨g, 0, none⟩) (k + 1) tc2) (k + 1) K A N F ∧ Below B (wr.alloc (PBox (K k) (A k) (N k) (F k))) w9 := by
  obtain ⟨i0, hi, hz0, hz1, hz2⟩ := info_pt
  have hal : Below wr.heap.size wr (wr.alloc (PBox (K k) (A k) (N k) (F k))) := (Below.refl _ _).alloc (Nat.le_refl _) _
  have hown := h.keepB hal
  have hnb := nblkM wr (PBox (K k) (A k) (N k) (F k))
  obtain ⟨c0, c1, c2, c3⟩ := ptcells_of hnb
  have hcell : ∀ (j : Nat) u, [Value.int .i64 (K k), .int .i64 (A k), .float .f64 (N k), .float .f64 (F k)][j]? = some u → (wr.alloc (PBox (K k) (A k) (N k) (F k))).cell? ((⟨wr.heap.size, 0, none⟩ : Addr).add j) = some u := by
    intro j u hj
    rw [Go.WideShapes.add_plain, Nat.zero_add]
    match j, hj with
    | 0, hj => simp at hj; subst hj; exact c0
    | 1, hj => simp at hj; subst hj; exact c1
    | 2, hj => simp at hj; subst hj; exact c2
    | 3, hj => simp at hj; subst hj; exact c3
  obtain ⟨v', w9, hrun, hown', hgr, _⟩ := run_append_own (P := Try.prog) (wr.alloc (PBox (K k) (A k) (N k) (F k))) B 24 ty 45 i0 (.agg #[.int .i64 0, .int .i64 0, .float .f64 0, .float .f64 0]) 4 32 Try.underlying24 hi hz0 hz1 hz2 rfl (by decide) (.slice ta k tc) k (ptL K A N F k) hown ⟨wr.heap.size, 0, none⟩ 1 1 [.int .i64 (K k), .int .i64 (A k), .float .f64 (N k), .float .f64 (F k)] rfl hcell (by intro u hu; simp at hu; rcases hu with h | h | h | h <;> (rw [h]; rfl)) (by unfold maxLen; omega) (by omega) (by simp; omega)
  have hb9 : Below B (wr.alloc (PBox (K k) (A k) (N k) (F k))) w9 := (Below.refl _ _).grown hgr (by simp; omega) (fun g hg => (World.ownsRow.lt hown g hg).1)
  have hown2 : OwnPt w9 B v' (k + 1) K A N F := OwnPt.more hown'
  rcases Joins.ownsRow_forms hown' with ⟨_, h0⟩ | ⟨g, cap, rfl⟩
  · exact absurd h0 (by omega)
  · exact ⟨g, cap, w9, hrun, hown2, hb9⟩
set_option maxRecDepth 4000 in
set_option maxHeartbeats 8000000 in
theorem motion_any (sa : Option Addr) (n cap : Nat) (K A : Nat → Int) (N F : Nat → Nat) (w : World) (h : PtU w sa n K A N F) (hn : n ≤ 4398046511104) : Calls Try.prog 5 #[.slice sa n cap] w fun r w' => (∃ ta tc, r = .returned (.agg #[.slice ta n tc]) ∧ PtF w' ta n K A N F) ∧ Below w.heap.size w w' := by
  obtain ⟨t1, t2, t3, t4⟩ := two_b w (MoBox none 0 0) (MoBox none 0 0)
  obtain ⟨V, hV⟩ : ∃ V, Hid ((w.alloc (MoBox none 0 0)).alloc (MoBox none 0 0) = V) := ⟨_, rfl⟩
  rw [hV.out] at t1 t2 t3 t4
  have hV' := hV.out
  unfold MoBox at hV'
  have HP := hid h
  obtain ⟨rb, hrb⟩ : ∃ t, Hid (w.heap.size = t) := ⟨_, rfl⟩
  obtain ⟨mb, hmb⟩ : ∃ t, Hid (rb + 1 = t) := ⟨_, rfl⟩
  obtain ⟨B, hB⟩ : ∃ t, Hid (rb + 2 = t) := ⟨_, rfl⟩
  have HS : Hid (rb < mb ∧ mb < B ∧ rb = w.heap.size ∧ B = V.heap.size) := by
    have e1 := hrb.out; have e2 := hmb.out; have e3 := hB.out
    show _ ∧ _ ∧ _ ∧ _
    omega
  rw [hrb.out] at t1 t2
  rw [hmb.out] at t2
  have HF0 : Hid (FrF w V mb rb (MoBox none 0 0) (MoBox none 0 0)) := ⟨t3, t2, t1⟩
  have hrb' := hrb.out
  have hmb' := hmb.out
  clear t1 t2 t3 t4 h
  go_enter Try.func5, Try.ntmps5
  go_wp2_with fail
  go_loopw [4] (fun iv wr => ∃ (k : Nat) (ta : Option Addr) (tc : Nat), k ≤ n ∧ iv = .int .i64 k ∧ Hid (OwnPt wr B (.slice ta k tc) k K A N F) ∧ Hid (FrF w wr mb rb (MoBox ta k tc) (MoBox none 0 0)) ∧ Hid (B ≤ wr.heap.size)) (fun iv _ => n - (intOf iv).toNat)
  case atStart => exact ⟨0, none, 0, Nat.zero_le _, rfl, World.ownsRow_nil _ _ _ _, HF0, by have := HS.out.2.2.2; show B ≤ V.heap.size; omega⟩
  case round =>
    obtain ⟨k, ta, tc, hk, rfl, HO, HF, HBS⟩ := hrel
    by_cases hlt : k < n
    · obtain ⟨b, off, rfl, hbl, hcl⟩ := HP.out.2 (by omega)
      have hpc := pu_at hbl hcl HF.out.1 k hlt
      have HC : Hid (∀ W, Hid (Below w.heap.size w W) → PuC W b (off + k * 4) (K k) (A k) (N k) (F k) ∧ Hid (Below w.heap.size w W)) := fun W h => ⟨pu_at hbl hcl h.out k hlt, h⟩
      unfold PuC at HC hpc
      have hkI : (k : Int) < (n : Int) := by omega
      have hk0 : (0 : Int) ≤ (k : Int) := by omega
      have HFD := hid HF.out.drew
      have HOD : Hid (OwnPt wr.drew B (.slice ta k tc) k K A N F) := HO.out.keepG (fun g _ => rfl)
      obtain ⟨g, tc2, w9, hrun, hown, hb9⟩ := mo_append 24 HOD.out (by omega) HBS.out
      have HO9 := hid hown
      have hal : Below wr.drew.heap.size wr.drew (wr.drew.alloc (PBox (K k) (A k) (N k) (F k))) := (Below.refl _ _).alloc (Nat.le_refl _) _
      have HFA := hid (HFD.out.call hal)
      have HF9 : Hid (FrF w w9 mb rb (MoBox ta k tc) (MoBox none 0 0)) := ⟨HFA.out.1.trans (hb9.mono (by have := HS.out; omega)), (hb9.block _ (by have := HS.out; omega)).trans HFA.out.2.1, (hb9.block _ (by have := HS.out; omega)).trans HFA.out.2.2⟩
      have HZ9 : Hid (B ≤ w9.heap.size) := by have h1 := hb9.size; have h2 := HBS.out; rw [World.size_alloc] at h1; show B ≤ w9.heap.size; have : wr.drew.heap.size = wr.heap.size := rfl; omega
      have HF10 : Hid (FrF w (w9.setCell ⟨mb, 0, none⟩ (.slice (some ⟨g, 0, none⟩) (k + 1) tc2)) mb rb (MoBox (some ⟨g, 0, none⟩) (k + 1) tc2) (MoBox none 0 0)) := ⟨HF9.out.1.setCell (p := ⟨mb, 0, none⟩) (by have := HS.out; show w.heap.size ≤ mb; omega) _, moset HF9.out.2.1, (set_keepM (by have := HS.out; omega) _).trans HF9.out.2.2⟩
      have HO10 : Hid (OwnPt (w9.setCell ⟨mb, 0, none⟩ (.slice (some ⟨g, 0, none⟩) (k + 1) tc2)) B (.slice (some ⟨g, 0, none⟩) (k + 1) tc2) (k + 1) K A N F) := HO9.out.keepG (fun x hx => set_keepM (by have := HS.out; omega) _)
      have HZ10 : Hid (B ≤ (w9.setCell ⟨mb, 0, none⟩ (.slice (some ⟨g, 0, none⟩) (k + 1) tc2)).heap.size) := by have := HZ9.out; show B ≤ _; simp [World.setCell]; exact this
      have cmD := mocell_of HFD.out.2.1
      have cmA := mocell_of HFA.out.2.1
      have cm9 := mocell_of HF9.out.2.1
      have fz9 := mofrz HF9.out.2.1
      have HF1 := hid (fun W => f14_any (N k) W)
      have HF2 := hid (fun W => f14_any (F k) W)
      unfold PBox at hrun cmA
      obtain ⟨k1, hk1⟩ : ∃ t, K k = t := ⟨_, rfl⟩
      obtain ⟨a1, ha1⟩ : ∃ t, A k = t := ⟨_, rfl⟩
      obtain ⟨n1, hn1⟩ : ∃ t, N k = t := ⟨_, rfl⟩
      obtain ⟨f1, hf1⟩ : ∃ t, F k = t := ⟨_, rfl⟩
      rw [hk1, ha1, hn1, hf1] at HC hpc hrun cmA
      have HSA : Hid (Below w.heap.size w (wr.drew.alloc (.cells #[.int .i64 k1, .int .i64 a1, .float .f64 n1, .float .f64 f1] 45))) := by have := HFA.out.1; unfold PBox at this; rw [hk1, ha1, hn1, hf1] at this; exact this
      rw [hn1] at HF1
      rw [hf1] at HF2
      have hrun : (Builtin.append_ #[24, 24] 24 #[.slice ta k tc, .slice (some ⟨wr.heap.size, 0, none⟩) 1 1]).run Try.prog (wr.alloc (.cells #[.int .i64 k1, .int .i64 a1, .float .f64 n1, .float .f64 f1] 45)).drew = .ok (.slice (some ⟨g, 0, none⟩) (k + 1) tc2) w9 := hrun
      have cmA : (wr.alloc (.cells #[.int .i64 k1, .int .i64 a1, .float .f64 n1, .float .f64 f1] 45)).drew.cell? ⟨mb, 0, none⟩ = some (.slice ta k tc) := cmA
      clear hal hb9 hown hcl hk1 ha1 hn1 hf1 hpc
      go_wp2_with fail
      refine wp_region_held_drew (S := fun W => (W.cell? ⟨b, off + k * 4, none⟩ = some (.int .i64 k1) ∧ W.cell? ⟨b, off + k * 4 + 1, none⟩ = some (.int .i64 a1) ∧ W.cell? ⟨b, off + k * 4 + 2, none⟩ = some (.int .u64 ((n1 : Nat) : Int)) ∧ W.cell? ⟨b, off + k * 4 + 3, none⟩ = some (.int .u64 ((f1 : Nat) : Int))) ∧ Hid (Below w.heap.size w W)) (by kernel_rfl) (HC.out _ HFD.out.1) (fun hHeld => ?_)
      refine take_at 0 11 (.pointer (some ⟨mb, 0, none⟩)) rfl rfl (by kernel_rfl) (by kernel_rfl) (by kernel_rfl) (fun _ _ _ h => h) (Or.inl ⟨by rfl, fun w hSw => by (try dsimp only at hSw); go_simp⟩) (by assumption) ?_
      simp only [Act.put, List.setIfInBounds_toArray, List.set_cons_zero, List.set_cons_succ]
      refine take_at 2 13 (.slice (some ⟨b, off, none⟩) n cap) rfl rfl (by kernel_rfl) (by kernel_rfl) (by kernel_rfl) (fun _ _ _ h => h) (Or.inl ⟨by rfl, fun w hSw => by (try dsimp only at hSw); go_simp⟩) (by assumption) ?_
      simp only [Act.put, List.setIfInBounds_toArray, List.set_cons_zero, List.set_cons_succ]
      refine take_at 3 14 (.int .i64 k) rfl rfl (by kernel_rfl) (by kernel_rfl) (by kernel_rfl) (fun _ _ _ h => h) (Or.inl ⟨by rfl, fun w hSw => by (try dsimp only at hSw); go_simp⟩) (by assumption) ?_
      simp only [Act.put, List.setIfInBounds_toArray, List.set_cons_zero, List.set_cons_succ]
      refine take_at 4 15 (.pointer (some ⟨b, off + k * 4, none⟩)) rfl rfl (by kernel_rfl) (by kernel_rfl) (by kernel_rfl) (fun _ _ _ h => h) (Or.inl ⟨by rfl, fun w hSw => by (try dsimp only at hSw); go_simp⟩) (by assumption) ?_
      simp only [Act.put, List.setIfInBounds_toArray, List.set_cons_zero, List.set_cons_succ]
      refine take_at 5 16 (.pointer (some ⟨b, off + k * 4, none⟩)) rfl rfl (by kernel_rfl) (by kernel_rfl) (by kernel_rfl) (fun _ _ _ h => h) (Or.inl ⟨by rfl, fun w hSw => by (try dsimp only at hSw); go_simp⟩) (by assumption) ?_
      simp only [Act.put, List.setIfInBounds_toArray, List.set_cons_zero, List.set_cons_succ]
      refine take_at 6 17 (.int .i64 k1) rfl rfl (by kernel_rfl) (by kernel_rfl) (by kernel_rfl) (fun _ _ _ h => h) (Or.inl ⟨by rfl, fun w hSw => by (try dsimp only at hSw); go_simp⟩) (by assumption) ?_
      simp only [Act.put, List.setIfInBounds_toArray, List.set_cons_zero, List.set_cons_succ]
      refine take_at 7 18 (.slice (some ⟨b, off, none⟩) n cap) rfl rfl (by kernel_rfl) (by kernel_rfl) (by kernel_rfl) (fun _ _ _ h => h) (Or.inl ⟨by rfl, fun w hSw => by (try dsimp only at hSw); go_simp⟩) (by assumption) ?_
      simp only [Act.put, List.setIfInBounds_toArray, List.set_cons_zero, List.set_cons_succ]
      refine take_at 8 19 (.int .i64 k) rfl rfl (by kernel_rfl) (by kernel_rfl) (by kernel_rfl) (fun _ _ _ h => h) (Or.inl ⟨by rfl, fun w hSw => by (try dsimp only at hSw); go_simp⟩) (by assumption) ?_
      simp only [Act.put, List.setIfInBounds_toArray, List.set_cons_zero, List.set_cons_succ]
      refine take_at 9 20 (.pointer (some ⟨b, off + k * 4, none⟩)) rfl rfl (by kernel_rfl) (by kernel_rfl) (by kernel_rfl) (fun _ _ _ h => h) (Or.inl ⟨by rfl, fun w hSw => by (try dsimp only at hSw); go_simp⟩) (by assumption) ?_
      simp only [Act.put, List.setIfInBounds_toArray, List.set_cons_zero, List.set_cons_succ]
      refine take_at 10 21 (.pointer (some ⟨b, off + k * 4 + 1, none⟩)) rfl rfl (by kernel_rfl) (by kernel_rfl) (by kernel_rfl) (fun _ _ _ h => h) (Or.inl ⟨by rfl, fun w hSw => by (try dsimp only at hSw); go_simp⟩) (by assumption) ?_
      simp only [Act.put, List.setIfInBounds_toArray, List.set_cons_zero, List.set_cons_succ]
      refine take_at 11 22 (.int .i64 a1) rfl rfl (by kernel_rfl) (by kernel_rfl) (by kernel_rfl) (fun _ _ _ h => h) (Or.inl ⟨by rfl, fun w hSw => by (try dsimp only at hSw); go_simp⟩) (by assumption) ?_
      simp only [Act.put, List.setIfInBounds_toArray, List.set_cons_zero, List.set_cons_succ]
      refine take_at 12 23 (.slice (some ⟨b, off, none⟩) n cap) rfl rfl (by kernel_rfl) (by kernel_rfl) (by kernel_rfl) (fun _ _ _ h => h) (Or.inl ⟨by rfl, fun w hSw => by (try dsimp only at hSw); go_simp⟩) (by assumption) ?_
      simp only [Act.put, List.setIfInBounds_toArray, List.set_cons_zero, List.set_cons_succ]
      refine take_at 13 24 (.int .i64 k) rfl rfl (by kernel_rfl) (by kernel_rfl) (by kernel_rfl) (fun _ _ _ h => h) (Or.inl ⟨by rfl, fun w hSw => by (try dsimp only at hSw); go_simp⟩) (by assumption) ?_
      simp only [Act.put, List.setIfInBounds_toArray, List.set_cons_zero, List.set_cons_succ]
      refine take_at 14 25 (.pointer (some ⟨b, off + k * 4, none⟩)) rfl rfl (by kernel_rfl) (by kernel_rfl) (by kernel_rfl) (fun _ _ _ h => h) (Or.inl ⟨by rfl, fun w hSw => by (try dsimp only at hSw); go_simp⟩) (by assumption) ?_
      simp only [Act.put, List.setIfInBounds_toArray, List.set_cons_zero, List.set_cons_succ]
      refine take_at 15 26 (.pointer (some ⟨b, off + k * 4 + 2, none⟩)) rfl rfl (by kernel_rfl) (by kernel_rfl) (by kernel_rfl) (fun _ _ _ h => h) (Or.inl ⟨by rfl, fun w hSw => by (try dsimp only at hSw); go_simp⟩) (by assumption) ?_
      simp only [Act.put, List.setIfInBounds_toArray, List.set_cons_zero, List.set_cons_succ]
      refine take_at 16 27 (.int .u64 (n1 : Int)) rfl rfl (by kernel_rfl) (by kernel_rfl) (by kernel_rfl) (fun _ _ _ h => h) (Or.inl ⟨by rfl, fun w hSw => by (try dsimp only at hSw); go_simp⟩) (by assumption) ?_
      simp only [Act.put, List.setIfInBounds_toArray, List.set_cons_zero, List.set_cons_succ]
      refine take_at 18 29 (.slice (some ⟨b, off, none⟩) n cap) rfl rfl (by kernel_rfl) (by kernel_rfl) (by kernel_rfl) (fun _ _ _ h => h) (Or.inl ⟨by rfl, fun w hSw => by (try dsimp only at hSw); go_simp⟩) (by assumption) ?_
      simp only [Act.put, List.setIfInBounds_toArray, List.set_cons_zero, List.set_cons_succ]
      refine take_at 19 30 (.int .i64 k) rfl rfl (by kernel_rfl) (by kernel_rfl) (by kernel_rfl) (fun _ _ _ h => h) (Or.inl ⟨by rfl, fun w hSw => by (try dsimp only at hSw); go_simp⟩) (by assumption) ?_
      simp only [Act.put, List.setIfInBounds_toArray, List.set_cons_zero, List.set_cons_succ]
      refine take_at 20 31 (.pointer (some ⟨b, off + k * 4, none⟩)) rfl rfl (by kernel_rfl) (by kernel_rfl) (by kernel_rfl) (fun _ _ _ h => h) (Or.inl ⟨by rfl, fun w hSw => by (try dsimp only at hSw); go_simp⟩) (by assumption) ?_
      simp only [Act.put, List.setIfInBounds_toArray, List.set_cons_zero, List.set_cons_succ]
      refine take_at 21 32 (.pointer (some ⟨b, off + k * 4 + 3, none⟩)) rfl rfl (by kernel_rfl) (by kernel_rfl) (by kernel_rfl) (fun _ _ _ h => h) (Or.inl ⟨by rfl, fun w hSw => by (try dsimp only at hSw); go_simp⟩) (by assumption) ?_
      simp only [Act.put, List.setIfInBounds_toArray, List.set_cons_zero, List.set_cons_succ]
      refine take_at 22 33 (.int .u64 (f1 : Int)) rfl rfl (by kernel_rfl) (by kernel_rfl) (by kernel_rfl) (fun _ _ _ h => h) (Or.inl ⟨by rfl, fun w hSw => by (try dsimp only at hSw); go_simp⟩) (by assumption) ?_
      simp only [Act.put, List.setIfInBounds_toArray, List.set_cons_zero, List.set_cons_succ]
      refine wpAnyH_ready (rs := [1, 17]) (by kernel_rfl) (by simp) ?_
      refine AllReadyH.cons (o := _) rfl (fun K' hK => ?_) (AllReadyH.cons (o := _) rfl (fun K' hK => ?_) (AllReadyH.nil))
      · go_simp
        go_wp2_with fail
        refine hK.out _ _ (HC.out _ HFD.out.1) (fun hHeld1 => ?_)
        clear hK K'
        try simp only [Act.put, List.setIfInBounds_toArray, List.set_cons_zero, List.set_cons_succ]
        refine wpAnyH_ready (rs := [17]) (by kernel_rfl) (by simp) ?_
        refine AllReadyH.cons (o := _) rfl (fun K' hK => ?_) (AllReadyH.nil)
        go_simp
        refine (HF1.out _).mono ?_
        rintro e u1 ⟨rfl, hw⟩
        rw [hw]
        clear hw
        go_wp2_with fail
        refine hK.out _ _ (HC.out _ HFD.out.1) (fun hHeld1 => ?_)
        clear hK K'
        try simp only [Act.put, List.setIfInBounds_toArray, List.set_cons_zero, List.set_cons_succ]
        refine wpAnyH_ready (rs := [23]) (by kernel_rfl) (by simp) ?_
        refine AllReadyH.cons (o := _) rfl (fun K' hK => ?_) (AllReadyH.nil)
        go_simp
        refine (HF2.out _).mono ?_
        rintro e u1 ⟨rfl, hw⟩
        rw [hw]
        clear hw
        go_wp2_with fail
        refine hK.out _ _ (HC.out _ HFD.out.1) (fun hHeld1 => ?_)
        clear hK K'
        try simp only [Act.put, List.setIfInBounds_toArray, List.set_cons_zero, List.set_cons_succ]
        refine take_at 24 35 (.agg #[.int .i64 k1, .int .i64 a1, .float .f64 n1, .float .f64 f1]) rfl rfl (by kernel_rfl) (by kernel_rfl) (by kernel_rfl) (fun _ _ _ h => h) (Or.inl ⟨by rfl, fun w hSw => by (try dsimp only at hSw); go_simp⟩) (by assumption) ?_
        simp only [Act.put, List.setIfInBounds_toArray, List.set_cons_zero, List.set_cons_succ]
        refine wpAnyH_ready (rs := [25]) (by kernel_rfl) (by simp) ?_
        refine AllReadyH.cons (o := _) rfl (fun K' hK => ?_) (AllReadyH.nil)
        go_simp
        go_wp2_with fail
        refine hK.out _ _ (HC.out _ HSA) (fun hHeld1 => ?_)
        clear hK K'
        try simp only [Act.put, List.setIfInBounds_toArray, List.set_cons_zero, List.set_cons_succ]
        refine wpAnyH_ready (rs := [26]) (by kernel_rfl) (by simp) ?_
        refine AllReadyH.cons (o := _) rfl (fun K' hK => ?_) (AllReadyH.nil)
        refine step_app 24 rfl _ _ rfl (.slice ta k tc) (.slice (some ⟨wr.heap.size, 0, none⟩) 1 1) (by first | rfl | (simp [Act.eval]; done) | (simp [Act.eval, Act.put]; done)) (by first | rfl | (simp [Act.eval]; done) | (simp [Act.eval, Act.put]; done)) hrun ?_
        refine hK.out _ _ (HC.out _ HF9.out.1) (fun hHeld1 => ?_)
        clear hK K'
        simp only [Act.put, List.setIfInBounds_toArray]
        refine take_at 27 38 (.pointer (some ⟨mb, 0, none⟩)) rfl rfl (by kernel_rfl) (by kernel_rfl) (by kernel_rfl) (fun _ _ _ h => h) (Or.inl ⟨by rfl, fun w hSw => by (try dsimp only at hSw); go_simp⟩) (by assumption) ?_
        simp only [Act.put]
        refine wpAnyH_ready (rs := [28]) (by kernel_rfl) (by simp) ?_
        refine AllReadyH.cons (o := _) rfl (fun K' hK => ?_) (AllReadyH.nil)
        go_simp
        go_wp2_with fail
        refine hK.out _ _ (HC.out _ HF10.out.1) (fun hHeld1 => ?_)
        clear hK K'
        try simp only [Act.put, List.setIfInBounds_toArray, List.set_cons_zero, List.set_cons_succ]
        refine wpAnyH_done (by kernel_rfl) ?_ _
        go_wp2_with fail
        go_roundw
        case rel => exact ⟨k + 1, some ⟨g, 0, none⟩, tc2, by omega, by go_num, HO10, HF10, HZ10⟩
        case measure => simp [intOf]; omega
      · go_simp
        refine (HF1.out _).mono ?_
        rintro e u1 ⟨rfl, hw⟩
        rw [hw]
        clear hw
        go_wp2_with fail
        refine hK.out _ _ (HC.out _ HFD.out.1) (fun hHeld1 => ?_)
        clear hK K'
        try simp only [Act.put, List.setIfInBounds_toArray, List.set_cons_zero, List.set_cons_succ]
        refine wpAnyH_ready (rs := [1, 23]) (by kernel_rfl) (by simp) ?_
        refine AllReadyH.cons (o := _) rfl (fun K' hK => ?_) (AllReadyH.cons (o := _) rfl (fun K' hK => ?_) (AllReadyH.nil))
        · go_simp
          go_wp2_with fail
          refine hK.out _ _ (HC.out _ HFD.out.1) (fun hHeld1 => ?_)
          clear hK K'
          try simp only [Act.put, List.setIfInBounds_toArray, List.set_cons_zero, List.set_cons_succ]
          refine wpAnyH_ready (rs := [23]) (by kernel_rfl) (by simp) ?_
          refine AllReadyH.cons (o := _) rfl (fun K' hK => ?_) (AllReadyH.nil)
          go_simp
          refine (HF2.out _).mono ?_
          rintro e u1 ⟨rfl, hw⟩
          rw [hw]
          clear hw
          go_wp2_with fail
          refine hK.out _ _ (HC.out _ HFD.out.1) (fun hHeld1 => ?_)
          clear hK K'
          try simp only [Act.put, List.setIfInBounds_toArray, List.set_cons_zero, List.set_cons_succ]
          refine take_at 24 35 (.agg #[.int .i64 k1, .int .i64 a1, .float .f64 n1, .float .f64 f1]) rfl rfl (by kernel_rfl) (by kernel_rfl) (by kernel_rfl) (fun _ _ _ h => h) (Or.inl ⟨by rfl, fun w hSw => by (try dsimp only at hSw); go_simp⟩) (by assumption) ?_
          simp only [Act.put, List.setIfInBounds_toArray, List.set_cons_zero, List.set_cons_succ]
          refine wpAnyH_ready (rs := [25]) (by kernel_rfl) (by simp) ?_
          refine AllReadyH.cons (o := _) rfl (fun K' hK => ?_) (AllReadyH.nil)
          go_simp
          go_wp2_with fail
          refine hK.out _ _ (HC.out _ HSA) (fun hHeld1 => ?_)
          clear hK K'
          try simp only [Act.put, List.setIfInBounds_toArray, List.set_cons_zero, List.set_cons_succ]
          refine wpAnyH_ready (rs := [26]) (by kernel_rfl) (by simp) ?_
          refine AllReadyH.cons (o := _) rfl (fun K' hK => ?_) (AllReadyH.nil)
          refine step_app 24 rfl _ _ rfl (.slice ta k tc) (.slice (some ⟨wr.heap.size, 0, none⟩) 1 1) (by first | rfl | (simp [Act.eval]; done) | (simp [Act.eval, Act.put]; done)) (by first | rfl | (simp [Act.eval]; done) | (simp [Act.eval, Act.put]; done)) hrun ?_
          refine hK.out _ _ (HC.out _ HF9.out.1) (fun hHeld1 => ?_)
          clear hK K'
          simp only [Act.put, List.setIfInBounds_toArray]
          refine take_at 27 38 (.pointer (some ⟨mb, 0, none⟩)) rfl rfl (by kernel_rfl) (by kernel_rfl) (by kernel_rfl) (fun _ _ _ h => h) (Or.inl ⟨by rfl, fun w hSw => by (try dsimp only at hSw); go_simp⟩) (by assumption) ?_
          simp only [Act.put]
          refine wpAnyH_ready (rs := [28]) (by kernel_rfl) (by simp) ?_
          refine AllReadyH.cons (o := _) rfl (fun K' hK => ?_) (AllReadyH.nil)
          go_simp
          go_wp2_with fail
          refine hK.out _ _ (HC.out _ HF10.out.1) (fun hHeld1 => ?_)
          clear hK K'
          try simp only [Act.put, List.setIfInBounds_toArray, List.set_cons_zero, List.set_cons_succ]
          refine wpAnyH_done (by kernel_rfl) ?_ _
          go_wp2_with fail
          go_roundw
          case rel => exact ⟨k + 1, some ⟨g, 0, none⟩, tc2, by omega, by go_num, HO10, HF10, HZ10⟩
          case measure => simp [intOf]; omega
        · go_simp
          refine (HF2.out _).mono ?_
          rintro e u1 ⟨rfl, hw⟩
          rw [hw]
          clear hw
          go_wp2_with fail
          refine hK.out _ _ (HC.out _ HFD.out.1) (fun hHeld1 => ?_)
          clear hK K'
          try simp only [Act.put, List.setIfInBounds_toArray, List.set_cons_zero, List.set_cons_succ]
          refine take_at 24 35 (.agg #[.int .i64 k1, .int .i64 a1, .float .f64 n1, .float .f64 f1]) rfl rfl (by kernel_rfl) (by kernel_rfl) (by kernel_rfl) (fun _ _ _ h => h) (Or.inl ⟨by rfl, fun w hSw => by (try dsimp only at hSw); go_simp⟩) (by assumption) ?_
          simp only [Act.put, List.setIfInBounds_toArray, List.set_cons_zero, List.set_cons_succ]
          refine wpAnyH_ready (rs := [1, 25]) (by kernel_rfl) (by simp) ?_
          refine AllReadyH.cons (o := _) rfl (fun K' hK => ?_) (AllReadyH.cons (o := _) rfl (fun K' hK => ?_) (AllReadyH.nil))
          · go_simp
            go_wp2_with fail
            refine hK.out _ _ (HC.out _ HFD.out.1) (fun hHeld1 => ?_)
            clear hK K'
            try simp only [Act.put, List.setIfInBounds_toArray, List.set_cons_zero, List.set_cons_succ]
            refine wpAnyH_ready (rs := [25]) (by kernel_rfl) (by simp) ?_
            refine AllReadyH.cons (o := _) rfl (fun K' hK => ?_) (AllReadyH.nil)
            go_simp
            go_wp2_with fail
            refine hK.out _ _ (HC.out _ HSA) (fun hHeld1 => ?_)
            clear hK K'
            try simp only [Act.put, List.setIfInBounds_toArray, List.set_cons_zero, List.set_cons_succ]
            refine wpAnyH_ready (rs := [26]) (by kernel_rfl) (by simp) ?_
            refine AllReadyH.cons (o := _) rfl (fun K' hK => ?_) (AllReadyH.nil)
            refine step_app 24 rfl _ _ rfl (.slice ta k tc) (.slice (some ⟨wr.heap.size, 0, none⟩) 1 1) (by first | rfl | (simp [Act.eval]; done) | (simp [Act.eval, Act.put]; done)) (by first | rfl | (simp [Act.eval]; done) | (simp [Act.eval, Act.put]; done)) hrun ?_
            refine hK.out _ _ (HC.out _ HF9.out.1) (fun hHeld1 => ?_)
            clear hK K'
            simp only [Act.put, List.setIfInBounds_toArray]
            refine take_at 27 38 (.pointer (some ⟨mb, 0, none⟩)) rfl rfl (by kernel_rfl) (by kernel_rfl) (by kernel_rfl) (fun _ _ _ h => h) (Or.inl ⟨by rfl, fun w hSw => by (try dsimp only at hSw); go_simp⟩) (by assumption) ?_
            simp only [Act.put]
            refine wpAnyH_ready (rs := [28]) (by kernel_rfl) (by simp) ?_
            refine AllReadyH.cons (o := _) rfl (fun K' hK => ?_) (AllReadyH.nil)
            go_simp
            go_wp2_with fail
            refine hK.out _ _ (HC.out _ HF10.out.1) (fun hHeld1 => ?_)
            clear hK K'
            try simp only [Act.put, List.setIfInBounds_toArray, List.set_cons_zero, List.set_cons_succ]
            refine wpAnyH_done (by kernel_rfl) ?_ _
            go_wp2_with fail
            go_roundw
            case rel => exact ⟨k + 1, some ⟨g, 0, none⟩, tc2, by omega, by go_num, HO10, HF10, HZ10⟩
            case measure => simp [intOf]; omega
          · go_simp
            go_wp2_with fail
            refine hK.out _ _ (HC.out _ HSA) (fun hHeld1 => ?_)
            clear hK K'
            try simp only [Act.put, List.setIfInBounds_toArray, List.set_cons_zero, List.set_cons_succ]
            refine wpAnyH_ready (rs := [1]) (by kernel_rfl) (by simp) ?_
            refine AllReadyH.cons (o := _) rfl (fun K' hK => ?_) (AllReadyH.nil)
            go_simp
            go_wp2_with fail
            refine hK.out _ _ (HC.out _ HSA) (fun hHeld1 => ?_)
            clear hK K'
            try simp only [Act.put, List.setIfInBounds_toArray, List.set_cons_zero, List.set_cons_succ]
            refine wpAnyH_ready (rs := [26]) (by kernel_rfl) (by simp) ?_
            refine AllReadyH.cons (o := _) rfl (fun K' hK => ?_) (AllReadyH.nil)
            refine step_app 24 rfl _ _ rfl (.slice ta k tc) (.slice (some ⟨wr.heap.size, 0, none⟩) 1 1) (by first | rfl | (simp [Act.eval]; done) | (simp [Act.eval, Act.put]; done)) (by first | rfl | (simp [Act.eval]; done) | (simp [Act.eval, Act.put]; done)) hrun ?_
            refine hK.out _ _ (HC.out _ HF9.out.1) (fun hHeld1 => ?_)
            clear hK K'
            simp only [Act.put, List.setIfInBounds_toArray]
            refine take_at 27 38 (.pointer (some ⟨mb, 0, none⟩)) rfl rfl (by kernel_rfl) (by kernel_rfl) (by kernel_rfl) (fun _ _ _ h => h) (Or.inl ⟨by rfl, fun w hSw => by (try dsimp only at hSw); go_simp⟩) (by assumption) ?_
            simp only [Act.put]
            refine wpAnyH_ready (rs := [28]) (by kernel_rfl) (by simp) ?_
            refine AllReadyH.cons (o := _) rfl (fun K' hK => ?_) (AllReadyH.nil)
            go_simp
            go_wp2_with fail
            refine hK.out _ _ (HC.out _ HF10.out.1) (fun hHeld1 => ?_)
            clear hK K'
            try simp only [Act.put, List.setIfInBounds_toArray, List.set_cons_zero, List.set_cons_succ]
            refine wpAnyH_done (by kernel_rfl) ?_ _
            go_wp2_with fail
            go_roundw
            case rel => exact ⟨k + 1, some ⟨g, 0, none⟩, tc2, by omega, by go_num, HO10, HF10, HZ10⟩
            case measure => simp [intOf]; omega
    · obtain rfl : k = n := by omega
      have c1 := mocell_of HF.out.2.1
      have c2 := mocell_of HF.out.2.2
      have f2 := mofrz HF.out.2.2
      have hkI : ¬ (k : Int) < (k : Int) := by omega
      have HOE : Hid (OwnPt (wr.setCell ⟨rb, 0, none⟩ (.slice ta k tc)) B (.slice ta k tc) k K A N F) := HO.out.keepG (fun x hx => set_keepM (by have := HS.out; omega) _)
      have HBE : Hid (Below w.heap.size w (wr.setCell ⟨rb, 0, none⟩ (.slice ta k tc))) := HF.out.1.setCell (p := ⟨rb, 0, none⟩) (by have := HS.out; show w.heap.size ≤ rb; omega) _
      go_wp2_with fail
      refine bodyPost_ret (v := .agg #[.slice ta k tc]) (by simp [results, Try.results5, go_sem, c2]) rfl ?_
      obtain ⟨sa', cap', e, hp⟩ := HOE.out.at HP.out.1
      cases e
      have hbe := HBE.out
      rw [hrb'] at hbe
      first | exact ⟨⟨ta, tc, rfl, hp⟩, hbe⟩ | exact ⟨⟨ta, ⟨tc, rfl⟩, hp⟩, hbe⟩
end Go.Proofs.Ytggiklghcnojiaa
