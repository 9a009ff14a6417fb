
/- matrix: Mul, Transpose, Add. (Written by mkmxh.py.) -/
import Derived.Test.YtehgiegmdpaomaaP25
namespace Go.Proofs.Ytehgiegmdpaomaa
open Go.RowKit Go.IntWalk

/-- Two variables that hold matrices as they were laid. -/
def Fr3 (w W : World) (p0 p1 : Nat) (A B : Obj) : Prop := Below w.heap.size w W ∧ W.heap[p0]? = some A ∧ W.heap[p1]? = some B
theorem Fr3.drew {w W : World} {p0 p1 : Nat} {A B : Obj} (h : Fr3 w W p0 p1 A B) : Fr3 w W.drew p0 p1 A B := ⟨h.1.drew, h.2.1, h.2.2⟩
theorem Fr3.call {w W W' : World} {p0 p1 : Nat} {A B : Obj} (h : Fr3 w W p0 p1 A B) (hb : Below W.heap.size W W') : Fr3 w W' p0 p1 A B := ⟨h.1.trans (hb.mono h.1.size), blkM h.2.1 hb, blkM h.2.2 hb⟩
theorem Fr3.sto {w W : World} {p0 p1 b : Nat} {A B : Obj} {r c : Int} {sa : Option Addr} {n cap : Nat} (h : Fr3 w W p0 p1 A B) (h0 : p0 ≠ b) (h1 : p1 ≠ b) (hb : w.heap.size ≤ b) : Fr3 w (StoM W b r c sa n cap) p0 p1 A B := ⟨StoM.below h.1 hb, (StoM.keep h0).trans h.2.1, (StoM.keep h1).trans h.2.2⟩
theorem chk_good {r c n : Nat} {xs : List Nat} (hr : r ≤ 12) (hc : c ≤ 12) (hn : n = r * c) (hf : finM xs = true) : chkM r c n xs = 0 := by
  unfold chkM sideB
  rw [if_neg (by simp; omega), if_neg (by rw [hn]; simp), if_neg (by rw [hf]; simp)]
theorem chk_some {r c : Int} {n : Nat} {xs : List Nat} (h : chkM r c n xs = 0) : ∃ a b : Nat, r = a ∧ c = b ∧ a ≤ 12 ∧ b ≤ 12 ∧ n = a * b ∧ finM xs = true := by
  unfold chkM at h
  by_cases h1 : sideB r = false ∨ sideB c = false
  · rw [if_pos h1] at h; cases h
  rw [if_neg h1] at h
  by_cases h2 : (n : Int) ≠ r * c
  · rw [if_pos h2] at h; cases h
  rw [if_neg h2] at h
  by_cases h3 : finM xs = false
  · rw [if_pos h3] at h; cases h
  have hr : 0 ≤ r ∧ r ≤ 12 := by
    have : sideB r = true := by revert h1; cases sideB r <;> simp
    unfold sideB at this; simpa using this
  have hc : 0 ≤ c ∧ c ≤ 12 := by
    have : sideB c = true := by revert h1; cases sideB c <;> simp
    unfold sideB at this; simpa using this
  obtain ⟨a, rfl⟩ := Int.eq_ofNat_of_zero_le hr.1
  obtain ⟨b, rfl⟩ := Int.eq_ofNat_of_zero_le hc.1
  refine ⟨a, b, rfl, rfl, by omega, by omega, ?_, by revert h3; cases finM xs <;> simp⟩
  have h4 : (n : Int) = (a : Int) * (b : Int) := by
    apply Classical.byContradiction
    intro h5
    exact h2 h5
  exact_mod_cast h4
/-- A good matrix. -/
def Gd (w : World) (r c : Nat) (sa : Option Addr) (n cap : Nat) (f : Nat → Nat) : Prop := r ≤ 12 ∧ c ≤ 12 ∧ n = r * c ∧ FnM w sa n cap f ∧ finF n f = true
theorem Gd.below {w w' : World} {r c : Nat} {sa : Option Addr} {n cap : Nat} {f : Nat → Nat} (h : Gd w r c sa n cap f) (hb : Below w.heap.size w w') : Gd w' r c sa n cap f := ⟨h.1, h.2.1, h.2.2.1, h.2.2.2.1.below hb, h.2.2.2.2⟩
theorem Gd.le {w : World} {r c : Nat} {sa : Option Addr} {n cap : Nat} {f : Nat → Nat} (h : Gd w r c sa n cap f) : n ≤ 144 := by
  rw [h.2.2.1]; exact Nat.mul_le_mul h.1 h.2.1
theorem Gd.chk {w : World} {r c : Nat} {sa : Option Addr} {n cap : Nat} {f : Nat → Nat} (h : Gd w r c sa n cap f) : chkM r c n ((List.range n).map f) = 0 := chk_good h.1 h.2.1 h.2.2.1 h.2.2.2.2
/-- What a call hands back: the matrix, or none beside ErrOver. -/
def AnsM (r c N g : Nat) (o : Nat → Nat) : Value := .tuple #[if finF N o = true then MV r c (some ⟨g, 0, none⟩) N N else MV 0 0 none 0 0, .int .i64 (if finF N o = true then 0 else 5)]
set_option maxRecDepth 4000 in
set_option maxHeartbeats 2000000 in
theorem Mul_ok (r c r2 c2 n n2 : Nat) (sa sb : Option Addr) (ka kb : Nat) (f f2 : Nat → Nat) (w : World) (ha : Gd w r c sa n ka f) (hb : Gd w r2 c2 sb n2 kb f2) (hs : c = r2) :
    Calls Try.prog 14 #[MV r c sa n ka, MV r2 c2 sb n2 kb] w fun e w' => (∃ (g : Nat) (o : Nat → Nat), e = .returned (AnsM r c2 (r * c2) g o) ∧ FnM w' (some ⟨g, 0, none⟩) (r * c2) (r * c2) o ∧ ∀ i j, i < r → j < c2 → canonOf (o (i * c2 + j)) = dotM (fun k => f (i * c + k)) (fun k => f2 (k * c2 + j)) c) ∧ Below w.heap.size w w' := by
  obtain ⟨t1, t2, t3, t4, t5⟩ := three_b w (MBox r c sa n ka) (MBox r2 c2 sb n2 kb) (MBox 0 0 none 0 0)
  have HCB := hid (fun W (hW : Below w.heap.size w W) => checkBoth_any r c r2 c2 n n2 sa sb ka kb _ _ W ((ha.below hW).2.2.2.1.fl) ((hb.below hW).2.2.2.1.fl) (by have := ha.le; omega) (by have := hb.le; omega))
  rw [ha.chk, hb.chk, show first2 0 0 = 0 by rfl] at HCB
  have l1 := ha.1
  have l2 := ha.2.1
  have l3 := hb.1
  have l4 := hb.2.1
  have hm3 : r * c2 ≤ 144 := Nat.mul_le_mul l1 l4
  have hm1 : c2 * r2 ≤ 144 := Nat.mul_le_mul l4 l3
  have HM1 : Hid (c2 * r2 ≤ 9223372036854775807) := by show _ ≤ _; omega
  have HM2 : Hid (r * c2 ≤ 9223372036854775807) := by show _ ≤ _; omega
  have HM3 := hid hm3
  have HTU : Hid (∀ W, Below w.heap.size w W → Calls Try.prog 39 #[.agg #[.int .i64 r2, .int .i64 c2, .slice sb n2 kb]] W fun e w' => FillR (fun i j x => x = f2 (j * c2 + i)) c2 r2 (c2 * r2) W.heap.size e w' ∧ Below W.heap.size W w') := fun W hW => turned_any r2 c2 n2 sb kb f2 W (hb.below hW).2.2.2.1 (by rw [hb.2.2.1]; exact Nat.le_refl _) (by omega) (by omega)
  have HBY : Hid (∀ W (g1 : Nat) (o1 : Nat → Nat), Below w.heap.size w W → FnM W (some ⟨g1, 0, none⟩) (c2 * r2) (c2 * r2) o1 → Calls Try.prog 38 #[.agg #[.int .i64 r, .int .i64 c, .slice sa n ka], .agg #[.int .i64 c2, .int .i64 r2, .slice (some ⟨g1, 0, none⟩) (c2 * r2) (c2 * r2)]] W fun e w' => FillR (fun i j x => canonOf x = dotM (fun k => f (i * c + k)) (fun k => o1 (j * c + k)) c) r c2 (r * c2) W.heap.size e w' ∧ Below W.heap.size W w') := fun W g1 o1 hW h1 => by
    subst hs
    exact byRows_any r c2 c n _ sa _ ka _ f o1 W (ha.below hW).2.2.2.1 h1 (by rw [ha.2.2.1]; exact Nat.le_refl _) (Nat.le_refl _) (by omega) (by omega) (by omega)
  have HVAL : Hid (∀ o1 o2 : Nat → Nat, (∀ i j, i < c2 → j < r2 → o1 (i * r2 + j) = f2 (j * c2 + i)) → (∀ i j, i < r → j < c2 → canonOf (o2 (i * c2 + j)) = dotM (fun k => f (i * c + k)) (fun k => o1 (j * c + k)) c) → ∀ i j, i < r → j < c2 → canonOf (o2 (i * c2 + j)) = dotM (fun k => f (i * c + k)) (fun k => f2 (k * c2 + j)) c) := fun o1 o2 h1 h2 i j hi hj => by
    rw [h2 i j hi hj]
    refine dotM_congr c (fun _ _ => rfl) (fun k hk => ?_)
    subst hs
    exact h1 j k hj hk
  have hne : ((c : Int) != (r2 : Int)) = false := by rw [hs]; simp
  obtain ⟨V, hV⟩ : ∃ V, Hid (((w.alloc (MBox r c sa n ka)).alloc (MBox r2 c2 sb n2 kb)).alloc (MBox 0 0 none 0 0) = V) := ⟨_, rfl⟩
  rw [hV.out] at t1 t2 t3 t4 t5
  have hV' := hV.out
  unfold MBox at hV'
  obtain ⟨p0, hp0⟩ : ∃ t, Hid (w.heap.size = t) := ⟨_, rfl⟩
  obtain ⟨p1, hp1⟩ : ∃ t, Hid (p0 + 1 = t) := ⟨_, rfl⟩
  obtain ⟨rb, hrb⟩ : ∃ t, Hid (p1 + 1 = t) := ⟨_, rfl⟩
  have HNE : Hid (p0 ≠ rb ∧ p1 ≠ rb ∧ w.heap.size ≤ rb) := by
    have e1 := hp0.out; have e2 := hp1.out; have e3 := hrb.out
    show _ ∧ _ ∧ _
    omega
  rw [hp0.out] at t1 t2 t3
  rw [hp1.out] at t2 t3
  rw [hrb.out] at t3
  have HV0 : Hid (Fr3 w V p0 p1 (MBox r c sa n ka) (MBox r2 c2 sb n2 kb)) := ⟨t4, t1, t2⟩
  have HRV := hid t3
  have hp0' := hp0.out
  have hp1' := hp1.out
  have hrb' := hrb.out
  have HKS : Hid (∀ W, Hid (Fr3 w W p0 p1 (MBox r c sa n ka) (MBox r2 c2 sb n2 kb)) → (W.cell? ⟨p0, 0, none⟩ = some (.int .i64 r) ∧ W.cell? ⟨p0, 1, none⟩ = some (.int .i64 c) ∧ W.cell? ⟨p0, 2, none⟩ = some (.slice sa n ka) ∧ W.cell? ⟨p1, 0, none⟩ = some (.int .i64 r2) ∧ W.cell? ⟨p1, 1, none⟩ = some (.int .i64 c2) ∧ W.cell? ⟨p1, 2, none⟩ = some (.slice sb n2 kb)) ∧ Hid (Fr3 w W p0 p1 (MBox r c sa n ka) (MBox r2 c2 sb n2 kb))) := fun W hW => by
    obtain ⟨a0, a1, a2⟩ := mcells_of hW.out.2.1
    obtain ⟨b0, b1, b2⟩ := mcells_of hW.out.2.2
    exact ⟨⟨a0, a1, a2, b0, b1, b2⟩, hW⟩
  obtain ⟨x0, x1, x2⟩ := mcells_of t1
  obtain ⟨v0, v1, v2⟩ := mcells_of t2
  unfold MV at HCB ⊢
  clear t1 t2 t3 t4 t5 ha hb l1 l2 l3 l4 hm1 hm3 hs
  go_enter Try.func14, Try.ntmps14
  go_wp2_with fail
  refine (HCB.out _ HV0.out.1).mono ?_
  rintro e w1 ⟨rfl, hb1⟩
  have HQQ := hid (HV0.out.call hb1)
  have HRB0 := hid (blkM HRV.out hb1)
  obtain ⟨x0, x1, x2⟩ := mcells_of HQQ.out.2.1
  obtain ⟨v0, v1, v2⟩ := mcells_of HQQ.out.2.2
  clear hb1
  go_wp2_with fail
  have HQ0 : Hid (Fr3 w w1.drew p0 p1 (MBox r c sa n ka) (MBox r2 c2 sb n2 kb)) := HQQ.out.drew
  have HRB : Hid (w1.drew.heap[rb]? = some (MBox 0 0 none 0 0)) := HRB0.out
  refine wp_region_held_drew (S := fun W => (W.cell? ⟨p0, 0, none⟩ = some (.int .i64 r) ∧ W.cell? ⟨p0, 1, none⟩ = some (.int .i64 c) ∧ W.cell? ⟨p0, 2, none⟩ = some (.slice sa n ka) ∧ W.cell? ⟨p1, 0, none⟩ = some (.int .i64 r2) ∧ W.cell? ⟨p1, 1, none⟩ = some (.int .i64 c2) ∧ W.cell? ⟨p1, 2, none⟩ = some (.slice sb n2 kb)) ∧ Hid (Fr3 w W p0 p1 (MBox r c sa n ka) (MBox r2 c2 sb n2 kb))) (by kernel_rfl) (HKS.out _ HQ0) (fun hHeld => ?_)
  refine take_at 0 24 (.agg #[.int .i64 r, .int .i64 c, .slice sa n ka]) rfl rfl (by kernel_rfl) (by kernel_rfl) (by kernel_rfl) (fun _ _ _ h => h) (Or.inl ⟨by rfl, fun w hSw => by (try dsimp only at hSw); go_simp⟩) (by assumption) ?_
  simp only [Act.put, List.setIfInBounds_toArray, List.set_cons_zero, List.set_cons_succ]
  refine take_at 1 25 (.agg #[.int .i64 r2, .int .i64 c2, .slice sb n2 kb]) rfl rfl (by kernel_rfl) (by kernel_rfl) (by kernel_rfl) (fun _ _ _ h => h) (Or.inl ⟨by rfl, fun w hSw => by (try dsimp only at hSw); go_simp⟩) (by assumption) ?_
  simp only [Act.put, List.setIfInBounds_toArray, List.set_cons_zero, List.set_cons_succ]
  refine wpAnyH_ready (rs := [2]) (by kernel_rfl) (by simp) ?_
  refine AllReadyH.cons (o := _) rfl (fun K hK => ?_) AllReadyH.nil
  go_simp
  refine (HTU.out _ HQ0.out.1).mono ?_
  rintro e u1 ⟨hfi, hb1⟩
  obtain ⟨g1, o1, rfl, hg1, hf1, hp1⟩ := hfi.fn HM1.out
  have HG1 := hid (HQ0.out.call hb1)
  have HF1 := hid hf1
  have HP1 := hid hp1
  have HU1 := hid (blkM HRB.out hb1)
  unfold MV
  clear hfi hb1 hg1 hf1 hp1
  go_wp2_with fail
  refine hK.out _ _ (HKS.out _ HG1) (fun hHeld1 => ?_)
  clear hK K
  try simp only [Act.put, List.setIfInBounds_toArray, List.set_cons_zero, List.set_cons_succ]
  refine wpAnyH_ready (rs := [3]) (by kernel_rfl) (by simp) ?_
  refine AllReadyH.cons (o := _) rfl (fun K hK => ?_) AllReadyH.nil
  go_simp
  refine (HBY.out _ g1 o1 HG1.out.1 HF1.out).mono ?_
  rintro e u2 ⟨hfi, hb2⟩
  obtain ⟨g2, o2, rfl, hg2, hf2, hp2⟩ := hfi.fn HM2.out
  have HG2 := hid (HG1.out.call hb2)
  have HF2 := hid hf2
  have HP2 := hid hp2
  have HU2 := hid (blkM HU1.out hb2)
  unfold MV
  clear hfi hb2 hg2 hf2 hp2
  go_wp2_with fail
  refine hK.out _ _ (HKS.out _ HG2) (fun hHeld2 => ?_)
  clear hK K
  try simp only [Act.put, List.setIfInBounds_toArray, List.set_cons_zero, List.set_cons_succ]
  refine wpAnyH_ready (rs := [4]) (by kernel_rfl) (by simp) ?_
  refine AllReadyH.cons (o := _) rfl (fun K hK => ?_) AllReadyH.nil
  go_simp
  refine (answered_any r c2 (r * c2) _ (r * c2) o2 u2 HF2.out (by have := HM3.out; omega)).mono ?_
  rintro e u3 ⟨rfl, hk3, hb3⟩
  have HG3 := hid (HG2.out.call hb3)
  have HF3 := hid (hk3 _ _ _ _ HF2.out)
  have HU3 := hid (blkM HU2.out hb3)
  obtain ⟨X0, X1, X2, X3, X4, hXX⟩ : ∃ a b s m k, Hid ((if finF (r * c2) o2 = true then MV r c2 (some ⟨g2, 0, none⟩) (r * c2) (r * c2) else MV 0 0 none 0 0) = MV a b s m k) := by
    by_cases q : finF (r * c2) o2 = true
    · exact ⟨r, c2, _, _, _, by show _ = _; rw [if_pos q]⟩
    · exact ⟨0, 0, _, _, _, by show _ = _; rw [if_neg q]⟩
  obtain ⟨E, hE⟩ : ∃ E, Hid ((if finF (r * c2) o2 = true then 0 else 5 : Int) = E) := ⟨_, rfl⟩
  rw [hXX.out, hE.out]
  unfold MV
  clear hk3 hb3
  go_wp2_with fail
  refine hK.out _ _ (HKS.out _ HG3) (fun hHeld3 => ?_)
  clear hK K
  try simp only [Act.put, List.setIfInBounds_toArray, List.set_cons_zero, List.set_cons_succ]
  refine take_at 5 29 (.agg #[.int .i64 X0, .int .i64 X1, .slice X2 X3 X4]) rfl rfl (by kernel_rfl) (by kernel_rfl) (by kernel_rfl) (fun _ _ _ h => h) (Or.inl ⟨by rfl, fun w hSw => by (try dsimp only at hSw); go_simp⟩) (by assumption) ?_
  simp only [Act.put, List.setIfInBounds_toArray, List.set_cons_zero, List.set_cons_succ]
  refine take_at 6 30 (.int .i64 E) rfl rfl (by kernel_rfl) (by kernel_rfl) (by kernel_rfl) (fun _ _ _ h => h) (Or.inl ⟨by rfl, fun w hSw => by (try dsimp only at hSw); go_simp⟩) (by assumption) ?_
  simp only [Act.put, List.setIfInBounds_toArray, List.set_cons_zero, List.set_cons_succ]
  obtain ⟨y0, y1, y2⟩ := mcells_of HU3.out
  have fz := frzM HU3.out
  have HG4 : Hid (Fr3 w (StoM u3 rb X0 X1 X2 X3 X4) p0 p1 (MBox r c sa n ka) (MBox r2 c2 sb n2 kb)) := HG3.out.sto HNE.out.1 HNE.out.2.1 HNE.out.2.2
  unfold StoM at HG4
  refine wpAnyH_ready (rs := [7]) (by kernel_rfl) (by simp) ?_
  refine AllReadyH.cons (o := _) rfl (fun K hK => ?_) AllReadyH.nil
  go_simp
  go_wp2_with fail
  refine hK.out _ _ (HKS.out _ HG4) (fun hHeld4 => ?_)
  clear hK K
  try simp only [Act.put, List.setIfInBounds_toArray, List.set_cons_zero, List.set_cons_succ]
  refine take_at 8 5 (.int .i64 E) rfl rfl (by kernel_rfl) (by kernel_rfl) (by kernel_rfl) (fun _ _ _ h => h) (Or.inl ⟨by rfl, fun w hSw => by (try dsimp only at hSw); go_simp⟩) (by assumption) ?_
  simp only [Act.put, List.setIfInBounds_toArray, List.set_cons_zero, List.set_cons_succ]
  refine wpAnyH_done (by kernel_rfl) ?_ _

  go_wp2_with fail
  refine bodyPost_ret (v := AnsM r c2 (r * c2) g2 o2) (by unfold AnsM; rw [hXX.out, hE.out]; simp [results, Try.results14, go_sem, y0, y1, y2, MV]) rfl ⟨⟨g2, o2, rfl, StoM.fn HF3.out HU3.out, HVAL.out o1 o2 HP1.out HP2.out⟩, HG4.out.1⟩
end Go.Proofs.Ytehgiegmdpaomaa

namespace Go.Proofs.Ytehgiegmdpaomaa
open Go.RowKit Go.IntWalk

/-- Nothing beside an error. -/
def NonM (E : Int) : Value := .tuple #[MV 0 0 none 0 0, .int .i64 E]
set_option maxRecDepth 4000 in
set_option maxHeartbeats 1000000 in
theorem Mul_bad (r c r2 c2 : Int) (n n2 : Nat) (sa sb : Option Addr) (ka kb : Nat) (xs ys : List Nat) (w : World) (ha : FlM w sa n ka xs) (hb : FlM w sb n2 kb ys) (hn : n ≤ 17592186043904) (hn2 : n2 ≤ 17592186043904) (hE : first2 (chkM r c n xs) (chkM r2 c2 n2 ys) ≠ 0) :
    Calls Try.prog 14 #[MV r c sa n ka, MV r2 c2 sb n2 kb] w fun e w' => e = .returned (NonM (first2 (chkM r c n xs) (chkM r2 c2 n2 ys))) ∧ Below w.heap.size w w' := by
  obtain ⟨t1, t2, t3, t4, t5⟩ := three_b w (MBox r c sa n ka) (MBox r2 c2 sb n2 kb) (MBox 0 0 none 0 0)
  have HCB := hid (fun W (hW : Below w.heap.size w W) => checkBoth_any r c r2 c2 n n2 sa sb ka kb _ _ W (ha.below hW) (hb.below hW) hn hn2)
  obtain ⟨E, hEE⟩ : ∃ E, Hid (first2 (chkM r c n xs) (chkM r2 c2 n2 ys) = E) := ⟨_, rfl⟩
  rw [hEE.out] at HCB hE
  rw [hEE.out]
  have hne : (E != 0) = true := by simpa using hE
  obtain ⟨V, hV⟩ : ∃ V, Hid (((w.alloc (MBox r c sa n ka)).alloc (MBox r2 c2 sb n2 kb)).alloc (MBox 0 0 none 0 0) = V) := ⟨_, rfl⟩
  rw [hV.out] at t1 t2 t3 t4 t5
  have hV' := hV.out
  have HB := hid t4
  have HR := hid t3
  obtain ⟨x0, x1, x2⟩ := mcells_of t1
  obtain ⟨v0, v1, v2⟩ := mcells_of t2
  unfold MBox at hV'
  unfold NonM
  unfold MV at HCB ⊢
  clear t1 t2 t3 t4 t5 ha hb hn hn2 hE
  go_enter Try.func14, Try.ntmps14
  go_wp2_with fail
  refine (HCB.out _ HB.out).mono ?_
  rintro e w1 ⟨rfl, hb1⟩
  have HB1 := hid (HB.out.trans (hb1.mono HB.out.size))
  have HR1 := hid (blkM HR.out hb1)
  clear hb1
  go_wp2_with fail
  refine (refused_any E _).mono ?_
  rintro e w2 ⟨rfl, hb2⟩
  have HB2 := hid (HB1.out.trans (hb2.mono HB1.out.size))
  have HR2 := hid (blkM HR1.out hb2)
  obtain ⟨r0, r1, r2⟩ := mcells_of HR2.out
  have fz := frzM HR2.out
  unfold MV
  clear hb2
  go_wp2_with fail
  exact bodyPost_ret (v := .tuple #[MV 0 0 none 0 0, .int .i64 E]) (by simp [results, Try.results14, go_sem, r0, r1, r2, MV]) rfl ⟨rfl, StoM.below HB2.out (by omega)⟩
set_option maxRecDepth 4000 in
set_option maxHeartbeats 1000000 in
theorem Mul_shape (r c r2 c2 n n2 : Nat) (sa sb : Option Addr) (ka kb : Nat) (f f2 : Nat → Nat) (w : World) (ha : Gd w r c sa n ka f) (hb : Gd w r2 c2 sb n2 kb f2) (hs : c ≠ r2) :
    Calls Try.prog 14 #[MV r c sa n ka, MV r2 c2 sb n2 kb] w fun e w' => e = .returned (NonM 3) ∧ Below w.heap.size w w' := by
  obtain ⟨t1, t2, t3, t4, t5⟩ := three_b w (MBox r c sa n ka) (MBox r2 c2 sb n2 kb) (MBox 0 0 none 0 0)
  have HCB := hid (fun W (hW : Below w.heap.size w W) => checkBoth_any r c r2 c2 n n2 sa sb ka kb _ _ W ((ha.below hW).2.2.2.1.fl) ((hb.below hW).2.2.2.1.fl) (by have := ha.le; omega) (by have := hb.le; omega))
  rw [ha.chk, hb.chk, show first2 0 0 = 0 by rfl] at HCB
  have hne : ((c : Int) != (r2 : Int)) = true := by simp; omega
  obtain ⟨V, hV⟩ : ∃ V, Hid (((w.alloc (MBox r c sa n ka)).alloc (MBox r2 c2 sb n2 kb)).alloc (MBox 0 0 none 0 0) = V) := ⟨_, rfl⟩
  rw [hV.out] at t1 t2 t3 t4 t5
  have hV' := hV.out
  have HB := hid t4
  have HR := hid t3
  have HA0 := hid t1
  have HA1 := hid t2
  obtain ⟨x0, x1, x2⟩ := mcells_of t1
  obtain ⟨v0, v1, v2⟩ := mcells_of t2
  unfold MBox at hV'
  unfold NonM
  unfold MV at HCB ⊢
  clear t1 t2 t3 t4 t5 ha hb hs
  go_enter Try.func14, Try.ntmps14
  go_wp2_with fail
  refine (HCB.out _ HB.out).mono ?_
  rintro e w1 ⟨rfl, hb1⟩
  have HB1 := hid (HB.out.trans (hb1.mono HB.out.size))
  have HR1 := hid (blkM HR.out hb1)
  obtain ⟨x0, x1, x2⟩ := mcells_of (blkM HA0.out hb1)
  obtain ⟨v0, v1, v2⟩ := mcells_of (blkM HA1.out hb1)
  clear hb1
  go_wp2_with fail
  refine (refused_any 3 _).mono ?_
  rintro e w2 ⟨rfl, hb2⟩
  have HB2 := hid (HB1.out.trans (hb2.mono HB1.out.size))
  have HR2 := hid (blkM HR1.out hb2)
  obtain ⟨r0, r1, r2⟩ := mcells_of HR2.out
  have fz := frzM HR2.out
  unfold MV
  clear hb2
  go_wp2_with fail
  exact bodyPost_ret (v := .tuple #[MV 0 0 none 0 0, .int .i64 3]) (by simp [results, Try.results14, go_sem, r0, r1, r2, MV]) rfl ⟨rfl, StoM.below HB2.out (by omega)⟩
end Go.Proofs.Ytehgiegmdpaomaa
