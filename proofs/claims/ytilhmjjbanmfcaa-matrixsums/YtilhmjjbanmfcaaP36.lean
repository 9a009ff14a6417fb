
/- matrix: Equal of two shapes; Symmetric of a good one; Mean and Mirror as MatrixSymmetric asks them. (Written by mkmyc.py.) -/
import Derived.Test.YtilhmjjbanmfcaaP34
import Derived.Test.YtilhmjjbanmfcaaP35
namespace Go.Proofs.Ytilhmjjbanmfcaa
open Go.RowKit Go.IntWalk

set_option maxRecDepth 4000 in
set_option maxHeartbeats 1000000 in
theorem Equal_shape (r c r2 c2 : Nat) (sa sb : Option Addr) (n m ca cb : Nat) (w : World) (hs : ¬ r = r2) :
    Calls Try.prog 29 #[MV r c sa n ca, MV r2 c2 sb m cb] w fun e w' => e = .returned (.bool false) ∧ Below w.heap.size w w' := by
  obtain ⟨t1, t2, t3, t4⟩ := two_b w (MBox r c sa n ca) (MBox r2 c2 sb m cb)
  have hne : ((r : Int) != (r2 : Int)) = true := by simp; omega
  obtain ⟨V, hV⟩ : ∃ V, Hid ((w.alloc (MBox r c sa n ca)).alloc (MBox r2 c2 sb m cb) = V) := ⟨_, rfl⟩
  rw [hV.out] at t1 t2 t3 t4
  have hV' := hV.out
  have HBV := hid t3
  obtain ⟨x0, x1, x2⟩ := mcells_of t1
  obtain ⟨v0, v1, v2⟩ := mcells_of t2
  unfold MBox at hV'
  unfold MV
  clear t1 t2 t3 t4 hs
  go_enter Try.func29, Try.ntmps29
  go_wp2_with fail
  go_ret
  exact ⟨rfl, HBV.out⟩
/-- Whether a matrix is its own transpose. -/
def symB (r c : Nat) (f : Nat → Nat) : Bool := decide (r = c) && eqF (r * c) f (fun k => f (k % c * c + k / c))
theorem symB_iff (c : Nat) (f : Nat → Nat) : symB c c f = true ↔ ∀ i j, i < c → j < c → canonOf (f (i * c + j)) = canonOf (f (j * c + i)) := by
  unfold symB
  rw [decide_eq_true (rfl : c = c), Bool.true_and, eqF_iff]
  constructor
  · intro h i j hi hj
    have := h (i * c + j) (place_lt hi hj)
    rw [this]
    have e1 : (i * c + j) % c = j := by rw [Nat.mul_comm, Nat.mul_add_mod]; exact Nat.mod_eq_of_lt hj
    have e2 : (i * c + j) / c = i := by rw [Nat.mul_comm, Nat.mul_add_div (by omega), Nat.div_eq_of_lt hj, Nat.add_zero]
    rw [e1, e2]
  · intro h k hk
    obtain ⟨q1, q2, q3⟩ := split_k hk
    have := h _ _ q1 q2
    rw [q3] at this
    exact this
theorem eq_turn {c : Nat} {f o : Nat → Nat} (h : ∀ i j, i < c → j < c → o (i * c + j) = f (j * c + i)) : eqF (c * c) f o = symB c c f := by
  rw [Bool.eq_iff_iff, eqF_iff, symB_iff]
  constructor
  · intro h1 i j hi hj
    rw [h1 _ (place_lt hi hj), h i j hi hj]
  · intro h1 k hk
    obtain ⟨q1, q2, q3⟩ := split_k hk
    have := h1 _ _ q1 q2
    rw [← h _ _ q1 q2, q3] at this
    exact this
set_option maxRecDepth 4000 in
set_option maxHeartbeats 2000000 in
theorem Sym_good (r c n : Nat) (sa : Option Addr) (ka : Nat) (f : Nat → Nat) (w : World) (ha : Gd w r c sa n ka f) :
    Calls Try.prog 25 #[.agg #[.int .i64 r, .int .i64 c, .slice sa n ka]] w fun e w' => e = .returned (.bool (symB r c f)) ∧ Below w.heap.size w w' := by
  have HA0 : Hid ((w.alloc (MBox r c sa n ka)).heap[w.heap.size]? = some (MBox r c sa n ka)) := nblkM _ _
  have HB : Hid (Below w.heap.size w (w.alloc (MBox r c sa n ka))) := (Below.refl _ _).alloc (Nat.le_refl _) _
  have HCB := hid (fun W (hW : Below w.heap.size w W) => Check_any r c sa n ka _ W ((ha.below hW).2.2.2.1.fl) (by have := ha.le; omega))
  rw [ha.chk] at HCB
  have l1 := ha.1
  have l2 := ha.2.1
  have HM1 : Hid (c * r ≤ 9223372036854775807) := by
    have : c * r ≤ 12 * 12 := Nat.mul_le_mul l2 l1
    show _ ≤ _
    omega
  have HTU : Hid (∀ W, Below w.heap.size w W → Calls Try.prog 64 #[.agg #[.int .i64 r, .int .i64 c, .slice sa n ka]] W fun e w' => FillR (fun i j x => x = f (j * c + i)) c r (c * r) W.heap.size e w' ∧ Below W.heap.size W w') := fun W hW => turned_any r c n sa ka f W (ha.below hW).2.2.2.1 (by rw [ha.2.2.1]; exact Nat.le_refl _) (by omega) (by omega)
  have HEQ : Hid (∀ W (g1 : Nat) (o1 : Nat → Nat), Below w.heap.size w W → FnM W (some ⟨g1, 0, none⟩) (c * r) (c * r) o1 → (∀ i j, i < c → j < r → o1 (i * r + j) = f (j * c + i)) → Calls Try.prog 29 #[.agg #[.int .i64 r, .int .i64 c, .slice sa n ka], .agg #[.int .i64 c, .int .i64 r, .slice (some ⟨g1, 0, none⟩) (c * r) (c * r)]] W fun e w' => e = .returned (.bool (symB r c f)) ∧ Below W.heap.size W w') := fun W g1 o1 hW h1 h2 => by
    by_cases hs : r = c
    · subst hs
      have hn := ha.2.2.1
      subst hn
      have := Equal_any r r sa (some ⟨g1, 0, none⟩) (r * r) ka (r * r) f o1 W (ha.below hW).2.2.2.1 h1
      rw [eq_turn h2] at this
      exact this
    · have e : symB r c f = false := by unfold symB; rw [decide_eq_false hs]; rfl
      rw [e]
      exact Equal_shape r c c r sa _ n (c * r) ka (c * r) W hs
  obtain ⟨v, hv⟩ : ∃ v, Hid (symB r c f = v) := ⟨_, rfl⟩
  rw [hv.out] at HEQ ⊢
  obtain ⟨V, hV⟩ : ∃ V, Hid (w.alloc (MBox r c sa n ka) = V) := ⟨_, rfl⟩
  rw [hV.out] at HA0 HB
  have hV' := hV.out
  obtain ⟨p0, hp0⟩ : ∃ t, Hid (w.heap.size = t) := ⟨_, rfl⟩
  rw [hp0.out] at HA0
  have hp0' := hp0.out
  have HQ0 : Hid (Below w.heap.size w V.drew ∧ V.drew.heap[p0]? = some (MBox r c sa n ka)) := ⟨HB.out.drew, HA0.out⟩
  have HKS : Hid (∀ W, Hid (Below w.heap.size w W ∧ W.heap[p0]? = some (MBox r c sa n ka)) → (W.cell? ⟨p0, 0, none⟩ = some (.int .i64 r) ∧ W.cell? ⟨p0, 1, none⟩ = some (.int .i64 c) ∧ W.cell? ⟨p0, 2, none⟩ = some (.slice sa n ka)) ∧ Hid (Below w.heap.size w W ∧ W.heap[p0]? = some (MBox r c sa n ka))) := fun W hW => ⟨mcells_of hW.out.2, hW⟩
  unfold MBox at hV'
  unfold MV at HCB
  clear ha l1 l2
  go_enter Try.func25, Try.ntmps25
  go_wp2_with fail
  refine wp_region_held_drew (S := fun W => (W.cell? ⟨p0, 0, none⟩ = some (.int .i64 r) ∧ W.cell? ⟨p0, 1, none⟩ = some (.int .i64 c) ∧ W.cell? ⟨p0, 2, none⟩ = some (.slice sa n ka)) ∧ Hid (Below w.heap.size w W ∧ W.heap[p0]? = some (MBox r c sa n ka))) (by kernel_rfl) (HKS.out _ HQ0) (fun hHeld => ?_)
  refine take_at 0 3 (.agg #[.int .i64 r, .int .i64 c, .slice sa n ka]) rfl rfl (by kernel_rfl) (by kernel_rfl) (by kernel_rfl) (fun _ _ _ h => h) (Or.inl ⟨by rfl, fun w hSw => by (try dsimp only at hSw); go_simp⟩) (by assumption) ?_
  simp only [Act.put, List.setIfInBounds_toArray, List.set_cons_zero, List.set_cons_succ]
  refine wpAnyH_ready (rs := [1]) (by kernel_rfl) (by simp) ?_
  refine AllReadyH.cons (o := _) rfl (fun K hK => ?_) AllReadyH.nil
  go_simp
  refine (HCB.out _ HQ0.out.1).mono ?_
  rintro e u1 ⟨rfl, hb1⟩
  have HG1 : Hid (Below w.heap.size w u1 ∧ u1.heap[p0]? = some (MBox r c sa n ka)) := ⟨HQ0.out.1.trans (hb1.mono HQ0.out.1.size), blkM HQ0.out.2 hb1⟩
  clear hb1
  go_wp2_with fail
  refine hK.out _ _ (HKS.out _ HG1) (fun hHeld1 => ?_)
  clear hK K
  try simp only [Act.put, List.setIfInBounds_toArray, List.set_cons_zero, List.set_cons_succ]
  refine take_at 2 5 (.bool true) rfl rfl (by kernel_rfl) (by kernel_rfl) (by kernel_rfl) (fun _ _ _ h => h) (Or.inl ⟨by rfl, fun w hSw => by (try dsimp only at hSw); go_simp⟩) (by assumption) ?_
  simp only [Act.put, List.setIfInBounds_toArray, List.set_cons_zero, List.set_cons_succ]
  refine take_at 3 6 (.bool true) rfl rfl (by kernel_rfl) (by kernel_rfl) (by kernel_rfl) (fun _ _ _ h => h) (Or.inl ⟨by rfl, fun w hSw => by (try dsimp only at hSw); go_simp⟩) (by assumption) ?_
  simp only [Act.put, List.setIfInBounds_toArray, List.set_cons_zero, List.set_cons_succ]
  refine take_at 4 7 (.agg #[.int .i64 r, .int .i64 c, .slice sa n ka]) rfl rfl (by kernel_rfl) (by kernel_rfl) (by kernel_rfl) (fun _ _ _ h => h) (Or.inl ⟨by rfl, fun w hSw => by (try dsimp only at hSw); go_simp⟩) (by assumption) ?_
  simp only [Act.put, List.setIfInBounds_toArray, List.set_cons_zero, List.set_cons_succ]
  refine take_at 5 8 (.agg #[.int .i64 r, .int .i64 c, .slice sa n ka]) rfl rfl (by kernel_rfl) (by kernel_rfl) (by kernel_rfl) (fun _ _ _ h => h) (Or.inl ⟨by rfl, fun w hSw => by (try dsimp only at hSw); go_simp⟩) (by assumption) ?_
  simp only [Act.put, List.setIfInBounds_toArray, List.set_cons_zero, List.set_cons_succ]
  refine wpAnyH_ready (rs := [6]) (by kernel_rfl) (by simp) ?_
  refine AllReadyH.cons (o := _) rfl (fun K hK => ?_) AllReadyH.nil
  go_simp
  refine (HTU.out _ HG1.out.1).mono ?_
  rintro e u2 ⟨hfi, hb2⟩
  obtain ⟨g1, o1, rfl, hg1, hf1, hp1⟩ := hfi.fn HM1.out
  have HG2 : Hid (Below w.heap.size w u2 ∧ u2.heap[p0]? = some (MBox r c sa n ka)) := ⟨HG1.out.1.trans (hb2.mono HG1.out.1.size), blkM HG1.out.2 hb2⟩
  have HF1 := hid hf1
  have HP1 := hid hp1
  unfold MV
  clear hfi hb2 hg1 hf1 hp1
  go_wp2_with fail
  refine hK.out _ _ (HKS.out _ HG2) (fun hHeld2 => ?_)
  clear hK K
  try simp only [Act.put, List.setIfInBounds_toArray, List.set_cons_zero, List.set_cons_succ]
  refine wpAnyH_ready (rs := [7]) (by kernel_rfl) (by simp) ?_
  refine AllReadyH.cons (o := _) rfl (fun K hK => ?_) AllReadyH.nil
  go_simp
  refine (HEQ.out _ g1 o1 HG2.out.1 HF1.out HP1.out).mono ?_
  rintro e u3 ⟨rfl, hb3⟩
  have HG3 : Hid (Below w.heap.size w u3 ∧ u3.heap[p0]? = some (MBox r c sa n ka)) := ⟨HG2.out.1.trans (hb3.mono HG2.out.1.size), blkM HG2.out.2 hb3⟩
  clear hb3
  go_wp2_with fail
  refine hK.out _ _ (HKS.out _ HG3) (fun hHeld3 => ?_)
  clear hK K
  try simp only [Act.put, List.setIfInBounds_toArray, List.set_cons_zero, List.set_cons_succ]
  refine take_at 8 11 (.bool v) rfl rfl (by kernel_rfl) (by kernel_rfl) (by kernel_rfl) (fun _ _ _ h => h) (Or.inl ⟨by rfl, fun w hSw => by (try dsimp only at hSw); go_simp⟩) (by assumption) ?_
  simp only [Act.put, List.setIfInBounds_toArray, List.set_cons_zero, List.set_cons_succ]
  refine take_at 9 2 (.bool v) rfl rfl (by kernel_rfl) (by kernel_rfl) (by kernel_rfl) (fun _ _ _ h => h) (Or.inl ⟨by rfl, fun w hSw => by (try dsimp only at hSw); go_simp⟩) (by assumption) ?_
  simp only [Act.put, List.setIfInBounds_toArray, List.set_cons_zero, List.set_cons_succ]
  refine wpAnyH_done (by kernel_rfl) ?_ _
  go_wp2_with fail
  go_ret
  exact ⟨rfl, HG3.out.1⟩
/-- Mean of a good square: a symmetric matrix, or none. -/
theorem Mean_any (c n : Nat) (sa : Option Addr) (ka : Nat) (f : Nat → Nat) (w : World) (ha : Gd w c c sa n ka f) :
    Calls Try.prog 34 #[.agg #[.int .i64 c, .int .i64 c, .slice sa n ka]] w fun e w' => (∃ X0 X1 X2 X3 X4 E, e = .returned (.tuple #[.agg #[.int .i64 X0, .int .i64 X1, .slice X2 X3 X4], .int .i64 E]) ∧ SymR E w' X0 X1 X2 X3 X4) ∧ Below w.heap.size w w' := by
  refine (Mean_ok c n sa ka f w ha).mono ?_
  rintro e w' ⟨⟨g, o, rfl, hf, hv, _⟩, hbb⟩
  obtain ⟨X0, X1, X2, X3, X4, E, q1, q2⟩ := sym_of c g ha.1 o w' hf hv
  exact ⟨⟨X0, X1, X2, X3, X4, E, by rw [q1], q2⟩, hbb⟩
/-- Something that has the numbers of another one, or none. -/
def SamR (E : Int) (c : Nat) (f : Nat → Nat) (W : World) (X0 X1 : Int) (X2 : Option Addr) (X3 X4 : Nat) : Prop :=
  (E = 0 ∧ X0 = c ∧ X1 = c ∧ X3 = c * c ∧ ∃ o : Nat → Nat, FnM W X2 X3 X4 o ∧ ∀ k, k < c * c → canonOf (o k) = canonOf (f k)) ∨ E ≠ 0
theorem SamR.below {E : Int} {c : Nat} {f : Nat → Nat} {W W' : World} {X0 X1 : Int} {X2 : Option Addr} {X3 X4 : Nat} (h : SamR E c f W X0 X1 X2 X3 X4) (hb : Below W.heap.size W W') : SamR E c f W' X0 X1 X2 X3 X4 := by
  rcases h with ⟨h0, h1, h2, h3, o, h4, h5⟩ | h
  · exact Or.inl ⟨h0, h1, h2, h3, o, h4.below hb, h5⟩
  · exact Or.inr h
theorem SymR.below {E : Int} {W W' : World} {X0 X1 : Int} {X2 : Option Addr} {X3 X4 : Nat} (h : SymR E W X0 X1 X2 X3 X4) (hb : Below W.heap.size W W') : SymR E W' X0 X1 X2 X3 X4 := by
  rcases h with ⟨h0, r, o, h1, h2, h3, h4⟩ | h
  · exact Or.inl ⟨h0, r, o, h1, h2, h3.below hb, h4⟩
  · exact Or.inr h
theorem fin_expo {x : Nat} (h : (expOf x == 2047) = false) : x % 9223372036854775808 < 9218868437227405312 ∨ NaNW x ∨ 18446744073709551616 ≤ x := by
  by_cases hx : x < 18446744073709551616
  · rcases canon_is x hx with ⟨h1, _⟩ | ⟨_, h2⟩
    · exact Or.inr (Or.inl h1)
    · refine Or.inl ?_
      unfold expOf at h
      rw [h2] at h
      have : x / 4503599627370496 % 2048 ≠ 2047 := by simpa using h
      omega
  · exact Or.inr (Or.inr (by omega))
theorem fin_exp {x : Nat} (hx : x < 18446744073709551616) (h : (expOf x == 2047) = false) : x % 9223372036854775808 < 9218868437227405312 := by
  rcases fin_expo h with h1 | h1 | h1
  · exact h1
  · have := canon_nan h1
    unfold expOf at h
    rw [this] at h
    exact absurd h (by decide)
  · omega
/-- Mean of a symmetric one leaves it as it is. -/
theorem Mean_sym (c n : Nat) (sa : Option Addr) (ka : Nat) (f : Nat → Nat) (w : World) (ha : Gd w c c sa n ka f) (hs : ∀ i j, i < c → j < c → f (i * c + j) = f (j * c + i)) :
    Calls Try.prog 34 #[.agg #[.int .i64 c, .int .i64 c, .slice sa n ka]] w fun e w' => (∃ X0 X1 X2 X3 X4 E, e = .returned (.tuple #[.agg #[.int .i64 X0, .int .i64 X1, .slice X2 X3 X4], .int .i64 E]) ∧ SamR E c f w' X0 X1 X2 X3 X4) ∧ Below w.heap.size w w' := by
  have hfin := ha.2.2.2.2
  have hn := ha.2.2.1
  refine (Mean_ok c n sa ka f w ha).mono ?_
  rintro e w' ⟨⟨g, o, rfl, hf, hv, hm⟩, hbb⟩
  refine ⟨?_, hbb⟩
  unfold AnsM
  by_cases h : finF (c * c) o = true
  · rw [if_pos h, if_pos h]
    refine ⟨_, _, _, _, _, _, rfl, Or.inl ⟨rfl, rfl, rfl, rfl, o, hf, ?_⟩⟩
    have key : ∀ i j, i < c → j ≤ i → o (i * c + j) = f (i * c + j) := fun i j hi hj => by
      have hp := place_lt hi (show j < c by omega)
      have hx := fn_lt ha.2.2.2.1 (i * c + j) (by rw [hn]; exact hp)
      have hfx := fin_exp hx ((finF_iff _ _).1 hfin _ (by rw [hn]; exact hp))
      have ho := (finF_iff _ _).1 h _ hp
      rcases hm i j hi hj with ⟨rfl, h2⟩ | ⟨_, W1, W2, h2⟩
      · exact h2
      · rw [← hs i j hi (by omega)] at h2
        rw [h2] at ho ⊢
        exact half_same _ hx hfx W1 W2 ho
    intro k hk
    obtain ⟨q1, q2, q3⟩ := split_k hk
    rw [← q3]
    by_cases hij : k % c ≤ k / c
    · rw [key _ _ q1 hij]
    · rw [hv _ _ q1 q2, key _ _ q2 (by omega), hs _ _ q2 q1]
  · rw [if_neg h, if_neg h]
    exact ⟨_, _, _, _, _, _, rfl, Or.inr (by decide)⟩
/-- Mirror of a good square: good, symmetric, the same from the diagonal down. -/
theorem Mir_good (c n : Nat) (sa : Option Addr) (ka : Nat) (f : Nat → Nat) (w : World) (ha : Gd w c c sa n ka f) :
    Calls Try.prog 32 #[.agg #[.int .i64 c, .int .i64 c, .slice sa n ka]] w fun e w' => (∃ (g : Nat) (o : Nat → Nat), e = .returned (.tuple #[.agg #[.int .i64 c, .int .i64 c, .slice (some ⟨g, 0, none⟩) (c * c) (c * c)], .int .i64 0]) ∧ Gd w' c c (some ⟨g, 0, none⟩) (c * c) (c * c) o ∧ (∀ i j, i < c → j < c → o (i * c + j) = o (j * c + i)) ∧ ((∀ i j, i < c → j < c → canonOf (f (i * c + j)) = canonOf (f (j * c + i))) → ∀ k, k < c * c → canonOf (o k) = canonOf (f k))) ∧ Below w.heap.size w w' := by
  have hfin := ha.2.2.2.2
  have hn := ha.2.2.1
  refine (Mirror_ok c n sa ka f w ha).mono ?_
  rintro e w' ⟨⟨g, o, rfl, hf, hv, hm⟩, hbb⟩
  have key : ∀ k, k < c * c → (o k = f k) ∨ (k / c < k % c ∧ o k = f (k % c * c + k / c)) := fun k hk => by
    obtain ⟨q1, q2, q3⟩ := split_k hk
    by_cases hij : k % c ≤ k / c
    · exact Or.inl (by rw [← q3]; exact hm _ _ q1 hij)
    · refine Or.inr ⟨by omega, ?_⟩
      have := hv _ _ q1 q2
      rw [q3, hm _ _ q2 (by omega)] at this
      exact this
  refine ⟨⟨g, o, rfl, ⟨ha.1, ha.1, rfl, hf, finF_of (fun k hk => ?_)⟩, hv, fun h k hk => ?_⟩, hbb⟩
  · obtain ⟨q1, q2, q3⟩ := split_k hk
    rcases key k hk with h1 | ⟨_, h1⟩
    · rw [h1]; exact (finF_iff _ _).1 hfin _ (by rw [hn]; exact hk)
    · rw [h1]; exact (finF_iff _ _).1 hfin _ (by rw [hn]; exact place_lt q2 q1)
  · obtain ⟨q1, q2, q3⟩ := split_k hk
    rcases key k hk with h1 | ⟨_, h1⟩
    · rw [h1]
    · rw [h1, h _ _ q2 q1, q3]
end Go.Proofs.Ytilhmjjbanmfcaa
