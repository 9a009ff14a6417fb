
/- What the document's Out keeps while it lays a number's words one behind the other. -/
import Derived.Test.YtphdinjmkhefmaaGreatDoorP44
import Derived.Test.YtphdinjmkhefmaaGreatDoorP23
import Derived.Test.YtphdinjmkhefmaaGreatDoorP28
import Derived.Test.YtphdinjmkhefmaaGreatDoorP34
import Derived.Test.YtphdinjmkhefmaaGreatDoorP4
import Derived.Deep.RegionLaw
namespace Go.Proofs.YtphdinjmkhefmaaGreatDoor
open Go.RowKit Go.IntWalk

theorem info_w : (Tryz.prog.info? 45).map (fun i => (i.zero, i.size, i.bytes)) = some (some (.int .u32 0), 1, 4) := by kernel_rfl
def wordV (d : Nat) : Value := .int .u32 (d : Int)
/-- Words in a row of the call's own. -/
def OwnsW (w : World) (base : Nat) (v : Value) (xs : List Nat) : Prop := w.ownsRow base 45 1 v xs.length (xs.map wordV)
theorem OwnsW.mag {w : World} {base : Nat} {a : Option Addr} {k cap : Nat} {xs : List Nat} (h : OwnsW w base (.slice a k cap) xs) : k = xs.length ∧ k ≤ cap ∧ MagAt w a xs := by
  obtain ⟨_, h2⟩ := h
  rcases h2 with ⟨h3, h4⟩ | ⟨g, cap', cur, h3, h4, h5, h6, h7, h8, h9⟩
  · cases h3
    exact ⟨h4.symm, Nat.le_refl _, fun i hi => by omega⟩
  · cases h3
    refine ⟨rfl, h6, fun i hi => ⟨g, 0, rfl, (Array.getElem?_eq_some_iff.1 h5).1, ?_⟩⟩
    have e1 : cur.toList[i]? = some (wordV (xs.getD i 0)) := by
      have : (cur.toList.take (xs.length * 1))[i]? = (xs.map wordV)[i]? := by rw [h9]
      rw [List.getElem?_take, if_pos (by omega), List.getElem?_map, List.getElem?_eq_getElem hi] at this
      rw [this, List.getD_eq_getElem?_getD, List.getElem?_eq_getElem hi]
      rfl
    rw [Nat.zero_add]
    have e2 : cur[i]? = some (wordV (xs.getD i 0)) := by rw [← Array.getElem?_toList]; exact e1
    simp [World.cell?, h5, e2, wordV]
/-- A number not below 0 at a block, its words elsewhere than in block g. -/
def NatOff (g : Option Nat) (w : World) (x v bd : Nat) : Prop := ∃ L a cap, natL L = v ∧ L.length ≤ bd ∧ w.heap[x]? = some (.cells #[.bool false, .slice a L.length cap] 57) ∧ L.length ≤ cap ∧ MagAt w a L ∧ DigL L ∧ CanL L ∧ (∀ p, a = some p → some p.block ≠ g)
theorem NatOff.num {g : Option Nat} {w : World} {x v bd : Nat} (h : NatOff g w x v bd) : NumAt w x (v : Int) bd := by
  obtain ⟨L, a, cap, h1, h2, h3, h4, h5, h6, h7, _⟩ := h
  exact ⟨false, L, by unfold intL; rw [if_neg (by decide), h1], h2, a, cap, h3, h4, h5, h6, h7, fun _ => rfl⟩
theorem NatF.off {B x v bd : Nat} {w : World} {g : Option Nat} (h : NatF B w x v bd) (hg : ∀ k, g = some k → k < B) : NatOff g w x v bd := by
  obtain ⟨L, h1, h2, a, cap, k1, k2, k3, k4, k5, k6, k7⟩ := h
  exact ⟨L, a, cap, h1, h2, k1, k2, k3, k4, k5, fun p hp hc => by have := hg _ hc.symm; have := k7 p hp; omega⟩
theorem NumAt.off {w : World} {x v bd : Nat} (h : NumAt w x (v : Int) bd) : NatOff none w x v bd := by
  obtain ⟨L, h1, h2, a, cap, k1, k2, k3, k4, k5, k6⟩ := num_pos h
  exact ⟨L, a, cap, h1, h2, k1, k2, k3, k4, k5, fun p hp hc => by cases hc⟩
theorem NatOff.grown {g : Option Nat} {w w' : World} {x v bd : Nat} (h : NatOff g w x v bd) (hx : some x ≠ g) (hs : w.heap.size ≤ w'.heap.size) (hb : ∀ k, k < w.heap.size → some k ≠ g → w'.heap[k]? = w.heap[k]?) : NatOff g w' x v bd := by
  obtain ⟨L, a, cap, h1, h2, h3, h4, h5, h6, h7, h8⟩ := h
  refine ⟨L, a, cap, h1, h2, by rw [hb x (Array.getElem?_eq_some_iff.1 h3).1 hx]; exact h3, h4, fun i hi => ?_, h6, h7, h8⟩
  obtain ⟨b, off, e, hlt, hc⟩ := h5 i hi
  refine ⟨b, off, e, Nat.lt_of_lt_of_le hlt hs, ?_⟩
  rw [World.cell?_of_block (a := ⟨b, off + i, none⟩) (hb b hlt (h8 _ e))]
  exact hc
/-- What is kept at each turn: the dyad's box at db with the words so far, the rest of the number at nb. -/
def OutI (w w4 wr : World) (db nb : Nat) (N : Bool) (E : Int) (M : Nat) (a : Option Addr) (k cap rest : Nat) : Prop :=
  ∃ xs : List Nat, wr.heap[db]? = some (DyBox N a k cap E) ∧ OwnsW wr w4.heap.size (.slice a k cap) xs ∧ NatOff (Value.ownBlock (.slice a k cap)) wr nb rest 201 ∧ natL xs + 4294967296 ^ k * rest = M ∧ DigL xs ∧ (rest = 0 → CanL xs) ∧ Below w.heap.size w wr ∧ wr.heap[w.heap.size + 1]? = some (DyBox false none 0 0 0) ∧ w4.heap.size ≤ wr.heap.size
theorem out_count {w w4 wr : World} {db nb : Nat} {N : Bool} {E : Int} {M : Nat} {a : Option Addr} {k cap rest : Nat} (h : OutI w w4 wr db nb N E M a k cap rest) (hM : M < 4294967296 ^ 201) (hr : rest ≠ 0) : k < 201 := by
  obtain ⟨xs, h1, h2, h3, h4, _⟩ := h
  apply Classical.byContradiction
  intro c
  have e : 4294967296 ^ 201 ≤ 4294967296 ^ k := Nat.pow_le_pow_right (by decide) (by omega)
  have : 4294967296 ^ k * 1 ≤ 4294967296 ^ k * rest := Nat.mul_le_mul_left _ (by omega)
  omega
theorem noword_dy {w : World} {b : Nat} {N : Bool} {a : Option Addr} {k cap : Nat} {e : Int} (h : w.heap[b]? = some (DyBox N a k cap e)) : NoWord w b := by
  unfold DyBox at h
  intro o n hc
  simp only [World.cell?, h] at hc
  match o, hc with
  | 0, hc => simp at hc
  | 1, hc => simp at hc
  | 2, hc => simp at hc
  | o + 3, hc => simp at hc
theorem NumAt.ne_dy {w : World} {p b bd : Nat} {v : Int} {N : Bool} {a : Option Addr} {k cap : Nat} {e : Int} (h : NumAt w p v bd) (hb : w.heap[b]? = some (DyBox N a k cap e)) : p ≠ b := by
  intro c
  subst c
  obtain ⟨neg, L, h1, h2, a', cap', ho, _⟩ := h
  unfold DyBox at hb
  rw [ho] at hb
  simp at hb
/-- The same as one step of a region that draws. -/
theorem step_append_w {ops : Array Oper} {o : Oper} {a : Act} {w : World} {K : Act → World → Prop} {Q : Exit → Act → World → Prop} {E : Prop}
    (hg : o.guard = none) (s x : Operand) (hop : o.op = Op.call { callee := Callee.builtin Builtin.append, args := #[s, x], argTypes := #[25, 25] })
    (sv xv : Value) (hs : a.eval s = sv) (hx : a.eval x = xv)
    (hr : ∃ a' k' cap' w', (Builtin.append_ #[25, 25] o.type #[sv, xv]).run Tryz.prog w = .ok (.slice a' k' cap') w' ∧ K (a.put o.dst (.slice a' k' cap')) w') :
    if Region.wanted o (yielded ops a.tmps) = true then Oper.wp Tryz.prog o a w K Q else E := by
  have hw : Region.wanted o (yielded ops a.tmps) = true := by simp [Region.wanted, hg]
  rw [if_pos hw]
  obtain ⟨a', k', cap', w', hrun, hK⟩ := hr
  unfold Oper.wp
  simp [execOp, hop, resolve, invoke, builtin, hs, hx, hrun, Result.andThen]
  exact hK
/-- Behind the append and the store: the words are one more, the rest as it was. -/
def MidI (w w4 V : World) (db nb : Nat) (N : Bool) (E : Int) (M : Nat) (a : Option Addr) (k cap rest : Nat) : Prop :=
  ∃ xs : List Nat, V.heap[db]? = some (DyBox N a k cap E) ∧ OwnsW V w4.heap.size (.slice a k cap) xs ∧ NumAt V nb (rest : Int) 201 ∧ natL xs + 4294967296 ^ k * (rest / 4294967296) = M ∧ DigL xs ∧ (rest / 4294967296 = 0 → CanL xs) ∧ Below w.heap.size w V ∧ V.heap[w.heap.size + 1]? = some (DyBox false none 0 0 0) ∧ w4.heap.size ≤ V.heap.size
theorem can_app (xs : List Nat) (d : Nat) (h : d ≠ 0) : CanL (xs ++ [d]) := by
  intro _
  simp
  exact h
theorem mid_val (A P r : Nat) : A + P * (r % 4294967296) + 4294967296 * P * (r / 4294967296) = A + P * r := by
  have h := Nat.div_add_mod r 4294967296
  have e : P * r = P * (4294967296 * (r / 4294967296)) + P * (r % 4294967296) := by rw [← Nat.mul_add, h]
  rw [e, Nat.mul_comm 4294967296 P, Nat.mul_assoc]
  omega
theorem dbox_set {W : World} {b : Nat} {N : Bool} {a a' : Option Addr} {k k' cap cap' : Nat} {e : Int} (h : W.heap[b]? = some (DyBox N a k cap e)) : (W.setCell ⟨b, 1, none⟩ (.slice a' k' cap')).heap[b]? = some (DyBox N a' k' cap' e) := by
  unfold DyBox at h ⊢
  simp [World.setCell, Array.getElem?_modify, h]
theorem set_keep {W : World} {a b o : Nat} (hab : a ≠ b) (x : Value) : (W.setCell ⟨b, o, none⟩ x).heap[a]? = W.heap[a]? := by
  simp [World.setCell, Array.getElem?_modify, hab.symm]
theorem out_append {w w4 wr : World} {db nb : Nat} {N : Bool} {E : Int} {M : Nat} {a : Option Addr} {k cap rest : Nat} (h : OutI w w4 wr db nb N E M a k cap rest) (hM : M < 4294967296 ^ 201) (hr : rest ≠ 0) (hdb : w.heap.size + 1 < db) (hdb4 : db < w4.heap.size) (hnb4 : nb < w4.heap.size) (ty T : TypeId) :
    ∃ a' cap' w', (Builtin.append_ #[25, 25] ty #[.slice a k cap, .slice (some ⟨wr.heap.size, 0, none⟩) 1 1]).run Tryz.prog (wr.drew.alloc (.cells #[.int .u32 ((rest % 4294967296 : Nat) : Int)] T)) = .ok (.slice a' (k + 1) cap') w' ∧ Hid (MidI w w4 (w'.setCell ⟨db, 1, none⟩ (.slice a' (k + 1) cap')) db nb N E M a' (k + 1) cap' rest) ∧ w'.cell? ⟨db, 1, none⟩ = some (.slice a k cap) ∧ (∀ o, w'.frozen? ⟨db, o, none⟩ = false) := by
  have hk := out_count h hM hr
  obtain ⟨xs, h1, h2, h3, h4, h5, h6, h7, h8, h9⟩ := h
  obtain ⟨i0, hi, hz0, hz1, hz2⟩ := info_parts info_w
  obtain ⟨hxl, hkc, _⟩ := OwnsW.mag h2
  have hal : Below wr.heap.size wr (wr.drew.alloc (.cells #[.int .u32 ((rest % 4294967296 : Nat) : Int)] T)) := (Below.refl wr.heap.size wr).drew.alloc (Nat.le_refl _) _
  obtain ⟨W, hW⟩ : ∃ W, wr.drew.alloc (.cells #[.int .u32 ((rest % 4294967296 : Nat) : Int)] T) = W := ⟨_, rfl⟩
  have hcell : W.cell? ⟨wr.heap.size, 0, none⟩ = some (.int .u32 ((rest % 4294967296 : Nat) : Int)) := by rw [← hW]; simp [go_sem]
  have hWs : W.heap.size = wr.heap.size + 1 := by rw [← hW]; simp
  rw [hW] at hal ⊢
  have hownW : W.ownsRow w4.heap.size 45 1 (.slice a k cap) k (xs.map wordV) := by
    have h2' : wr.ownsRow w4.heap.size 45 1 (.slice a k cap) k (xs.map wordV) := by rw [hxl]; rw [hxl] at h2; exact h2
    rw [← hW]
    exact h2'.drew.alloc _
  obtain ⟨v', w', hrun, r1, r2, _⟩ := run_append_own (P := Tryz.prog) W w4.heap.size 25 ty 45 i0 (.int .u32 0) 1 4 Tryz.underlying25 hi hz0 hz1 hz2 rfl (by decide) (.slice a k cap) k _ hownW ⟨wr.heap.size, 0, none⟩ 1 1 [wordV (rest % 4294967296)] rfl (fun j u hj => by
      match j, hj with
      | 0, hj => simp at hj; subst hj; simpa [Addr.add, wordV] using hcell) (fun u hu => by simp at hu; subst hu; rfl) (by unfold maxLen; omega) (by omega) (by rw [hWs]; omega)
  obtain ⟨g, cap', cur, rfl, hg, hblk⟩ : ∃ g cap' cur, v' = .slice (some ⟨g, 0, none⟩) (k + 1) cap' ∧ w4.heap.size ≤ g ∧ w'.heap[g]? = some (.cells cur 45 (0, 0)) := by
    rcases r1.2 with ⟨_, hc⟩ | ⟨g, cap', cur, e1, e2, e3, _⟩
    · omega
    · exact ⟨g, cap', cur, e1, e2, e3⟩
  have hrow : ∀ j, j < w4.heap.size → some j ≠ Value.ownBlock (.slice a k cap) := fun j hj hc => by
    rcases hownW.2 with ⟨e1, _⟩ | ⟨g0, c0, cur0, e1, e2, _⟩
    · cases e1; cases hc
    · cases e1
      have : j = g0 := by simpa [Value.ownBlock] using hc
      omega
  have hkeep : ∀ j, j < w4.heap.size → w'.heap[j]? = wr.heap[j]? := fun j hj => by
    rw [r2.block j (by omega) (hrow j hj), hal.block j (by omega)]
  have hd' : w'.heap[db]? = some (DyBox N a k cap E) := by rw [hkeep db hdb4]; exact h1
  have hn' : NumAt w' nb (rest : Int) 201 := by
    have hW3 : NatOff (Value.ownBlock (.slice a k cap)) W nb rest 201 := by
      obtain ⟨L, a2, c2, q1, q2, q3, q4, q5, q6, q7, q8⟩ := h3
      exact ⟨L, a2, c2, q1, q2, by rw [hal.block nb (by omega)]; exact q3, q4, q5.below hal, q6, q7, q8⟩
    exact (hW3.grown (hrow nb hnb4) r2.size r2.block).num
  have hne := hn'.ne_dy hd'
  have hbut : But db w' (w'.setCell ⟨db, 1, none⟩ (.slice (some ⟨g, 0, none⟩) (k + 1) cap')) := (But.refl _ _).setCell 1 _
  have hgd : g ≠ db := by omega
  have hbw : Below w.heap.size w w' := (h7.trans (hal.mono h7.size)).grown r2 (by have := h7.size; omega) (fun j hj => by
    rcases hownW.2 with ⟨e1, _⟩ | ⟨g0, c0, cur0, e1, e2, _⟩
    · cases e1; cases hj
    · cases e1
      have : g0 = j := by simpa [Value.ownBlock] using hj
      omega)
  refine ⟨some ⟨g, 0, none⟩, cap', w', hrun, ⟨xs ++ [rest % 4294967296], dbox_set hd', ?_, hn'.away hbut hne (noword_dy hd'), ?_, ?_, ?_, Below.setCell hbw (by show w.heap.size ≤ db; omega) _, ?_, ?_⟩, ?_, ?_⟩
  · have e : (xs ++ [rest % 4294967296]).length = k + 1 := by rw [List.length_append, ← hxl]; rfl
    show World.ownsRow _ _ _ _ _ _ _
    rw [e, List.map_append]
    refine ⟨r1.1, ?_⟩
    rcases r1.2 with ⟨hc, _⟩ | ⟨g1, c1, cur1, e1, e2, e3, e4⟩
    · cases hc
    · cases e1
      exact Or.inr ⟨g, cap', cur1, rfl, e2, by rw [set_keep hgd]; exact e3, e4⟩
  · rw [natL_append, ← hxl]
    show natL xs + 4294967296 ^ k * (rest % 4294967296 + 4294967296 * 0) + _ = M
    rw [Nat.mul_zero, Nat.add_zero, Nat.pow_succ, Nat.mul_comm (4294967296 ^ k) 4294967296, mid_val]
    exact h4
  · intro d hd
    rcases List.mem_append.1 hd with hd | hd
    · exact h5 d hd
    · simp at hd; subst hd; exact Nat.mod_lt _ (by decide)
  · intro h0
    exact can_app xs _ (by omega)
  · rw [set_keep (by omega), hkeep _ (by omega)]; exact h8
  · have := r2.size
    simp
    omega
  · unfold DyBox at hd'; simp [World.cell?, hd']
  · intro o; unfold DyBox at hd'; simp [World.frozen?, hd']
/-- Behind the shift: one turn more. -/
theorem out_next {w w4 V V' : World} {db nb : Nat} {N : Bool} {E : Int} {M : Nat} {a : Option Addr} {k cap rest : Nat} (h : MidI w w4 V db nb N E M a k cap rest) (hdb4 : db < w4.heap.size) (hnb4 : nb < w4.heap.size) (hnw : w.heap.size + 1 < nb) (hn : NatF V.heap.size V' nb (rest / 4294967296) 201) (hb : But nb V V') : OutI w w4 V' db nb N E M a k cap (rest / 4294967296) := by
  obtain ⟨xs, h1, h2, h3, h4, h5, h6, h7, h8, h9⟩ := h
  have hne := h3.ne_dy h1
  have hrow : ∀ g, Value.ownBlock (.slice a k cap) = some g → w4.heap.size ≤ g ∧ g < V.heap.size := fun g hg => by
    rcases h2.2 with ⟨e1, _⟩ | ⟨g0, c0, cur0, e1, e2, e3, _⟩
    · cases e1; cases hg
    · cases e1
      have : g0 = g := by simpa [Value.ownBlock] using hg
      subst this
      exact ⟨e2, (Array.getElem?_eq_some_iff.1 e3).1⟩
  refine ⟨xs, by rw [hb.block db (by omega) (fun c => hne c.symm)]; exact h1, ?_, hn.off (fun g hg => (hrow g hg).2), h4, h5, h6, h7.trans (hb.below h7.size (by omega)), by rw [hb.block _ (Array.getElem?_eq_some_iff.1 h8).1 (by omega)]; exact h8, Nat.le_trans h9 hb.size⟩
  refine ⟨h2.1, ?_⟩
  rcases h2.2 with h | ⟨g0, c0, cur0, e1, e2, e3, e4⟩
  · exact Or.inl h
  · exact Or.inr ⟨g0, c0, cur0, e1, e2, by rw [hb.block g0 (Array.getElem?_eq_some_iff.1 e3).1 (by omega)]; exact e3, e4⟩
end Go.Proofs.YtphdinjmkhefmaaGreatDoor
