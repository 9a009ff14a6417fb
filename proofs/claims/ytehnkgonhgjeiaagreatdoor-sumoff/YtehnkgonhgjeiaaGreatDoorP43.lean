
/- What the document's Out keeps while it lays a number's words one behind the other. -/
import Derived.Test.YtehnkgonhgjeiaaGreatDoorP39
import Derived.Test.YtehnkgonhgjeiaaGreatDoorP23
import Derived.Test.YtehnkgonhgjeiaaGreatDoorP29
import Derived.Test.YtehnkgonhgjeiaaGreatDoorP27
import Derived.Test.YtehnkgonhgjeiaaGreatDoorP4
import Derived.Deep.RegionLaw
import Derived.Test.YtehnkgonhgjeiaaGreatDoorP42
namespace Go.Proofs.YtehnkgonhgjeiaaGreatDoor
open Go.RowKit Go.IntWalk

theorem info_w : (Tryz.prog.info? 92).map (fun i => (i.zero, i.size, i.bytes)) = some (some (.int .u32 0), 1, 4) := by kernel_rfl
def wordV (d : Nat) : Value := .int .u32 (d : Int)
/-- Words in a row of the call's own. -/
def OwnsW (w : World) (base : Nat) (v : Value) (xs : List Nat) : Prop := w.ownsRow base 92 1 v xs.length (xs.map wordV)
theorem OwnsW.mag {w : World} {base : Nat} {a : Option Addr} {k cap : Nat} {xs : List Nat} (h : OwnsW w base (.slice a k cap) xs) : k = xs.length ∧ k ≤ cap ∧ MagAt w a xs := by
  obtain ⟨_, h2⟩ := h
  rcases h2 with ⟨h3, h4⟩ | ⟨g, cap', cur, h3, h4, h5, h6, h7, h8, h9⟩
  · cases h3
    exact ⟨h4.symm, Nat.le_refl _, fun i hi => by omega⟩
  · cases h3
    refine ⟨rfl, h6, fun i hi => ⟨g, 0, rfl, (Array.getElem?_eq_some_iff.1 h5).1, ?_⟩⟩
    have e1 : cur.toList[i]? = some (wordV (xs.getD i 0)) := by
      have : (cur.toList.take (xs.length * 1))[i]? = (xs.map wordV)[i]? := by rw [h9]
      rw [List.getElem?_take, if_pos (by omega), List.getElem?_map, List.getElem?_eq_getElem hi] at this
      rw [this, List.getD_eq_getElem?_getD, List.getElem?_eq_getElem hi]
      rfl
    rw [Nat.zero_add]
    have e2 : cur[i]? = some (wordV (xs.getD i 0)) := by rw [← Array.getElem?_toList]; exact e1
    simp [World.cell?, h5, e2, wordV]
/-- A number not below 0 at a block, its words elsewhere than in block g. -/
def NatOff (g : Option Nat) (w : World) (x v bd : Nat) : Prop := ∃ L a cap, natL L = v ∧ L.length ≤ bd ∧ w.heap[x]? = some (.cells #[.bool false, .slice a L.length cap] 90) ∧ L.length ≤ cap ∧ MagAt w a L ∧ DigL L ∧ CanL L ∧ (∀ p, a = some p → some p.block ≠ g)
theorem NatOff.num {g : Option Nat} {w : World} {x v bd : Nat} (h : NatOff g w x v bd) : NumAt w x (v : Int) bd := by
  obtain ⟨L, a, cap, h1, h2, h3, h4, h5, h6, h7, _⟩ := h
  exact ⟨false, L, by unfold intL; rw [if_neg (by decide), h1], h2, a, cap, h3, h4, h5, h6, h7, fun _ => rfl⟩
theorem NatF.off {B x v bd : Nat} {w : World} {g : Option Nat} (h : NatF B w x v bd) (hg : ∀ k, g = some k → k < B) : NatOff g w x v bd := by
  obtain ⟨L, h1, h2, a, cap, k1, k2, k3, k4, k5, k6, k7⟩ := h
  exact ⟨L, a, cap, h1, h2, k1, k2, k3, k4, k5, fun p hp hc => by have := hg _ hc.symm; have := k7 p hp; omega⟩
theorem NumAt.off {w : World} {x v bd : Nat} (h : NumAt w x (v : Int) bd) : NatOff none w x v bd := by
  obtain ⟨L, h1, h2, a, cap, k1, k2, k3, k4, k5, k6⟩ := num_pos h
  exact ⟨L, a, cap, h1, h2, k1, k2, k3, k4, k5, fun p hp hc => by cases hc⟩
theorem NatOff.grown {g : Option Nat} {w w' : World} {x v bd : Nat} (h : NatOff g w x v bd) (hx : some x ≠ g) (hs : w.heap.size ≤ w'.heap.size) (hb : ∀ k, k < w.heap.size → some k ≠ g → w'.heap[k]? = w.heap[k]?) : NatOff g w' x v bd := by
  obtain ⟨L, a, cap, h1, h2, h3, h4, h5, h6, h7, h8⟩ := h
  refine ⟨L, a, cap, h1, h2, by rw [hb x (Array.getElem?_eq_some_iff.1 h3).1 hx]; exact h3, h4, fun i hi => ?_, h6, h7, h8⟩
  obtain ⟨b, off, e, hlt, hc⟩ := h5 i hi
  refine ⟨b, off, e, Nat.lt_of_lt_of_le hlt hs, ?_⟩
  rw [World.cell?_of_block (a := ⟨b, off + i, none⟩) (hb b hlt (h8 _ e))]
  exact hc
/-- What is kept at each turn: the dyad's box at db with the words so far, the rest of the number at nb. -/
def OutI (w w4 wr : World) (db nb : Nat) (N : Bool) (E : Int) (M : Nat) (a : Option Addr) (k cap rest : Nat) : Prop :=
  ∃ xs : List Nat, wr.heap[db]? = some (DyBox N a k cap E) ∧ OwnsW wr w4.heap.size (.slice a k cap) xs ∧ NatOff (Value.ownBlock (.slice a k cap)) wr nb rest 201 ∧ natL xs + 4294967296 ^ k * rest = M ∧ DigL xs ∧ (rest = 0 → CanL xs) ∧ Below w.heap.size w wr ∧ wr.heap[w.heap.size + 1]? = some (DyBox false none 0 0 0) ∧ w4.heap.size ≤ wr.heap.size
theorem out_count {w w4 wr : World} {db nb : Nat} {N : Bool} {E : Int} {M : Nat} {a : Option Addr} {k cap rest : Nat} (h : OutI w w4 wr db nb N E M a k cap rest) (hM : M < 4294967296 ^ 201) (hr : rest ≠ 0) : k < 201 := by
  obtain ⟨xs, h1, h2, h3, h4, _⟩ := h
  apply Classical.byContradiction
  intro c
  have e : 4294967296 ^ 201 ≤ 4294967296 ^ k := Nat.pow_le_pow_right (by decide) (by omega)
  have : 4294967296 ^ k * 1 ≤ 4294967296 ^ k * rest := Nat.mul_le_mul_left _ (by omega)
  omega
theorem noword_dy {w : World} {b : Nat} {N : Bool} {a : Option Addr} {k cap : Nat} {e : Int} (h : w.heap[b]? = some (DyBox N a k cap e)) : NoWord w b := by
  unfold DyBox at h
  intro o n hc
  simp only [World.cell?, h] at hc
  match o, hc with
  | 0, hc => simp at hc
  | 1, hc => simp at hc
  | 2, hc => simp at hc
  | o + 3, hc => simp at hc
theorem NumAt.ne_dy {w : World} {p b bd : Nat} {v : Int} {N : Bool} {a : Option Addr} {k cap : Nat} {e : Int} (h : NumAt w p v bd) (hb : w.heap[b]? = some (DyBox N a k cap e)) : p ≠ b := by
  intro c
  subst c
  obtain ⟨neg, L, h1, h2, a', cap', ho, _⟩ := h
  unfold DyBox at hb
  rw [ho] at hb
  simp at hb
/-- The same as one step of a region that draws. -/
theorem step_append_w {ops : Array Oper} {o : Oper} {a : Act} {w : World} {K : Act → World → Prop} {Q : Exit → Act → World → Prop} {E : Prop}
    (hg : o.guard = none) (s x : Operand) (hop : o.op = Op.call { callee := Callee.builtin Builtin.append, args := #[s, x], argTypes := #[39, 39] })
    (sv xv : Value) (hs : a.eval s = sv) (hx : a.eval x = xv)
    (hr : ∃ a' k' cap' w', (Builtin.append_ #[39, 39] o.type #[sv, xv]).run Tryz.prog w = .ok (.slice a' k' cap') w' ∧ K (a.put o.dst (.slice a' k' cap')) w') :
    if Region.wanted o (yielded ops a.tmps) = true then Oper.wp Tryz.prog o a w K Q else E := by
  have hw : Region.wanted o (yielded ops a.tmps) = true := by simp [Region.wanted, hg]
  rw [if_pos hw]
  obtain ⟨a', k', cap', w', hrun, hK⟩ := hr
  unfold Oper.wp
  simp [execOp, hop, resolve, invoke, builtin, hs, hx, hrun, Result.andThen]
  exact hK
/-- Behind the append and the store: the words are one more, the rest as it was. -/
def MidI (w w4 V : World) (db nb : Nat) (N : Bool) (E : Int) (M : Nat) (a : Option Addr) (k cap rest : Nat) : Prop :=
  ∃ xs : List Nat, V.heap[db]? = some (DyBox N a k cap E) ∧ OwnsW V w4.heap.size (.slice a k cap) xs ∧ NumAt V nb (rest : Int) 201 ∧ natL xs + 4294967296 ^ k * (rest / 4294967296) = M ∧ DigL xs ∧ (rest / 4294967296 = 0 → CanL xs) ∧ Below w.heap.size w V ∧ V.heap[w.heap.size + 1]? = some (DyBox false none 0 0 0) ∧ w4.heap.size ≤ V.heap.size
theorem can_app (xs : List Nat) (d : Nat) (h : d ≠ 0) : CanL (xs ++ [d]) := by
  intro _
  simp
  exact h
theorem mid_val (A P r : Nat) : A + P * (r % 4294967296) + 4294967296 * P * (r / 4294967296) = A + P * r := by
  have h := Nat.div_add_mod r 4294967296
  have e : P * r = P * (4294967296 * (r / 4294967296)) + P * (r % 4294967296) := by rw [← Nat.mul_add, h]
  rw [e, Nat.mul_comm 4294967296 P, Nat.mul_assoc]
  omega
theorem dbox_set {W : World} {b : Nat} {N : Bool} {a a' : Option Addr} {k k' cap cap' : Nat} {e : Int} (h : W.heap[b]? = some (DyBox N a k cap e)) : (W.setCell ⟨b, 1, none⟩ (.slice a' k' cap')).heap[b]? = some (DyBox N a' k' cap' e) := by
  unfold DyBox at h ⊢
  simp [World.setCell, Array.getElem?_modify, h]
theorem set_keep {W : World} {a b o : Nat} (hab : a ≠ b) (x : Value) : (W.setCell ⟨b, o, none⟩ x).heap[a]? = W.heap[a]? := by
  simp [World.setCell, Array.getElem?_modify, hab.symm]
theorem out_append {w w4 wr : World} {db nb : Nat} {N : Bool} {E : Int} {M : Nat} {a : Option Addr} {k cap rest : Nat} (h : OutI w w4 wr db nb N E M a k cap rest) (hM : M < 4294967296 ^ 201) (hr : rest ≠ 0) (hdb : w.heap.size + 1 < db) (hdb4 : db < w4.heap.size) (hnb4 : nb < w4.heap.size) (ty T : TypeId) :
    ∃ a' cap' w', (Builtin.append_ #[39, 39] ty #[.slice a k cap, .slice (some ⟨wr.heap.size, 0, none⟩) 1 1]).run Tryz.prog (wr.drew.alloc (.cells #[.int .u32 ((rest % 4294967296 : Nat) : Int)] T)) = .ok (.slice a' (k + 1) cap') w' ∧ Hid (MidI w w4 (w'.setCell ⟨db, 1, none⟩ (.slice a' (k + 1) cap')) db nb N E M a' (k + 1) cap' rest) ∧ w'.cell? ⟨db, 1, none⟩ = some (.slice a k cap) ∧ (∀ o, w'.frozen? ⟨db, o, none⟩ = false) := by
  have hk := out_count h hM hr
  obtain ⟨xs, h1, h2, h3, h4, h5, h6, h7, h8, h9⟩ := h
  obtain ⟨i0, hi, hz0, hz1, hz2⟩ := info_parts info_w
  obtain ⟨hxl, hkc, _⟩ := OwnsW.mag h2
  have hal : Below wr.heap.size wr (wr.drew.alloc (.cells #[.int .u32 ((rest % 4294967296 : Nat) : Int)] T)) := (Below.refl wr.heap.size wr).drew.alloc (Nat.le_refl _) _
  obtain ⟨W, hW⟩ : ∃ W, wr.drew.alloc (.cells #[.int .u32 ((rest % 4294967296 : Nat) : Int)] T) = W := ⟨_, rfl⟩
  have hcell : W.cell? ⟨wr.heap.size, 0, none⟩ = some (.int .u32 ((rest % 4294967296 : Nat) : Int)) := by rw [← hW]; simp [go_sem]
  have hWs : W.heap.size = wr.heap.size + 1 := by rw [← hW]; simp
  rw [hW] at hal ⊢
  have hownW : W.ownsRow w4.heap.size 92 1 (.slice a k cap) k (xs.map wordV) := by
    have h2' : wr.ownsRow w4.heap.size 92 1 (.slice a k cap) k (xs.map wordV) := by rw [hxl]; rw [hxl] at h2; exact h2
    rw [← hW]
    exact h2'.drew.alloc _
  obtain ⟨v', w', hrun, r1, r2, _⟩ := run_append_own (P := Tryz.prog) W w4.heap.size 39 ty 92 i0 (.int .u32 0) 1 4 Tryz.underlying39 hi hz0 hz1 hz2 rfl (by decide) (.slice a k cap) k _ hownW ⟨wr.heap.size, 0, none⟩ 1 1 [wordV (rest % 4294967296)] rfl (fun j u hj => by
      match j, hj with
      | 0, hj => simp at hj; subst hj; simpa [Addr.add, wordV] using hcell) (fun u hu => by simp at hu; subst hu; rfl) (by unfold maxLen; omega) (by omega) (by rw [hWs]; omega)
  obtain ⟨g, cap', cur, rfl, hg, hblk⟩ : ∃ g cap' cur, v' = .slice (some ⟨g, 0, none⟩) (k + 1) cap' ∧ w4.heap.size ≤ g ∧ w'.heap[g]? = some (.cells cur 92 (0, 0)) := by
    rcases r1.2 with ⟨_, hc⟩ | ⟨g, cap', cur, e1, e2, e3, _⟩
    · omega
    · exact ⟨g, cap', cur, e1, e2, e3⟩
  have hrow : ∀ j, j < w4.heap.size → some j ≠ Value.ownBlock (.slice a k cap) := fun j hj hc => by
    rcases hownW.2 with ⟨e1, _⟩ | ⟨g0, c0, cur0, e1, e2, _⟩
    · cases e1; cases hc
    · cases e1
      have : j = g0 := by simpa [Value.ownBlock] using hc
      omega
  have hkeep : ∀ j, j < w4.heap.size → w'.heap[j]? = wr.heap[j]? := fun j hj => by
    rw [r2.block j (by omega) (hrow j hj), hal.block j (by omega)]
  have hd' : w'.heap[db]? = some (DyBox N a k cap E) := by rw [hkeep db hdb4]; exact h1
  have hn' : NumAt w' nb (rest : Int) 201 := by
    have hW3 : NatOff (Value.ownBlock (.slice a k cap)) W nb rest 201 := by
      obtain ⟨L, a2, c2, q1, q2, q3, q4, q5, q6, q7, q8⟩ := h3
      exact ⟨L, a2, c2, q1, q2, by rw [hal.block nb (by omega)]; exact q3, q4, q5.below hal, q6, q7, q8⟩
    exact (hW3.grown (hrow nb hnb4) r2.size r2.block).num
  have hne := hn'.ne_dy hd'
  have hbut : But db w' (w'.setCell ⟨db, 1, none⟩ (.slice (some ⟨g, 0, none⟩) (k + 1) cap')) := (But.refl _ _).setCell 1 _
  have hgd : g ≠ db := by omega
  have hbw : Below w.heap.size w w' := (h7.trans (hal.mono h7.size)).grown r2 (by have := h7.size; omega) (fun j hj => by
    rcases hownW.2 with ⟨e1, _⟩ | ⟨g0, c0, cur0, e1, e2, _⟩
    · cases e1; cases hj
    · cases e1
      have : g0 = j := by simpa [Value.ownBlock] using hj
      omega)
  refine ⟨some ⟨g, 0, none⟩, cap', w', hrun, ⟨xs ++ [rest % 4294967296], dbox_set hd', ?_, hn'.away hbut hne (noword_dy hd'), ?_, ?_, ?_, Below.setCell hbw (by show w.heap.size ≤ db; omega) _, ?_, ?_⟩, ?_, ?_⟩
  · have e : (xs ++ [rest % 4294967296]).length = k + 1 := by rw [List.length_append, ← hxl]; rfl
    show World.ownsRow _ _ _ _ _ _ _
    rw [e, List.map_append]
    refine ⟨r1.1, ?_⟩
    rcases r1.2 with ⟨hc, _⟩ | ⟨g1, c1, cur1, e1, e2, e3, e4⟩
    · cases hc
    · cases e1
      exact Or.inr ⟨g, cap', cur1, rfl, e2, by rw [set_keep hgd]; exact e3, e4⟩
  · rw [natL_append, ← hxl]
    show natL xs + 4294967296 ^ k * (rest % 4294967296 + 4294967296 * 0) + _ = M
    rw [Nat.mul_zero, Nat.add_zero, Nat.pow_succ, Nat.mul_comm (4294967296 ^ k) 4294967296, mid_val]
    exact h4
  · intro d hd
    rcases List.mem_append.1 hd with hd | hd
    · exact h5 d hd
    · simp at hd; subst hd; exact Nat.mod_lt _ (by decide)
  · intro h0
    exact can_app xs _ (by omega)
  · rw [set_keep (by omega), hkeep _ (by omega)]; exact h8
  · have := r2.size
    simp
    omega
  · unfold DyBox at hd'; simp [World.cell?, hd']
  · intro o; unfold DyBox at hd'; simp [World.frozen?, hd']
/-- Behind the shift: one turn more. -/
theorem out_next {w w4 V V' : World} {db nb : Nat} {N : Bool} {E : Int} {M : Nat} {a : Option Addr} {k cap rest : Nat} (h : MidI w w4 V db nb N E M a k cap rest) (hdb4 : db < w4.heap.size) (hnb4 : nb < w4.heap.size) (hnw : w.heap.size + 1 < nb) (hn : NatF V.heap.size V' nb (rest / 4294967296) 201) (hb : But nb V V') : OutI w w4 V' db nb N E M a k cap (rest / 4294967296) := by
  obtain ⟨xs, h1, h2, h3, h4, h5, h6, h7, h8, h9⟩ := h
  have hne := h3.ne_dy h1
  have hrow : ∀ g, Value.ownBlock (.slice a k cap) = some g → w4.heap.size ≤ g ∧ g < V.heap.size := fun g hg => by
    rcases h2.2 with ⟨e1, _⟩ | ⟨g0, c0, cur0, e1, e2, e3, _⟩
    · cases e1; cases hg
    · cases e1
      have : g0 = g := by simpa [Value.ownBlock] using hg
      subst this
      exact ⟨e2, (Array.getElem?_eq_some_iff.1 e3).1⟩
  refine ⟨xs, by rw [hb.block db (by omega) (fun c => hne c.symm)]; exact h1, ?_, hn.off (fun g hg => (hrow g hg).2), h4, h5, h6, h7.trans (hb.below h7.size (by omega)), by rw [hb.block _ (Array.getElem?_eq_some_iff.1 h8).1 (by omega)]; exact h8, Nat.le_trans h9 hb.size⟩
  refine ⟨h2.1, ?_⟩
  rcases h2.2 with h | ⟨g0, c0, cur0, e1, e2, e3, e4⟩
  · exact Or.inl h
  · exact Or.inr ⟨g0, c0, cur0, e1, e2, by rw [hb.block g0 (Array.getElem?_eq_some_iff.1 e3).1 (by omega)]; exact e3, e4⟩
end Go.Proofs.YtehnkgonhgjeiaaGreatDoor

namespace Go.Proofs.YtehnkgonhgjeiaaGreatDoor
open Go.RowKit Go.IntWalk

theorem num_len {w : World} {q bd : Nat} {v : Int} (h : NumAt w q v bd) : bitLen v.natAbs ≤ 32 * bd := by
  obtain ⟨neg, L, h1, h2, a, cap, ho, hcap, hm, hd, hc, hn⟩ := h
  refine bitLen_le _ _ ?_
  have e : v.natAbs = natL L := by rw [← h1]; unfold intL; split <;> omega
  rw [e, ← pw32]
  exact Nat.lt_of_lt_of_le (natL_lt L hd) (Nat.pow_le_pow_right (by decide) h2)
theorem oddv_num {w : World} {q bd : Nat} {e B z : Int} (h : OddV w q e B z bd) : ∃ v : Int, NumAt w q v bd ∧ ((z = 0 ∧ v = 0 ∧ e = 0) ∨ (v % 2 = 1 ∧ ∃ k : Nat, e = B + k ∧ z = v * 2 ^ k)) := by
  rcases h with ⟨h1, h2, h3⟩ | ⟨v, k, h1, h2, h3, h4⟩
  · exact ⟨0, h2, Or.inl ⟨h1, rfl, h3⟩⟩
  · exact ⟨v, h2, Or.inr ⟨h1, k, h3, h4⟩⟩
theorem wrap_low (u d : Nat) (h : u % 4294967296 = d) : IntKind.u32.wrap ((u : Int).tmod 4294967296) = (d : Int) := by
  rw [IntKind.wrap_u32, Int.tmod_eq_emod_of_nonneg (by omega)]
  omega
theorem sgn_neg (v : Int) : sgnZ v < 0 ↔ v < 0 := by
  unfold sgnZ
  rcases Int.lt_trichotomy v 0 with h | h | h <;> split <;> (try split) <;> omega
theorem out_int {xs : List Nat} {v : Int} {N : Bool} (hM : natL xs = v.natAbs) (hN : N = decide (v < 0)) : intL N xs = v := by
  unfold intL
  rw [hM, hN]
  by_cases c : v < 0
  · rw [if_pos (decide_eq_true c)]; omega
  · rw [if_neg (by rw [decide_eq_false c]; decide)]; omega
theorem out_nil {xs : List Nat} {v : Int} {N : Bool} (hc : CanL xs) (hM : natL xs = v.natAbs) (hN : N = decide (v < 0)) (h : v = 0) : xs = [] ∧ N = false := by
  subst h
  exact ⟨(natL_zero xs hc).1 hM, by rw [hN]; rfl⟩
theorem out_val {xs : List Nat} {v z e' B : Int} {N : Bool} (hd : DigL xs) (hc : CanL xs) (hM : natL xs = v.natAbs) (hN : N = decide (v < 0)) (h : (z = 0 ∧ v = 0 ∧ e' = 0) ∨ (v % 2 = 1 ∧ ∃ k : Nat, e' = B + k ∧ z = v * 2 ^ k)) : DyV N xs e' z B := by
  refine ⟨hd, hc, ?_⟩
  rcases h with ⟨h1, h2, h3⟩ | ⟨h1, k, h2, h3⟩
  · obtain ⟨g1, g2⟩ := out_nil hc hM hN h2
    exact Or.inl ⟨h1, g1, g2, h3⟩
  · exact Or.inr ⟨by rw [hM]; omega, k, by rw [out_int hM hN]; exact h3.symm, h2⟩
theorem out_may {xs : List Nat} {v z e' B : Int} {N : Bool} (hc : CanL xs) (hM : natL xs = v.natAbs) (hN : N = decide (v < 0)) (h : (z = 0 ∧ v = 0 ∧ e' = 0) ∨ (v % 2 = 1 ∧ ∃ k : Nat, e' = B + k ∧ z = v * 2 ^ k)) (hl : xs.length ≤ 2048) (h1 : -10000 ≤ e') (h2 : e' ≤ 16400) : DyMay N xs e' := by
  rcases h with ⟨_, g2, g3⟩ | ⟨g1, _⟩
  · obtain ⟨k1, k2⟩ := out_nil hc hM hN g2
    exact Or.inl ⟨k1, k2, g3⟩
  · refine Or.inr ⟨?_, by rw [hM]; omega, hc, hl, by omega, by omega⟩
    rintro rfl
    have : natL [] = 0 := rfl
    omega
set_option maxRecDepth 4000 in
set_option maxHeartbeats 4000000 in
theorem xOut_any (p : Nat) (e B z : Int) (w : World) (h : ExV w p e B z 200) (he1 : -10000 ≤ e) (he2 : e ≤ 10000) (hT : Tab32 w) (hs : 2 < w.heap.size) :
    Calls Tryz.prog 25 #[.agg #[.pointer (some ⟨p, 0, none⟩), .int .i64 e]] w fun r w' => ∃ neg a n cap e', r = .returned (.tuple #[.agg #[.bool neg, .slice a n cap, .int .i64 e'], .int .i64 0]) ∧ DyAt w' neg a n cap e' z B ∧ Below w.heap.size w w' := by
  obtain ⟨W0, hW0⟩ : ∃ V, Hid ((w.alloc (XBox (some ⟨p, 0, none⟩) e)).alloc (DyBox false none 0 0 0) = V) := ⟨_, rfl⟩
  obtain ⟨g1, g2⟩ := two_blk w (XBox (some ⟨p, 0, none⟩) e) (DyBox false none 0 0 0)
  rw [hW0.out] at g1 g2
  have HS0 : Hid (W0.heap.size = w.heap.size + 2) := by
    show W0.heap.size = w.heap.size + 2
    rw [← hW0.out]; simp
  have HB0 : Hid (Below w.heap.size w W0) := by
    rw [← hW0.out]
    exact ((Below.refl _ _).alloc (Nat.le_refl _) _).alloc (by simp) _
  have HOD := hid (xOdd_val p 200 e B z W0 (h.below HB0.out) (by decide) (by omega) (by omega) (hT.below hs HB0.out) (Nat.lt_of_lt_of_le hs HB0.out.size))
  obtain ⟨x0, x1, _⟩ := xcells_of (show W0.heap[w.heap.size]? = some (.cells #[.pointer (some ⟨p, 0, none⟩), .int .i64 e] 46) from g1)
  have HG1 := hid g1
  have HG2 := hid g2
  unfold XBox DyBox at hW0
  clear h hT hs g1 g2
  go_enter Tryz.func25, Tryz.ntmps25
  go_wp2_with fail
  rw [hW0.out]
  refine HOD.out.mono ?_
  rintro r w1 ⟨q, e', rfl, ho, hee, hb1⟩
  have hE1 : -10000 ≤ e' := by rcases hee with h | h <;> omega
  have hE2 : e' ≤ 16400 := by rcases hee with h | h <;> omega
  have k1 : w1.heap[w.heap.size]? = some (XBox (some ⟨p, 0, none⟩) e) := by rw [hb1.block _ (by have := HS0.out; omega)]; exact HG1.out
  have k2 : w1.heap[w.heap.size + 1]? = some (DyBox false none 0 0 0) := by rw [hb1.block _ (by have := HS0.out; omega)]; exact HG2.out
  obtain ⟨v, hn1, hval⟩ := oddv_num ho
  obtain ⟨c0, c1, c2⟩ := xcells_of k1
  -- the world behind x = x.Odd()
  obtain ⟨V1, hV1⟩ : ∃ V, Hid ((w1.setCell ⟨w.heap.size, 0, none⟩ (.pointer (some ⟨q, 0, none⟩))).setCell ⟨w.heap.size, 1, none⟩ (.int .i64 e') = V) := ⟨_, rfl⟩
  have HN1 : Hid (NumAt V1 q v 201) := by rw [← hV1.out]; exact hn1.stored (hn1.ne_x k1) k1 _ _
  have HX1 : Hid (V1.heap[w.heap.size]? = some (XBox (some ⟨q, 0, none⟩) e')) := by rw [← hV1.out]; exact box_set k1
  have HD1 : Hid (V1.heap[w.heap.size + 1]? = some (DyBox false none 0 0 0)) := by rw [← hV1.out]; show (World.setCell _ _ _).heap[_]? = _; rw [box_keep (by omega)]; exact k2
  have HB1 : Hid (Below w.heap.size w V1) := by rw [← hV1.out]; exact Below.setCell (Below.setCell (HB0.out.trans (hb1.mono HB0.out.size)) (Nat.le_refl _) _) (Nat.le_refl _) _
  have HVAL := hid hval
  have hbl : (bitLen v.natAbs : Int) ≤ 6432 := by have := num_len hn1; omega
  obtain ⟨BL, hBL⟩ : ∃ b, Hid (bitLen v.natAbs = b) := ⟨_, rfl⟩
  rw [hBL.out] at hbl
  obtain ⟨y0, y1, _⟩ := xcells_of (show V1.heap[w.heap.size]? = some (.cells #[.pointer (some ⟨q, 0, none⟩), .int .i64 e'] 46) from HX1.out)
  have hV1' := hV1.out
  clear ho hee hb1 k1 k2 hn1 hval x0 x1
  go_wp2_with fail
  refine (NBitLen q v 201 _ HN1.out (by decide)).mono ?_
  rw [hBL.out]
  rintro r w2 ⟨rfl, m, rfl⟩
  have HSG : Hid (∀ W, Hid (Below V1.heap.size V1 W) → Calls Tryz.prog 69 #[.pointer (some ⟨q, 0, none⟩)] W fun r w' => r = .returned (.int .i64 (sgnZ v)) ∧ w' = W) := fun W hW => NSign q v 201 W (HN1.out.below hW.out)
  have HK1 : Hid (∀ W, Hid (Below V1.heap.size V1 W) → (W.cell? ⟨w.heap.size, 0, none⟩ = some (.pointer (some ⟨q, 0, none⟩)) ∧ W.cell? ⟨w.heap.size, 1, none⟩ = some (.int .i64 e')) ∧ Hid (Below V1.heap.size V1 W)) := fun W hW => by
    have := xcells_of ((hW.out.block _ (Array.getElem?_eq_some_iff.1 HX1.out).1).trans HX1.out)
    exact ⟨⟨this.1, this.2.1⟩, hW⟩
  have HQ0 : Hid (Below V1.heap.size V1 (V1.drewN m)) := bl_drewN _ (Below.refl _ _)
  have HSU : Hid ((V1.drewN m).heap.size = V1.heap.size) := rfl
  have HC0 : Hid (V1.heap.size ≤ V1.heap.size) := Nat.le_refl _
  obtain ⟨sg, hsg⟩ : ∃ s, Hid (sgnZ v = s) := ⟨_, rfl⟩
  rw [hsg.out] at HSG
  go_wp2_with fail
  obtain ⟨U, hU⟩ : ∃ U, Hid (V1.drewN m = U) := ⟨_, rfl⟩
  rw [hU.out] at HQ0 HSU ⊢
  have HQ1 : Hid (Below V1.heap.size V1 U.drew) := HQ0.out.drew
  have hsu : U.heap.size = V1.heap.size := HSU.out
  refine region_merge2 (fun a0 a' w' => a' = Act.put (Act.put (Act.put (Act.put (Act.put (Act.put (Act.put (Act.put a0 (some 23) (.pointer (some ⟨w.heap.size, 0, none⟩))) (some 24) (.pointer (some ⟨q, 0, none⟩))) (some 25) (.int .i64 sg)) (some 26) (.bool (decide (sg < 0)))) (some 27) (.pointer (some ⟨w.heap.size, 1, none⟩))) (some 28) (.int .i64 e')) (some 29) (.agg #[.bool (decide (sg < 0)), .slice none 0 0, .int .i64 e'])) (some 4) (.pointer (some ⟨V1.heap.size, 0, none⟩)) ∧ w' = (U.drew).alloc (.cells #[.bool (decide (sg < 0)), .slice none 0 0, .int .i64 e'] 41)) (fun HR => ?_) ?_
  · simp only [Act.put, List.setIfInBounds_toArray, List.set_cons_zero, List.set_cons_succ] at HR
    go_region_held3 (fun W => (W.cell? ⟨w.heap.size, 0, none⟩ = some (.pointer (some ⟨q, 0, none⟩)) ∧ W.cell? ⟨w.heap.size, 1, none⟩ = some (.int .i64 e')) ∧ Hid (Below V1.heap.size V1 W))
      ((refine HK1.out _ ?_; repeat' (first | with_reducible assumption | with_reducible exact HQ1 | with_reducible exact And.right (by assumption) | with_reducible refine bw_dr ?_ | with_reducible refine bw_al ?_ HC0 _ | with_reducible refine bw_st ?_ _ (by simp) _ _ _)))
      (first
        | (go_at_call 69; refine (HSG.out _ (And.right (by assumption))).mono ?_; rintro r w3 ⟨rfl, rfl⟩)
        | fail)
    all_goals exact HR.out _ _ ⟨rfl, rfl⟩
  rintro a' w3 ⟨rfl, rfl⟩
  simp only [Act.put, List.setIfInBounds_toArray, List.set_cons_zero, List.set_cons_succ]
  obtain ⟨N, hN⟩ : ∃ N, Hid (decide (sg < 0) = N) := ⟨_, rfl⟩
  rw [hN.out]
  have HB2 : Hid (Below V1.heap.size V1 ((U.drew).alloc (DyBox N none 0 0 e'))) := bw_al HQ1 HC0 _
  have HD2 : Hid (((U.drew).alloc (DyBox N none 0 0 e')).heap[V1.heap.size]? = some (DyBox N none 0 0 e')) := new_blk _ _ _ HSU.out.symm
  have HS2 : Hid (((U.drew).alloc (DyBox N none 0 0 e')).heap.size = V1.heap.size + 1) := by show ((U.drew).alloc _).heap.size = V1.heap.size + 1; simp; exact HSU.out
  obtain ⟨V2, hV2⟩ : ∃ V, Hid ((U.drew).alloc (DyBox N none 0 0 e') = V) := ⟨_, rfl⟩
  rw [hV2.out] at HB2 HD2 HS2
  unfold DyBox at hV2
  rw [hV2.out]
  have HB3 : Hid (Below V1.heap.size V1 (V2.alloc (.cells #[.bool false, .slice none 0 0] 90))) := bw_al HB2 HC0 _
  obtain ⟨y0, y1⟩ := (HK1.out _ HB3).1
  have HN3 := hid (HN1.out.below HB3.out)
  go_wp2_with fail
  refine (NAbs V2.heap.size q v 201 _ (fresh_zok V2) HN3.out (by decide)).mono ?_
  rintro r w4 ⟨rfl, hn4, hb4⟩
  obtain ⟨M, hM⟩ : ∃ M, Hid (v.natAbs = M) := ⟨_, rfl⟩
  have HML : Hid (M < 4294967296 ^ 201) := by
    obtain ⟨neg, L, h1, h2, a, cap, ho, hcap, hm, hd, hc, hn⟩ := HN1.out
    have e : v.natAbs = natL L := by rw [← h1]; unfold intL; split <;> omega
    show M < _
    rw [← hM.out, e]
    exact Nat.lt_of_lt_of_le (natL_lt L hd) (Nat.pow_le_pow_right (by decide) h2)
  rw [hM.out] at hn4
  have hsz4 : V2.heap.size < w4.heap.size := by have := hb4.size; simp at this; omega
  have HBV4 : Hid (Below w.heap.size w w4) := by
    have h1 : Below w.heap.size w (V2.alloc (.cells #[.bool false, .slice none 0 0] 90)) := HB1.out.trans (HB3.out.mono HB1.out.size)
    exact h1.trans (hb4.below h1.size (by have := HS2.out; have := HB1.out.size; omega))
  have HOI : Hid (OutI w w4 w4 V1.heap.size V2.heap.size N e' M none 0 0 M) := by
    have hrb := (Array.getElem?_eq_some_iff.1 HD1.out).1
    refine ⟨[], ?_, World.ownsRow_nil _ _ _ _, hn4.off, by show 0 + 1 * M = M; omega, fun d hd => absurd hd List.not_mem_nil, fun _ hc => absurd rfl hc, HBV4.out, ?_, Nat.le_refl _⟩
    · rw [hb4.block _ (by simp; have := HS2.out; omega) (by have := HS2.out; omega), ((Below.refl V2.heap.size V2).alloc (Nat.le_refl _) _).block _ (by have := HS2.out; omega)]
      exact HD2.out
    · rw [hb4.block _ (by simp; have := HS2.out; omega) (by have := HS2.out; omega), HB3.out.block _ hrb]
      exact HD1.out
  have HAR : Hid (w.heap.size + 1 < V1.heap.size ∧ V1.heap.size < w4.heap.size ∧ V2.heap.size < w4.heap.size ∧ w.heap.size + 1 < V2.heap.size) := by
    have hrb := (Array.getElem?_eq_some_iff.1 HD1.out).1
    have := HS2.out
    exact ⟨hrb, by omega, hsz4, by omega⟩
  obtain ⟨db, hdb⟩ : ∃ d, Hid (V1.heap.size = d) := ⟨_, rfl⟩
  obtain ⟨nb, hnb⟩ : ∃ d, Hid (V2.heap.size = d) := ⟨_, rfl⟩
  rw [hdb.out, hnb.out] at HOI HAR
  clear hn4 hb4 hsz4 hsu
  go_wp2_with fail
  rw [hdb.out, hnb.out]
  clear HB3 HN3 HB2 HD2 HS2 HSU HQ0 HQ1 HK1 HSG HC0 y0 y1
  go_loopw [] (fun wr => ∃ a k cap rest, Hid (OutI w w4 wr db nb N e' M a k cap rest)) (fun wr => match wr.cell? ⟨db, 1, none⟩ with | some (.slice _ n _) => 300 - n | _ => 0)
  case atStart => exact ⟨none, 0, 0, M, HOI⟩
  case round =>
    obtain ⟨a, k, cap, rest, HI⟩ := hrel
    have HNR : Hid (NumAt wr nb (rest : Int) 201) := by obtain ⟨_, _, _, h3, _⟩ := HI.out; exact h3.num
    obtain ⟨b0, b1, b2⟩ : wr.cell? ⟨db, 0, none⟩ = some (.bool N) ∧ wr.cell? ⟨db, 1, none⟩ = some (.slice a k cap) ∧ wr.cell? ⟨db, 2, none⟩ = some (.int .i64 e') := by obtain ⟨_, h1, _⟩ := HI.out; exact dcells_of h1
    by_cases hr0 : rest = 0
    · subst hr0
      have hsr : sgnZ ((0 : Nat) : Int) = 0 := rfl
      obtain ⟨xs, h1, h2, h3, h4, h5, h6, h7, h8, h9⟩ := HI.out
      obtain ⟨t0, t1, t2⟩ := dcells_of h8
      have fz : ∀ o, wr.frozen? ⟨w.heap.size + 1, o, none⟩ = false := fun o => by unfold DyBox at h8; simp [World.frozen?, h8]
      have HFIN : Hid (DyAt (((wr.setCell ⟨w.heap.size + 1, 0, none⟩ (.bool N)).setCell ⟨w.heap.size + 1, 1, none⟩ (.slice a k cap)).setCell ⟨w.heap.size + 1, 2, none⟩ (.int .i64 e')) N a k cap e' z B) := by
        obtain ⟨m1, m2, m3⟩ := OwnsW.mag h2
        have hbut : But (w.heap.size + 1) wr (((wr.setCell ⟨w.heap.size + 1, 0, none⟩ (.bool N)).setCell ⟨w.heap.size + 1, 1, none⟩ (.slice a k cap)).setCell ⟨w.heap.size + 1, 2, none⟩ (.int .i64 e')) := (((But.refl _ _).setCell 0 _).setCell 1 _).setCell 2 _
        have hM4 : natL xs = v.natAbs := by rw [hM.out]; omega
        have hN4 : N = decide (v < 0) := by rw [← hN.out, ← hsg.out]; exact decide_eq_decide.2 (sgn_neg v)
        refine ⟨xs, m1.symm, m2, m3.but hbut (fun b off e h0 => ?_), out_val h5 (h6 rfl) hM4 hN4 HVAL.out, out_may (h6 rfl) hM4 hN4 HVAL.out ?_ hE1 hE2⟩
        · subst e
          rcases h2.2 with ⟨e1, _⟩ | ⟨g0, c0, cur0, e1, e2, _⟩
          · cases e1
          · cases e1
            have := HAR.out
            omega
        · rw [← m1]
          have h := len_small xs 201 (h6 rfl) (by rw [hM4, hM.out]; exact HML.out)
          omega
      have HBF : Hid (Below w.heap.size w (((wr.setCell ⟨w.heap.size + 1, 0, none⟩ (.bool N)).setCell ⟨w.heap.size + 1, 1, none⟩ (.slice a k cap)).setCell ⟨w.heap.size + 1, 2, none⟩ (.int .i64 e'))) := Below.setCell (Below.setCell (Below.setCell h7 (by show w.heap.size ≤ w.heap.size + 1; omega) _) (by show w.heap.size ≤ w.heap.size + 1; omega) _) (by show w.heap.size ≤ w.heap.size + 1; omega) _
      clear h1 h2 h3 h4 h5 h6 h7 h8 h9
      go_wp2_with fail
      refine (NSign nb _ 201 _ HNR.out).mono ?_
      rw [hsr]
      rintro r w5 ⟨rfl, rfl⟩
      go_wp2
      exact bodyPost_ret (v := .tuple #[.agg #[.bool N, .slice a k cap, .int .i64 e'], .int .i64 0]) (by simp [results, Tryz.results25, go_sem, t0, t1, t2]) rfl ⟨N, a, k, cap, e', rfl, HFIN.out, HBF.out⟩
    · have hsr : sgnZ (rest : Int) = 1 := by unfold sgnZ; rw [if_neg (by omega)]; split <;> omega
      have hk : k < 201 := out_count HI.out HML.out hr0
      have HUL : Hid (∀ W, Hid (Below wr.heap.size wr W) → Calls Tryz.prog 71 #[.pointer (some ⟨nb, 0, none⟩)] W fun r w' => ∃ u : Nat, r = .returned (.int .u64 u) ∧ u < 18446744073709551616 ∧ u % 4294967296 = rest % 4294967296 ∧ w' = W) := fun W hW => NUlow nb rest 201 W (HNR.out.below hW.out)
      have HAP := hid (fun ty T => out_append HI.out HML.out hr0 HAR.out.1 HAR.out.2.1 HAR.out.2.2.1 ty T)
      obtain ⟨d, hd⟩ : ∃ d, Hid (rest % 4294967296 = d) := ⟨_, rfl⟩
      rw [hd.out] at HAP HUL
      have hdl : d < 4294967296 := by rw [← hd.out]; exact Nat.mod_lt _ (by decide)
      have HRS : Hid (∀ W a' cap', Hid (MidI w w4 W db nb N e' M a' (k + 1) cap' rest) → Calls Tryz.prog 72 #[.pointer (some ⟨nb, 0, none⟩), .pointer (some ⟨nb, 0, none⟩), .int .u64 32] W fun r w' => r = .returned (.pointer (some ⟨nb, 0, none⟩)) ∧ Hid (OutI w w4 w' db nb N e' M a' (k + 1) cap' (rest / 4294967296)) ∧ w'.cell? ⟨db, 1, none⟩ = some (.slice a' (k + 1) cap')) := fun W a' cap' h => by
        have hnum : NumAt W nb (rest : Int) 201 := by obtain ⟨_, _, _, h3, _⟩ := h.out; exact h3
        refine (NRshF nb rest 32 201 W hnum (by decide) (by decide)).mono ?_
        rintro r w' ⟨rfl, h2, h3⟩
        have ho := out_next h.out HAR.out.2.1 HAR.out.2.2.1 HAR.out.2.2.2 h2 h3
        refine ⟨rfl, ho, ?_⟩
        obtain ⟨_, g1, _⟩ := ho
        exact (dcells_of g1).2.1
      have HQ0 : Hid (Below wr.heap.size wr wr.drew) := (Below.refl _ _).drew
      have hdbw : db < wr.heap.size := by obtain ⟨_, h1, _⟩ := HI.out; exact (Array.getElem?_eq_some_iff.1 h1).1
      have b1' : (wr.alloc (.cells #[.int .u32 (d : Int)] 92)).cell? ⟨db, 1, none⟩ = some (.slice a k cap) := by rw [((Below.refl wr.heap.size wr).alloc (Nat.le_refl _) _).cell (p := ⟨db, 1, none⟩) hdbw]; exact b1
      clear hr0
      go_wp2_with fail
      refine (NSign nb _ 201 _ HNR.out).mono ?_
      rw [hsr]
      rintro r w5 ⟨rfl, rfl⟩
      go_wp2_with fail
      go_region_law (first
        | (refine step_append_w rfl _ _ rfl (.slice a k cap) (.slice (some ⟨w5.heap.size, 0, none⟩) 1 1) (by first | rfl | (simp [Act.eval]; done) | (simp [Act.eval, Act.put]; done)) (by first | rfl | (simp [Act.eval]; done) | (simp [Act.eval, Act.put]; done)) ?_; obtain ⟨a', cap', w7, hr, HM7, k0, k1⟩ := HAP.out _ _; refine ⟨a', k + 1, cap', w7, hr, ?_⟩; clear hr)
        | (go_simp; go_wp2_with (go_at_call 71; refine (HUL.out _ HQ0).mono ?_; rintro r w6 ⟨u, rfl, hu1, hu2, rfl⟩; have hu3 := wrap_low u d hu2; clear hu1 hu2)))
      all_goals
        go_wp2_with fail
        refine (HRS.out _ _ _ HM7).mono ?_
        rintro r w8 ⟨rfl, HO8, hc8⟩
        go_wp2
        refine ⟨⟨a', k + 1, cap', _, HO8⟩, ?_⟩
        rw [hc8, b1]
        show 300 - (k + 1) < 300 - k
        omega
end Go.Proofs.YtehnkgonhgjeiaaGreatDoor

namespace Go.Proofs.YtehnkgonhgjeiaaGreatDoor
open Go.RowKit Go.IntWalk

theorem dy_zero (w : World) (e : Int) : DyAt w false none 0 0 0 0 e := ⟨[], rfl, Nat.le_refl _, fun _ hi => absurd hi (Nat.not_lt_zero _), ⟨fun _ hd => absurd hd List.not_mem_nil, fun h => absurd rfl h, Or.inl ⟨rfl, rfl, rfl, rfl⟩⟩, Or.inl ⟨rfl, rfl, rfl⟩⟩
theorem DyAt.stored {W : World} {b : Nat} {n1 n2 : Bool} {a1 a2 : Option Addr} {k1 k2 c1 c2 : Nat} {e1 e2 z e : Int} (h : DyAt W n1 a1 k1 c1 e1 z e) (hb : W.heap[b]? = some (DyBox n2 a2 k2 c2 e2)) (x y v : Value) : DyAt (((W.setCell ⟨b, 0, none⟩ x).setCell ⟨b, 1, none⟩ y).setCell ⟨b, 2, none⟩ v) n1 a1 k1 c1 e1 z e := by
  obtain ⟨L, h1, h2, h3, h4, h5⟩ := h
  refine ⟨L, h1, h2, h3.but ((((But.refl b W).setCell 0 _).setCell 1 _).setCell 2 _) (fun b' off e h0 hc => ?_), h4, h5⟩
  obtain ⟨b2, off2, g1, _, g3⟩ := h3 0 (by omega)
  rw [e] at g1
  cases g1
  subst hc
  exact noword_dy hb _ _ g3
end Go.Proofs.YtehnkgonhgjeiaaGreatDoor
