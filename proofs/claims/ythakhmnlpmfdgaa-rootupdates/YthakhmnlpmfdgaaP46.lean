
/- Numbers appended to one's own rows beside each other. -/
import Derived.Test.YthakhmnlpmfdgaaP45
import Derived.Maps.AppendAt
import Derived.RangeFuncBox
namespace Go.Proofs.Ythakhmnlpmfdgaa
open Go.RowKit Go.IntWalk

theorem Stp.stepB {B b : Nat} {o : Bool} {w W W' : World} (h : Stp B b o w W) (hb : Below B W W') (hlt : b < B) : Stp B b o w W' := ⟨h.bel.trans (hb.mono (Nat.zero_le _)), fun x hx hn => (hb.block x hx).trans (h.keep x hx hn), (hb.block b hlt).trans h.box⟩
theorem owns_keepr {w w' : World} {base size n : Nat} {e : TypeId} {v : Value} {xs : List Value} (h : w.ownsRow base e size v n xs) (hb : Below w.heap.size w w') : w'.ownsRow base e size v n xs := by
  rcases h with ⟨h1, ⟨rfl, h2⟩ | ⟨g, cp, cur, rfl, h2, hg, h3⟩⟩
  · exact ⟨h1, Or.inl ⟨rfl, h2⟩⟩
  · exact ⟨h1, Or.inr ⟨g, cp, cur, rfl, h2, (hb.block g (Array.getElem?_eq_some_iff.1 hg).1).trans hg, h3⟩⟩
theorem owns_sets {W : World} {B k b : Nat} {o : Bool} {v : Value} {vs : List Value} (h : W.ownsRow B 28 1 v k vs) (hb : W.heap[b]? = some (SBx o)) (x : Value) : (W.setCell ⟨b, 0, none⟩ x).ownsRow B 28 1 v k vs := by
  rcases h with ⟨h1, ⟨rfl, h2⟩ | ⟨g, cp, cur, rfl, h2, hg, h3⟩⟩
  · exact ⟨h1, Or.inl ⟨rfl, h2⟩⟩
  · have hne : g ≠ b := fun e => by
      subst e
      rw [hg] at hb
      unfold SBx at hb
      simp at hb
    exact ⟨h1, Or.inr ⟨g, cp, cur, rfl, h2, (Below.heap_setCell W ⟨b, 0, none⟩ x g hne).trans hg, h3⟩⟩
/-- One number appended to a row of one's own, beside another one. -/
theorem app_at {W : World} {B k cap : Nat} {sk : Option Addr} {ys : List Nat} (z : Nat) (ty : TypeId) {v2 : Value} {k2 : Nat} {zs2 : List Nat} (h : W.ownsRow B 28 1 (.slice sk k cap) k (ys.map (.float .f64))) (h2 : W.ownsRow B 28 1 v2 k2 (zs2.map (.float .f64))) (hd : ∀ g, (Value.slice sk k cap).ownBlock = some g → v2.ownBlock ≠ some g) (hk : k ≤ 100) (hB : B ≤ W.heap.size) :
    ∃ g c w', (Builtin.append_ #[32, 32] ty #[.slice sk k cap, .slice (some ⟨W.heap.size, 0, none⟩) 1 1]).run Try.prog (W.alloc (.cells #[.float .f64 z] 28)) = .ok (.slice (some ⟨g, 0, none⟩) (k + 1) c) w' ∧ w'.ownsRow B 28 1 (.slice (some ⟨g, 0, none⟩) (k + 1) c) (k + 1) ((ys ++ [z]).map (.float .f64)) ∧ w'.ownsRow B 28 1 v2 k2 (zs2.map (.float .f64)) ∧ v2.ownBlock ≠ some g ∧ Below B W w' := by
  obtain ⟨i0, hi, hz0, hz1, hz2⟩ := info_parts info_f
  have al : Below W.heap.size W (W.alloc (.cells #[.float .f64 z] 28)) := (Below.refl _ _).alloc (Nat.le_refl _) _
  have hs1 : (W.alloc (.cells #[.float .f64 z] 28)).heap.size = W.heap.size + 1 := World.size_alloc _ _
  obtain ⟨v', w', hrun, r1, r2, _, r4⟩ := run_append_own_at (P := Try.prog) (W.alloc (.cells #[.float .f64 z] 28)) B 32 ty 28 i0 (.float .f64 0) 1 8 Try.underlying32 hi hz0 hz1 hz2 rfl (by decide) (.slice sk k cap) k _ (owns_keepr h al) ⟨W.heap.size, 0, none⟩ 1 1 [.float .f64 z] rfl (fun j u hj => by
    match j, hj with
    | 0, hj =>
      simp at hj
      subst hj
      simp [Addr.add]) (by intro u hu; simp at hu; subst hu; rfl) (by unfold maxLen; omega) (by omega) (by omega)
  obtain ⟨g, c, rfl⟩ := ownsRow_succ r1
  have hkeep : ∀ y, y < W.heap.size → (Value.slice sk k cap).ownBlock ≠ some y → w'.heap[y]? = W.heap[y]? := fun y hy hn => (r2.block y (by omega) (fun e => hn e.symm)).trans (al.block y hy)
  refine ⟨g, c, w', hrun, by rw [List.map_append]; exact r1, ?_, ?_, ((Below.refl _ _).alloc hB _).grown r2 (by omega) (fun t ht => (World.ownsRow.lt h t ht).1)⟩
  · rcases h2 with ⟨h1, ⟨rfl, h3⟩ | ⟨g2, cp, cur, rfl, h3, hg, h4⟩⟩
    · exact ⟨h1, Or.inl ⟨rfl, h3⟩⟩
    · exact ⟨h1, Or.inr ⟨g2, cp, cur, rfl, h3, (hkeep g2 (Array.getElem?_eq_some_iff.1 hg).1 (fun e => hd g2 e rfl)).trans hg, h4⟩⟩
  · intro e
    rcases r4 with r4 | r4
    · exact hd g r4.symm e
    · have e1 : g = W.heap.size + 1 := by
        have : (Value.slice (some ⟨g, 0, none⟩) (k + 1) c).ownBlock = some g := rfl
        rw [this, hs1] at r4
        exact Option.some.inj r4
      have := (World.ownsRow.lt h2 g e).2
      omega
/-- An append as one step of a region that draws. -/
theorem step_apr {ops : Array Oper} {o : Oper} {a : Act} {w w' : World} {K : Act → World → Prop} {Q : Exit → Act → World → Prop} {E : Prop} {r : Value} (T : TypeId) (d : Nat)
    (hg : o.guard = none) (hd : o.dst = some d) (s x : Operand) (hop : o.op = Op.call { callee := Callee.builtin Builtin.append, args := #[s, x], argTypes := #[T, T] })
    (u v : Value) (hs : a.eval s = u) (hx : a.eval x = v) (hrun : (Builtin.append_ #[T, T] o.type #[u, v]).run Try.prog w = .ok r w') (hK : K (a.put (some d) r) w') :
    if Region.wanted o (yielded ops a.tmps) = true then Oper.wp Try.prog o a w K Q else E := by
  have hw : Region.wanted o (yielded ops a.tmps) = true := by simp [Region.wanted, hg]
  rw [if_pos hw]
  unfold Oper.wp
  simp [execOp, hop, resolve, invoke, builtin, hs, hx, hrun, Result.andThen]
  show K (a.put o.dst r) w'
  rw [hd]
  exact hK
theorem set_smr (W : World) (b o : Nat) (v : Value) (cs : Array Value) (T : TypeId) (h : W.heap[b]? = some (.cells cs T)) (hv : cs.setIfInBounds o v = cs) : W.setCell ⟨b, o, none⟩ v = W := by
  have e : (W.setCell ⟨b, o, none⟩ v).heap = W.heap := by
    apply Array.ext_getElem?
    intro i
    by_cases c : b = i
    · subst c
      simp only [World.setCell, Array.getElem?_modify, h]
      simp [hv]
    · simp only [World.setCell, Array.getElem?_modify, if_neg c]
  have e2 : W.setCell ⟨b, o, none⟩ v = { W with heap := (W.setCell ⟨b, o, none⟩ v).heap } := rfl
  rw [e2, e]
theorem rsame {W : World} {b : Nat} {xa : Option Addr} {k kx : Nat} {r c : Int} {sa : Option Addr} {n ka : Nat} (h : W.heap[b]? = some (RBox xa k kx r c sa n ka)) : W.setCell ⟨b, 0, none⟩ (.slice xa k kx) = W ∧ W.setCell ⟨b, 1, none⟩ (.int .i64 r) = W ∧ W.setCell ⟨b, 2, none⟩ (.int .i64 c) = W ∧ W.setCell ⟨b, 3, none⟩ (.slice sa n ka) = W := by
  unfold RBox at h
  exact ⟨set_smr W b 0 _ _ _ h rfl, set_smr W b 1 _ _ _ h rfl, set_smr W b 2 _ _ _ h rfl, set_smr W b 3 _ _ _ h rfl⟩
theorem getD_last {i : Nat} (xs : List Nat) (z : Nat) (h : xs.length = i) : (xs ++ [z]).getD i 0 = z := by
  rw [List.getD_eq_getElem?_getD, List.getElem?_append_right (by omega), h, Nat.sub_self]
  rfl
theorem getD_init {t : Nat} (xs : List Nat) (z : Nat) (h : t < xs.length) : (xs ++ [z]).getD t 0 = xs.getD t 0 := by
  rw [List.getD_eq_getElem?_getD, List.getElem?_append_left h, List.getD_eq_getElem?_getD]
theorem own_fnr {W : World} {B k cap : Nat} {s : Option Addr} {ys : List Nat} (h : W.ownsRow B 28 1 (.slice s k cap) k (ys.map (.float .f64))) (hl : ys.length = k) (hy : ∀ t, t < k → ys.getD t 0 < 18446744073709551616) (_ : k ≤ 100) : FnM W s k cap (fun t => ys.getD t 0) := by
  rcases h.2 with ⟨e, h2⟩ | ⟨g, cp, cur, e, h2, hg, h3, h4, h5, h6⟩
  · cases e; exact Or.inl ⟨rfl, h2, rfl⟩
  · cases e
    refine Or.inr ⟨g, 0, rfl, (Array.getElem?_eq_some_iff.1 hg).1, h3, by unfold maxLen at h4; omega, fun j hj => ⟨?_, hy j hj⟩⟩
    have h7 := h.cellAt j (by omega)
    rw [Nat.zero_add, h7, List.getElem?_map]
    show Option.map _ ys[j]? = some (Value.float .f64 (ys.getD j 0))
    rw [List.getD_eq_getElem?_getD, List.getElem?_eq_getElem (by omega)]
    rfl
theorem rset4 {W : World} {b : Nat} {xa xb : Option Addr} {k kx k2 kx2 : Nat} {r c r2 c2 : Int} {sa sb : Option Addr} {n ka n2 ka2 : Nat} (h : W.heap[b]? = some (RBox xa k kx r c sa n ka)) : ((((W.setCell ⟨b, 0, none⟩ (.slice xb k2 kx2)).setCell ⟨b, 1, none⟩ (.int .i64 r2)).setCell ⟨b, 2, none⟩ (.int .i64 c2)).setCell ⟨b, 3, none⟩ (.slice sb n2 ka2)).heap[b]? = some (RBox xb k2 kx2 r2 c2 sb n2 ka2) := by
  unfold RBox at h ⊢
  simp [World.setCell, Array.getElem?_modify, h]
theorem sset4 {W : World} {b : Nat} {a1 a2 a3 b1 b2 b3 : Nat} {s s2 : Option Addr} {k l k2 l2 : Nat} (h : W.heap[b]? = some (StBox a1 a2 a3 s k l)) : ((((W.setCell ⟨b, 0, none⟩ (.float .f64 b1)).setCell ⟨b, 1, none⟩ (.float .f64 b2)).setCell ⟨b, 2, none⟩ (.float .f64 b3)).setCell ⟨b, 3, none⟩ (.slice s2 k2 l2)).heap[b]? = some (StBox b1 b2 b3 s2 k2 l2) := by
  unfold StBox at h ⊢
  simp [World.setCell, Array.getElem?_modify, h]
theorem FnM.sto4 {W : World} {q n k : Nat} {s : Option Addr} {f : Nat → Nat} (h : FnM W s n k f) (hq : ∀ g o, s = some ⟨g, o, none⟩ → g ≠ q) (a b c d : Value) : FnM ((((W.setCell ⟨q, 0, none⟩ a).setCell ⟨q, 1, none⟩ b).setCell ⟨q, 2, none⟩ c).setCell ⟨q, 3, none⟩ d) s n k f := by
  rcases h with h | ⟨g, off, e, h1, h2, h3, h4⟩
  · exact Or.inl h
  · have hn := hq g off e
    refine Or.inr ⟨g, off, e, by simpa [World.setCell] using h1, h2, h3, fun j hj => ⟨?_, (h4 j hj).2⟩⟩
    refine (World.cell?_of_block ?_).trans (h4 j hj).1
    show _ = W.heap[g]?
    rw [set_keepM hn, set_keepM hn, set_keepM hn, set_keepM hn]
end Go.Proofs.Ythakhmnlpmfdgaa
