
/- What the document's Set, Neg and Abs do. -/
import Derived.Test.YtpjdmhidhllbkaaDoorP13
import Derived.Deep.RegionLawGrows
namespace Go.Proofs.YtpjdmhidhllbkaaDoor
open Go.RowKit Go.IntWalk

theorem infoU2 : ∃ i, Tryd.prog.info? 64 = some i ∧ i.zero = some (.int .u32 0) ∧ i.size = 1 ∧ i.bytes = 4 := by
  have h := infoU
  cases hi : Tryd.prog.info? 64 with
  | none => rw [hi] at h; cases h
  | some i => rw [hi] at h; simp at h; exact ⟨i, rfl, h.1, h.2.1, h.2.2⟩
theorem below_grown {w w' : World} (h : w.grownBy w' none) : Below w.heap.size w w' := ⟨h.os, h.tape, h.output, h.size, fun k hk => h.block k hk (fun c => by cases c)⟩
theorem append_none (ty : TypeId) (cap : Nat) (w : World) :
    (Builtin.append_ #[47, 47] ty #[.slice none 0 0, .slice none 0 cap]).run Tryd.prog w = .ok (.slice none 0 0) w := by
  obtain ⟨i, hi, hz, hsz, hby⟩ := infoU2
  have hu := Tryd.underlying47
  simp [Builtin.append_, go_sem, Builtin.firstCells, Builtin.lenOf]
theorem addr_add (b o j : Nat) : (⟨b, o, none⟩ : Addr).add j = ⟨b, o + j, none⟩ := by
  unfold Addr.add
  by_cases h : j = 0
  · rw [if_pos h, h, Nat.add_zero]
  · rw [if_neg h]
/-- append to nothing: a copy of the words, in new memory. -/
theorem append_copy (ty : TypeId) (ad : Option Addr) (cap : Nat) (L : List Nat) (w : World) (hm : MagAt w ad L) (hn : L.length ≤ 1000000) :
    ∃ a' cap' w', (Builtin.append_ #[47, 47] ty #[.slice none 0 0, .slice ad L.length cap]).run Tryd.prog w = .ok (.slice a' L.length cap') w' ∧ L.length ≤ cap' ∧ MagAt w' a' L ∧ Below w.heap.size w w' := by
  obtain ⟨i, hi, hz, hsz, hby⟩ := infoU2
  have key : ∀ (a : Addr), ad = some a → (∀ j u, (L.map (fun (d : Nat) => Value.int .u32 (d : Int)))[j]? = some u → w.cell? (a.add j) = some u) → ∃ a' cap' w', (Builtin.append_ #[47, 47] ty #[.slice none 0 0, .slice ad L.length cap]).run Tryd.prog w = .ok (.slice a' L.length cap') w' ∧ L.length ≤ cap' ∧ MagAt w' a' L ∧ Below w.heap.size w w' := by
    intro a ha hc
    subst ha
    obtain ⟨v', w', hrun, r1, r2, _⟩ := run_append_own (P := Tryd.prog) w w.heap.size 47 ty 64 i (.int .u32 0) 1 4 Tryd.underlying47 hi hz hsz hby rfl (by decide) (.slice none 0 0) 0 [] (World.ownsRow_nil w _ _ _) a L.length cap (L.map (fun (d : Nat) => Value.int .u32 (d : Int))) (by simp) hc (fun u hu => by
        obtain ⟨d, _, rfl⟩ := List.mem_map.1 hu
        rfl) (by simp only [maxLen]; omega) (by omega) (Nat.le_refl _)
    rw [Nat.zero_add, List.nil_append] at r1
    have hb := below_grown r2
    rcases r1.2 with ⟨rfl, h0⟩ | ⟨g, cap', cur, rfl, hg, hblk, hle, _, _, _⟩
    · refine ⟨none, 0, w', by rw [hrun, h0], by omega, fun j hj => absurd hj (by omega), hb⟩
    · refine ⟨some ⟨g, 0, none⟩, cap', w', hrun, hle, fun j hj => ⟨g, 0, rfl, (Array.getElem?_eq_some_iff.1 hblk).1, ?_⟩, hb⟩
      have := r1.cells (g := g) rfl j (.int .u32 (L.getD j 0)) (by simp [List.getD, hj])
      rw [addr_add] at this
      exact this
  cases ad with
  | none =>
    have h0 : L.length = 0 := by
      apply Classical.byContradiction
      intro c
      obtain ⟨b, off, e, _⟩ := hm 0 (by omega)
      cases e
    rw [h0]
    exact ⟨none, 0, w, append_none ty cap w, Nat.le_refl _, fun j hj => absurd hj (by omega), Below.refl _ _⟩
  | some a =>
    refine key a rfl (fun j u hu => ?_)
    simp at hu
    obtain ⟨d, hd, rfl⟩ := hu
    have hj : j < L.length := (List.getElem?_eq_some_iff.1 hd).1
    obtain ⟨b, off, e, _, hc⟩ := hm j hj
    cases e
    have : L.getD j 0 = d := by simp [List.getD, hd]
    rw [this] at hc
    rw [addr_add]
    exact hc
/-- The same as one step of a region that draws. -/
theorem step_append_copy {ops : Array Oper} {o : Oper} {a : Act} {w : World} {K : Act → World → Prop} {Q : Exit → Act → World → Prop} {E : Prop}
    (hg : o.guard = none) (s x : Operand) (hop : o.op = Op.call { callee := Callee.builtin Builtin.append, args := #[s, x], argTypes := #[47, 47] })
    (hs : a.eval s = .slice none 0 0) (ad : Option Addr) (n cap : Nat) (hx : a.eval x = .slice ad n cap)
    (hr : ∃ a' cap' w', (Builtin.append_ #[47, 47] o.type #[.slice none 0 0, .slice ad n cap]).run Tryd.prog w = .ok (.slice a' n cap') w' ∧ K (a.put o.dst (.slice a' n cap')) w') :
    if Region.wanted o (yielded ops a.tmps) = true then Oper.wp Tryd.prog o a w K Q else E := by
  have hw : Region.wanted o (yielded ops a.tmps) = true := by simp [Region.wanted, hg]
  rw [if_pos hw]
  obtain ⟨a', cap', w', hrun, hK⟩ := hr
  unfold Oper.wp
  simp [execOp, hop, resolve, invoke, builtin, hs, hx, hrun, Result.andThen]
  exact hK
theorem wpList_append_copy {ops : Array Oper} {rest : List Oper} {o : Oper} {a : Act} {w : World} {Q : Exit → Act → World → Prop}
    (hg : o.guard = none) (s x : Operand) (hop : o.op = Op.call { callee := Callee.builtin Builtin.append, args := #[s, x], argTypes := #[47, 47] })
    (hs : a.eval s = .slice none 0 0) (ad : Option Addr) (n cap : Nat) (hx : a.eval x = .slice ad n cap)
    (hr : ∃ a' cap' w', (Builtin.append_ #[47, 47] o.type #[.slice none 0 0, .slice ad n cap]).run Tryd.prog w = .ok (.slice a' n cap') w' ∧ wpList Tryd.prog ops Q rest (a.put o.dst (.slice a' n cap')) w') :
    wpList Tryd.prog ops Q (o :: rest) a w := by
  obtain ⟨a', cap', w', hrun, hK⟩ := hr
  refine wpList_plain hg fun K hK2 => ?_
  unfold Oper.wp execOp
  simp only [hop, resolve, invoke, builtin, Sem.run_bind, Sem.run_pure, Result.andThen_ok, List.map_toArray, List.map_cons, List.map_nil, hs, hx, hrun]
  exact hK2 _ _ hK
end Go.Proofs.YtpjdmhidhllbkaaDoor
