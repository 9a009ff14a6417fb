
/- What the document's Set, Neg and Abs do. -/
import Derived.Test.YtfdphegiafccpaaP22
import Derived.Deep.RegionLawGrows
namespace Go.Proofs.Ytfdphegiafccpaa
open Go.RowKit Go.IntWalk

theorem infoU2 : ∃ i, Try.prog.info? 33 = some i ∧ i.zero = some (.int .u32 0) ∧ i.size = 1 ∧ i.bytes = 4 := by
  have h := infoU
  cases hi : Try.prog.info? 33 with
  | none => rw [hi] at h; cases h
  | some i => rw [hi] at h; simp at h; exact ⟨i, rfl, h.1, h.2.1, h.2.2⟩
theorem below_grown {w w' : World} (h : w.grownBy w' none) : Below w.heap.size w w' := ⟨h.os, h.tape, h.output, h.size, fun k hk => h.block k hk (fun c => by cases c)⟩
theorem append_none (ty : TypeId) (cap : Nat) (w : World) :
    (Builtin.append_ #[51, 51] ty #[.slice none 0 0, .slice none 0 cap]).run Try.prog w = .ok (.slice none 0 0) w := by
  obtain ⟨i, hi, hz, hsz, hby⟩ := infoU2
  have hu := Try.underlying51
  simp [Builtin.append_, go_sem, Builtin.firstCells, Builtin.lenOf]
theorem addr_add (b o j : Nat) : (⟨b, o, none⟩ : Addr).add j = ⟨b, o + j, none⟩ := by
  unfold Addr.add
  by_cases h : j = 0
  · rw [if_pos h, h, Nat.add_zero]
  · rw [if_neg h]
/-- append to nothing: a copy of the words, in new memory. -/
theorem append_copy (ty : TypeId) (ad : Option Addr) (cap : Nat) (L : List Nat) (w : World) (hm : MagAt w ad L) (hn : L.length ≤ 1000000) :
    ∃ a' cap' w', (Builtin.append_ #[51, 51] ty #[.slice none 0 0, .slice ad L.length cap]).run Try.prog w = .ok (.slice a' L.length cap') w' ∧ L.length ≤ cap' ∧ MagAt w' a' L ∧ Below w.heap.size w w' := by
  obtain ⟨i, hi, hz, hsz, hby⟩ := infoU2
  have key : ∀ (a : Addr), ad = some a → (∀ j u, (L.map (fun (d : Nat) => Value.int .u32 (d : Int)))[j]? = some u → w.cell? (a.add j) = some u) → ∃ a' cap' w', (Builtin.append_ #[51, 51] ty #[.slice none 0 0, .slice ad L.length cap]).run Try.prog w = .ok (.slice a' L.length cap') w' ∧ L.length ≤ cap' ∧ MagAt w' a' L ∧ Below w.heap.size w w' := by
    intro a ha hc
    subst ha
    obtain ⟨v', w', hrun, r1, r2, _⟩ := run_append_own (P := Try.prog) w w.heap.size 51 ty 33 i (.int .u32 0) 1 4 Try.underlying51 hi hz hsz hby rfl (by decide) (.slice none 0 0) 0 [] (World.ownsRow_nil w _ _ _) a L.length cap (L.map (fun (d : Nat) => Value.int .u32 (d : Int))) (by simp) hc (fun u hu => by
        obtain ⟨d, _, rfl⟩ := List.mem_map.1 hu
        rfl) (by simp only [maxLen]; omega) (by omega) (Nat.le_refl _)
    rw [Nat.zero_add, List.nil_append] at r1
    have hb := below_grown r2
    rcases r1.2 with ⟨rfl, h0⟩ | ⟨g, cap', cur, rfl, hg, hblk, hle, _, _, _⟩
    · refine ⟨none, 0, w', by rw [hrun, h0], by omega, fun j hj => absurd hj (by omega), hb⟩
    · refine ⟨some ⟨g, 0, none⟩, cap', w', hrun, hle, fun j hj => ⟨g, 0, rfl, (Array.getElem?_eq_some_iff.1 hblk).1, ?_⟩, hb⟩
      have := r1.cells (g := g) rfl j (.int .u32 (L.getD j 0)) (by simp [List.getD, hj])
      rw [addr_add] at this
      exact this
  cases ad with
  | none =>
    have h0 : L.length = 0 := by
      apply Classical.byContradiction
      intro c
      obtain ⟨b, off, e, _⟩ := hm 0 (by omega)
      cases e
    rw [h0]
    exact ⟨none, 0, w, append_none ty cap w, Nat.le_refl _, fun j hj => absurd hj (by omega), Below.refl _ _⟩
  | some a =>
    refine key a rfl (fun j u hu => ?_)
    simp at hu
    obtain ⟨d, hd, rfl⟩ := hu
    have hj : j < L.length := (List.getElem?_eq_some_iff.1 hd).1
    obtain ⟨b, off, e, _, hc⟩ := hm j hj
    cases e
    have : L.getD j 0 = d := by simp [List.getD, hd]
    rw [this] at hc
    rw [addr_add]
    exact hc
/-- The same as one step of a region that draws. -/
theorem step_append_copy {ops : Array Oper} {o : Oper} {a : Act} {w : World} {K : Act → World → Prop} {Q : Exit → Act → World → Prop} {E : Prop}
    (hg : o.guard = none) (s x : Operand) (hop : o.op = Op.call { callee := Callee.builtin Builtin.append, args := #[s, x], argTypes := #[51, 51] })
    (hs : a.eval s = .slice none 0 0) (ad : Option Addr) (n cap : Nat) (hx : a.eval x = .slice ad n cap)
    (hr : ∃ a' cap' w', (Builtin.append_ #[51, 51] o.type #[.slice none 0 0, .slice ad n cap]).run Try.prog w = .ok (.slice a' n cap') w' ∧ K (a.put o.dst (.slice a' n cap')) w') :
    if Region.wanted o (yielded ops a.tmps) = true then Oper.wp Try.prog o a w K Q else E := by
  have hw : Region.wanted o (yielded ops a.tmps) = true := by simp [Region.wanted, hg]
  rw [if_pos hw]
  obtain ⟨a', cap', w', hrun, hK⟩ := hr
  unfold Oper.wp
  simp [execOp, hop, resolve, invoke, builtin, hs, hx, hrun, Result.andThen]
  exact hK
theorem wpList_append_copy {ops : Array Oper} {rest : List Oper} {o : Oper} {a : Act} {w : World} {Q : Exit → Act → World → Prop}
    (hg : o.guard = none) (s x : Operand) (hop : o.op = Op.call { callee := Callee.builtin Builtin.append, args := #[s, x], argTypes := #[51, 51] })
    (hs : a.eval s = .slice none 0 0) (ad : Option Addr) (n cap : Nat) (hx : a.eval x = .slice ad n cap)
    (hr : ∃ a' cap' w', (Builtin.append_ #[51, 51] o.type #[.slice none 0 0, .slice ad n cap]).run Try.prog w = .ok (.slice a' n cap') w' ∧ wpList Try.prog ops Q rest (a.put o.dst (.slice a' n cap')) w') :
    wpList Try.prog ops Q (o :: rest) a w := by
  obtain ⟨a', cap', w', hrun, hK⟩ := hr
  refine wpList_plain hg fun K hK2 => ?_
  unfold Oper.wp execOp
  simp only [hop, resolve, invoke, builtin, Sem.run_bind, Sem.run_pure, Result.andThen_ok, List.map_toArray, List.map_cons, List.map_nil, hs, hx, hrun]
  exact hK2 _ _ hK
/-- What Set, Neg and Abs need: a sign that is told, and a copy. -/
theorem copy_facts (z x : Nat) (neg : Bool) (L : List Nat) (w : World) (hz : ZOk z w w) (hx : BigAt w x neg L) (hn : L.length ≤ 1000000) :
    ∃ a cap, x < w.heap.size ∧ w.cell? ⟨x, 0, none⟩ = some (.bool neg) ∧ w.cell? ⟨x, 1, none⟩ = some (.slice a L.length cap) ∧
    Hid (∀ ty W, Hid (Below w.heap.size w W) → ∃ a' cap' w', (Builtin.append_ #[51, 51] ty #[.slice none 0 0, .slice a L.length cap]).run Try.prog W = .ok (.slice a' L.length cap') w' ∧ Hid (MagIs (natL L) L.length L a' cap' w') ∧ Hid (ZOk z w w') ∧ w'.cell? ⟨x, 0, none⟩ = some (.bool neg)) ∧
    Hid (neg = true → natL L ≠ 0) := by
  obtain ⟨a, cap, ho, hcap, hm, hd, hc, hneg⟩ := hx
  obtain ⟨c0, c1, hf, hlt⟩ := int_cells ho
  refine ⟨a, cap, hlt, c0, c1, fun ty W hb0' => ?_, fun h => ?_⟩
  · have hb0 := hb0'.out
    obtain ⟨a', cap', w', e1, e2, e3, e4⟩ := append_copy ty a cap L W (hm.below hb0) hn
    have hb := bl_then hb0 e4
    exact ⟨a', cap', w', e1, ⟨e2, Nat.le_refl _, e3, hd, hc, rfl⟩, ZOk.below hz hb, by rw [hb.cell (p := ⟨x, 0, none⟩) hlt]; exact c0⟩
  · have := neg_pos hc hneg h
    omega
theorem put_copy (z : Nat) (neg : Bool) (L : List Nat) (w : World) (hn : L.length ≤ 1000000) :
    Hid (∀ w1 a' cap', Hid (ZOk z w w1) → Hid (MagIs (natL L) L.length L a' cap' w1) → Calls Try.prog 37 #[.pointer (some ⟨z, 0, none⟩), .bool neg, .slice a' L.length cap'] w1 fun r w' => r = .returned (.pointer (some ⟨z, 0, none⟩)) ∧ Hid (PutIs z (neg && decide (natL L ≠ 0)) (natL L) L.length w w')) := by
  intro w1 a' cap' h1 h2
  exact put_is z neg (natL L) L.length w w1 L a' cap' h1.out h2.out (by omega)
set_option maxHeartbeats 1000000 in
theorem Neg_big (z x : Nat) (neg : Bool) (L : List Nat) (w : World) (hz : ZOk z w w) (hx : BigAt w x neg L) (hn : L.length ≤ 1000000) :
    Calls Try.prog 23 #[.pointer (some ⟨z, 0, none⟩), .pointer (some ⟨x, 0, none⟩)] w fun r w' => r = .returned (.pointer (some ⟨z, 0, none⟩)) ∧ PutIs z (!neg && decide (natL L ≠ 0)) (natL L) L.length w w' := by
  obtain ⟨a, cap, hlt, c0, c1, HA, HN⟩ := copy_facts z x neg L w hz hx hn
  have HP := put_copy z (!neg) L w hn
  obtain ⟨k, hk⟩ : ∃ k, Hid (L.length = k) := ⟨_, rfl⟩
  obtain ⟨v, hv⟩ : ∃ v, Hid (natL L = v) := ⟨_, rfl⟩
  rw [hk.out, hv.out] at HA HP ⊢
  rw [hk.out] at c1
  have HD0 : Hid (Below w.heap.size w w) := Below.refl _ _
  have HD1 : Hid (Below w.heap.size w w.drew) := (Below.refl _ _).drew
  clear hz hx hn HN
  cases neg
  all_goals simp only [Bool.not_true, Bool.not_false] at HP ⊢
  all_goals
    go_enter Try.func23, Try.ntmps23
    go_wp2_with fail
  all_goals go_region_law (first
      | (go_simp; go_wp2_with (go_at_call 37; refine (HP.out _ _ _ (by assumption) (by assumption)).mono ?_; rintro r w1 ⟨rfl, HE⟩); (have hE := HE; clear hE))
      | (refine step_append_copy rfl _ _ rfl rfl a k cap (by first | rfl | (simp [Act.eval]; done) | (simp [Act.eval, Act.put]; done)) ?_; obtain ⟨a', cap', w1, hr, HM, HZ1, k0⟩ := HA.out _ _ HD1; refine ⟨a', cap', w1, hr, ?_⟩; clear hr))
  all_goals go_wp2
  all_goals go_ret
  all_goals exact ⟨rfl, Hid.out (by assumption)⟩
set_option maxHeartbeats 1000000 in
theorem Abs_big (z x : Nat) (neg : Bool) (L : List Nat) (w : World) (hz : ZOk z w w) (hx : BigAt w x neg L) (hn : L.length ≤ 1000000) :
    Calls Try.prog 29 #[.pointer (some ⟨z, 0, none⟩), .pointer (some ⟨x, 0, none⟩)] w fun r w' => r = .returned (.pointer (some ⟨z, 0, none⟩)) ∧ PutIs z (false && decide (natL L ≠ 0)) (natL L) L.length w w' := by
  obtain ⟨a, cap, hlt, c0, c1, HA, HN⟩ := copy_facts z x neg L w hz hx hn
  have HP := put_copy z false L w hn
  obtain ⟨k, hk⟩ : ∃ k, Hid (L.length = k) := ⟨_, rfl⟩
  obtain ⟨v, hv⟩ : ∃ v, Hid (natL L = v) := ⟨_, rfl⟩
  rw [hk.out, hv.out] at HA HP ⊢
  rw [hk.out] at c1
  have HD0 : Hid (Below w.heap.size w w) := Below.refl _ _
  have HD1 : Hid (Below w.heap.size w w.drew) := (Below.refl _ _).drew
  clear hz hx hn HN
  go_enter Try.func29, Try.ntmps29
  go_wp2_with (first
      | (at_builtin; refine wpList_append_copy rfl _ _ rfl rfl a k cap (by first | rfl | (simp [Act.eval]; done) | (simp [Act.eval, Act.put]; done)) ?_; obtain ⟨a', cap', w1, hr, HM, HZ1, k0⟩ := HA.out _ _ HD0; refine ⟨a', cap', w1, hr, ?_⟩; clear hr)
      | (go_at_call 37; refine (HP.out _ _ _ (by assumption) (by assumption)).mono ?_; rintro r w1 ⟨rfl, HE⟩))
  all_goals go_ret
  all_goals exact ⟨rfl, Hid.out (by assumption)⟩
end Go.Proofs.Ytfdphegiafccpaa
