
/- DyadFresh: what is answered is new memory. (Written by mkfresh.py.) -/
import Derived.Test.YtnhggfmpajnapaaDoorDyQS
import Derived.Test.YtnhggfmpajnapaaDoorBigCopy
import Derived.Test.YtnhggfmpajnapaaDoorDyTT
namespace Go.Proofs.YtnhggfmpajnapaaDoor
open Go.RowKit Go.IntWalk

/-- append to nothing: a copy of the words, in new memory. -/
theorem append_new (ty : TypeId) (ad : Option Addr) (cap : Nat) (L : List Nat) (w : World) (hm : MagAt w ad L) (hn : L.length ≤ 1000000) :
    ∃ a' cap' w', (Builtin.append_ #[23, 23] ty #[.slice none 0 0, .slice ad L.length cap]).run Tryd.prog w = .ok (.slice a' L.length cap') w' ∧ L.length ≤ cap' ∧ MagAt w' a' L ∧ Below w.heap.size w w' ∧ (∀ p, a' = some p → w.heap.size ≤ p.block) := by
  obtain ⟨i, hi, hz, hsz, hby⟩ := infoU2
  have key : ∀ (a : Addr), ad = some a → (∀ j u, (L.map (fun (d : Nat) => Value.int .u32 (d : Int)))[j]? = some u → w.cell? (a.add j) = some u) → ∃ a' cap' w', (Builtin.append_ #[23, 23] ty #[.slice none 0 0, .slice ad L.length cap]).run Tryd.prog w = .ok (.slice a' L.length cap') w' ∧ L.length ≤ cap' ∧ MagAt w' a' L ∧ Below w.heap.size w w' ∧ (∀ p, a' = some p → w.heap.size ≤ p.block) := by
    intro a ha hc
    subst ha
    obtain ⟨v', w', hrun, r1, r2, _⟩ := run_append_own (P := Tryd.prog) w w.heap.size 23 ty 39 i (.int .u32 0) 1 4 Tryd.underlying23 hi hz hsz hby rfl (by decide) (.slice none 0 0) 0 [] (World.ownsRow_nil w _ _ _) a L.length cap (L.map (fun (d : Nat) => Value.int .u32 (d : Int))) (by simp) hc (fun u hu => by
        obtain ⟨d, _, rfl⟩ := List.mem_map.1 hu
        rfl) (by simp only [maxLen]; omega) (by omega) (Nat.le_refl _)
    rw [Nat.zero_add, List.nil_append] at r1
    have hb := below_grown r2
    rcases r1.2 with ⟨rfl, h0⟩ | ⟨g, cap', cur, rfl, hg, hblk, hle, _, _, _⟩
    · refine ⟨none, 0, w', by rw [hrun, h0], by omega, fun j hj => absurd hj (by omega), hb, fun p h => by cases h⟩
    · refine ⟨some ⟨g, 0, none⟩, cap', w', hrun, hle, fun j hj => ⟨g, 0, rfl, (Array.getElem?_eq_some_iff.1 hblk).1, ?_⟩, hb, fun p h => by cases h; exact hg⟩
      have := r1.cells (g := g) rfl j (.int .u32 (L.getD j 0)) (by simp [List.getD, hj])
      rw [addr_add] at this
      exact this
  cases ad with
  | none =>
    have h0 : L.length = 0 := by
      apply Classical.byContradiction
      intro c
      obtain ⟨b, off, e, _⟩ := hm 0 (by omega)
      cases e
    rw [h0]
    exact ⟨none, 0, w, append_none ty cap w, Nat.le_refl _, fun j hj => absurd hj (by omega), Below.refl _ _, fun p h => by cases h⟩
  | some a =>
    refine key a rfl (fun j u hu => ?_)
    simp at hu
    obtain ⟨d, hd, rfl⟩ := hu
    have hj : j < L.length := (List.getElem?_eq_some_iff.1 hd).1
    obtain ⟨b, off, e, _, hc⟩ := hm j hj
    cases e
    have : L.getD j 0 = d := by simp [List.getD, hd]
    rw [this] at hc
    rw [addr_add]
    exact hc
/-- A twin's memory. -/
def Twin (w : World) (L : List Nat) (a' : Option Addr) (cap' : Nat) (w' : World) : Prop := L.length ≤ cap' ∧ MagAt w' a' L ∧ (∀ p, a' = some p → w.heap.size ≤ p.block) ∧ Below w.heap.size w w'
set_option maxRecDepth 4000 in
set_option maxHeartbeats 2000000 in
theorem twin_any (neg : Bool) (L : List Nat) (a : Option Addr) (cap : Nat) (e : Int) (w : World) (hm : MagAt w a L) (hn : L.length ≤ 1000000) :
    Calls Tryd.prog 16 #[.agg #[.bool neg, .slice a L.length cap, .int .i64 e]] w fun r w' => ∃ a' cap', r = .returned (.agg #[.bool neg, .slice a' L.length cap', .int .i64 e]) ∧ Twin w L a' cap' w' := by
  have f2 := AlW.below w neg false a none L.length 0 cap 0 e 0
  have f1 := AlW.size w neg false a none L.length 0 cap 0 e 0
  obtain ⟨f3, f4⟩ := AlW.cells w neg false a none L.length 0 cap 0 e 0
  obtain ⟨W0, hW0⟩ : ∃ W0, Hid (AlW w neg false a none L.length 0 cap 0 e 0 = W0) := ⟨_, rfl⟩
  have hW0' : AlW w neg false a none L.length 0 cap 0 e 0 = W0 := hW0.out
  rw [hW0'] at f1 f2 f3 f4
  have HB0 : Hid (Below w.heap.size w W0) := f2
  have hlt : w.heap.size < W0.heap.size := by rw [f1]; omega
  have HR0 : Hid (Res (w.heap.size + 1) W0 W0) := ⟨But.refl _ _, _, _, _, f4⟩
  obtain ⟨p0, p1, p2⟩ := dcells_of f3
  have HA : Hid (∀ ty W, Below W0.heap.size W0 W → ∃ a' cap' w' v0 v1 v2, (Builtin.append_ #[23, 23] ty #[.slice none 0 0, .slice a L.length cap]).run Tryd.prog W = .ok (.slice a' L.length cap') w' ∧ Hid (∀ x y z, Twin w L a' cap' (((w'.setCell ⟨w.heap.size + 1, 0, none⟩ x).setCell ⟨w.heap.size + 1, 1, none⟩ y).setCell ⟨w.heap.size + 1, 2, none⟩ z)) ∧ w'.cell? ⟨w.heap.size, 0, none⟩ = some (.bool neg) ∧ w'.cell? ⟨w.heap.size, 1, none⟩ = some (.slice a L.length cap) ∧ w'.cell? ⟨w.heap.size, 2, none⟩ = some (.int .i64 e) ∧ (∀ o, w'.frozen? ⟨w.heap.size + 1, o, none⟩ = false) ∧ w'.cell? ⟨w.heap.size + 1, 0, none⟩ = some v0 ∧ w'.cell? ⟨w.heap.size + 1, 1, none⟩ = some v1 ∧ w'.cell? ⟨w.heap.size + 1, 2, none⟩ = some v2) := fun ty W hW => by
    obtain ⟨a', cap', w', e1, e2, e3, e4, e5⟩ := append_new ty a cap L W ((hm.below HB0.out).below hW) hn
    have hb1 : Below W0.heap.size W0 w' := hW.trans (e4.mono hW.size)
    have hres : Res (w.heap.size + 1) W0 w' := HR0.out.call hb1
    obtain ⟨g1, g2, v0, v1, v2, g3, g4, g5⟩ := hres.facts
    have hov : ∀ p, a' = some p → w.heap.size + 2 ≤ p.block := fun p hp => by have := e5 p hp; have := hW.size; omega
    refine ⟨a', cap', w', v0, v1, v2, e1, fun x y z => ?_, by rw [hb1.cell (p := ⟨w.heap.size, 0, none⟩) hlt]; exact p0, by rw [hb1.cell (p := ⟨w.heap.size, 1, none⟩) hlt]; exact p1, by rw [hb1.cell (p := ⟨w.heap.size, 2, none⟩) hlt]; exact p2, g1, g3, g4, g5⟩
    have hst := (res_store (hid hres) x y z).out
    refine ⟨e2, e3.but (But.setCell (But.setCell (But.setCell (But.refl _ _) 0 x) 1 y) 2 z) (fun b off hp _ => ?_), fun p hp => by have := hov p hp; omega, HB0.out.trans (hst.but.below (Nat.le_of_lt hlt) (Nat.le_succ _))⟩
    have := hov _ hp
    simp at this
    omega
  obtain ⟨k, hk⟩ : ∃ k, Hid (L.length = k) := ⟨_, rfl⟩
  rw [hk.out] at HA p1 hW0' ⊢
  have HD1 : Hid (Below W0.heap.size W0 W0.drew) := (Below.refl _ _).drew
  unfold AlW DyBox at hW0'
  clear hm hn hlt f1 f2 f3 f4 HR0 HB0
  go_enter Tryd.func16, Tryd.ntmps16
  go_wp2_with fail
  go_region_law (refine step_append_copy rfl _ _ rfl rfl a k cap (by first | rfl | (simp [Act.eval]; done) | (simp [Act.eval, Act.put]; done)) ?_; obtain ⟨a', cap', w1, v0, v1, v2, hr, HM, k0, k1, k2, fz, c0, c1, c2⟩ := HA.out _ _ HD1.out; refine ⟨a', cap', w1, hr, ?_⟩; clear hr)
  all_goals go_wp2
  all_goals exact bodyPost_ret (v := .agg #[.bool neg, .slice a' k cap', .int .i64 e]) (by simp [results, Tryd.results16, go_sem, c0, c1, c2]) rfl ⟨_, _, rfl, HM.out _ _ _⟩
end Go.Proofs.YtnhggfmpajnapaaDoor

namespace Go.Proofs.YtnhggfmpajnapaaDoor
open Go.RowKit Go.IntWalk

/-- written of the other sign. -/
theorem written_neg (n1 : Bool) (a1 : Option Addr) (l1 c1 N : Nat) (e1 z1 e : Int) (w : World) (h1 : DyAt w n1 a1 l1 c1 e1 z1 e) (hz1 : z1.natAbs < 2 ^ N) (hN : N ≤ 6400) (he1 : -3000 ≤ e) (he2 : e ≤ 3000) (hT : Tab32 w) (hs : 1 < w.heap.size) :
    Calls Tryd.prog 40 #[.bool (!n1), .slice a1 l1 c1, .int .i64 e1] w fun r w' => DyOut (-z1) e w.heap.size r w' ∧ Below w.heap.size w w' := by
  obtain ⟨L1, rfl, hc, m1, v1, _⟩ := h1
  obtain ⟨s1, s2, s3⟩ := v1.size hz1 hN he1 he2
  refine (written_any (!n1) L1 a1 c1 e1 w m1 v1.1 v1.2.1 hc (by omega) (by omega) (by omega) hT hs).mono ?_
  rintro r w' ⟨ho, hb⟩
  refine ⟨?_, hb⟩
  rcases v1.val with ⟨z0, l0, m0, x0⟩ | ⟨_, _, _, k, hk, hx⟩
  · refine ho.conv (i := (e1 - min e1 e).toNat) (j := (e - min e1 e).toNat) ?_ (by omega)
    have : intL (!n1) L1 = 0 := by rw [l0]; unfold intL; cases n1 <;> rfl
    rw [this, z0, Int.neg_zero, Int.zero_mul, Int.zero_mul]
  · refine ho.conv (i := k) (j := 0) ?_ (by omega)
    rw [intL_not, Int.neg_mul, hk, Int.pow_zero, Int.mul_one]
set_option maxRecDepth 4000 in
set_option maxHeartbeats 2000000 in
theorem Neg_dy (n1 : Bool) (a1 : Option Addr) (l1 c1 N : Nat) (e1 z1 e : Int) (w : World) (h1 : DyAt w n1 a1 l1 c1 e1 z1 e) (hz1 : z1.natAbs < 2 ^ N) (hN : N ≤ 6400) (he1 : -3000 ≤ e) (he2 : e ≤ 3000) (hT : Tab32 w) (hs : 1 < w.heap.size) :
    Calls Tryd.prog 17 #[.agg #[.bool n1, .slice a1 l1 c1, .int .i64 e1]] w fun r w' => DyOut (-z1) e w.heap.size r w' ∧ Below w.heap.size w w' := by
  have f2 := AlW.below w n1 false a1 none l1 0 c1 0 e1 0
  have f1 := AlW.size w n1 false a1 none l1 0 c1 0 e1 0
  obtain ⟨f3, f4⟩ := AlW.cells w n1 false a1 none l1 0 c1 0 e1 0
  have HM1 : Hid (∀ W, Below w.heap.size w W → Calls Tryd.prog 28 #[.agg #[.bool n1, .slice a1 l1 c1, .int .i64 e1]] W fun r w' => r = .returned (.bool true) ∧ Below W.heap.size W w') := fun W hW => (h1.below hW).may
  have HAD : Hid (∀ W, Below w.heap.size w W → Calls Tryd.prog 40 #[.bool (!n1), .slice a1 l1 c1, .int .i64 e1] W fun r w' => DyOut (-z1) e W.heap.size r w' ∧ Below W.heap.size W w') := fun W hW => written_neg n1 a1 l1 c1 N e1 z1 e W (h1.below hW) hz1 hN he1 he2 (hT.below hs hW) (Nat.lt_of_lt_of_le hs hW.size)
  obtain ⟨W0, hW0⟩ : ∃ W0, Hid (AlW w n1 false a1 none l1 0 c1 0 e1 0 = W0) := ⟨_, rfl⟩
  have hW0' : AlW w n1 false a1 none l1 0 c1 0 e1 0 = W0 := hW0.out
  rw [hW0'] at f1 f2 f3 f4
  unfold AlW DyBox at hW0'
  have HF := hid (And.intro f1 (And.intro f2 (And.intro f3 f4)))
  have hc1 := dcells_of f3
  unfold DCells at hc1
  obtain ⟨p10, p11, p12⟩ := hc1
  clear h1 hz1 hN he1 he2 hT hs f1 f2 f3 f4
  go_enter Tryd.func17, Tryd.ntmps17
  go_wp2_with fail
  refine (HM1.out _ HF.out.2.1).mono ?_
  rintro r w1 ⟨rfl, hb1⟩
  have HR1 : Hid (Res (w.heap.size + 1) W0 w1) := Res.call ⟨But.refl _ _, _, _, _, HF.out.2.2.2⟩ hb1
  have HBW1 : Hid (Below w.heap.size w w1) := HF.out.2.1.trans (hb1.mono HF.out.2.1.size)
  have q10 : w1.cell? ⟨w.heap.size, 0, none⟩ = some (.bool n1) := HR1.out.but.cell p10 (by omega)
  have q11 : w1.cell? ⟨w.heap.size, 1, none⟩ = some (.slice a1 l1 c1) := HR1.out.but.cell p11 (by omega)
  have q12 : w1.cell? ⟨w.heap.size, 2, none⟩ = some (.int .i64 e1) := HR1.out.but.cell p12 (by omega)
  have hz2 : w.heap.size + 1 < w1.heap.size := HR1.out.facts.2.1
  clear hb1
  go_wp2_with fail
  refine (HAD.out _ HBW1.out).mono ?_
  rintro r w3 ⟨ho, hb3⟩
  obtain ⟨neg', b', k', d', x', rfl, hr⟩ := ho.ret
  have HR3 : Hid (Res (w.heap.size + 1) W0 w3) := HR1.out.call hb3
  have HRT : Hid (DyRet (-z1) e (w.heap.size + 1 + 1) neg' b' k' d' x' w3) := DyOut.but hr (But.refl (w.heap.size + 1) _) hz2 hz2
  obtain ⟨fz, _, v0, v1, v2, c0, c1', c2'⟩ := HR3.out.facts
  have HBF := hid HF.out.2.1
  clear hr ho hb3 HF
  go_wp2
  exact bodyPost_ret (v := .tuple #[.agg #[.bool neg', .slice b' k' d', .int .i64 x'], .int .i64 0]) (by simp [results, Tryd.results17, go_sem, c0, c1', c2']) rfl (res_end HBF.out (by omega) HRT HR3)
end Go.Proofs.YtnhggfmpajnapaaDoor

namespace Go.Proofs.YtnhggfmpajnapaaDoor
open Go.RowKit Go.IntWalk

theorem OwnRow.set {W : World} {p : Addr} {l : Nat} (h : OwnRow W p l) (b i : Nat) (y : Int) : OwnRow (W.setCell ⟨b, i, none⟩ (.int .u32 y)) p l := by
  obtain ⟨b', M, f, rfl, h1, h2⟩ := h
  by_cases e : b' = b
  · subst e
    refine ⟨b', M, fun j => if j = i then y else f j, rfl, h1, (h2.set i _).congr (fun j _ => ?_)⟩
    by_cases c : j = i
    · simp [c]
    · simp [c]
  · exact ⟨b', M, f, rfl, h1, h2.setOther e _⟩
def InB (a1 a2 : Option Addr) (k : Nat) : Prop := (∃ p, a1 = some p ∧ p.block = k) ∨ (∃ p, a2 = some p ∧ p.block = k)
/-- Only two rows of one's own have changed. -/
structure Mut (a1 a2 : Option Addr) (l1 l2 : Nat) (V W : World) : Prop where
  os : W.os = V.os
  tape : W.tape = V.tape
  output : W.output = V.output
  size : V.heap.size ≤ W.heap.size
  block : ∀ k, k < V.heap.size → ¬ InB a1 a2 k → W.heap[k]? = V.heap[k]?
  row1 : ∀ p, a1 = some p → OwnRow W p l1
  row2 : ∀ p, a2 = some p → OwnRow W p l2
theorem Mut.set {a1 a2 : Option Addr} {l1 l2 : Nat} {V W : World} (h : Mut a1 a2 l1 l2 V W) (b i : Nat) (y : Int) (hb : InB a1 a2 b) : Mut a1 a2 l1 l2 V (W.setCell ⟨b, i, none⟩ (.int .u32 y)) :=
  ⟨h.os, h.tape, h.output, by simp [World.setCell]; exact h.size, fun k hk hn => by
    rw [Below.heap_setCell _ _ _ _ (fun c => hn (by have c' : k = b := c; rw [c']; exact hb))]; exact h.block k hk hn, fun p hp => (h.row1 p hp).set b i y, fun p hp => (h.row2 p hp).set b i y⟩
theorem DyAt.mut {n : Bool} {a a1 a2 : Option Addr} {l c l1 l2 : Nat} {e' z e : Int} {V W : World} (h : DyAt V n a l c e' z e) (hm : Mut a1 a2 l1 l2 V W) (hd : ∀ p, a = some p → l ≠ 0 → ¬ InB a1 a2 p.block) : DyAt W n a l c e' z e := by
  obtain ⟨L, rfl, h2, h3, h4, h5⟩ := h
  refine ⟨L, rfl, h2, fun i hi => ?_, h4, h5⟩
  obtain ⟨b, off, e, hlt, hc⟩ := h3 i hi
  refine ⟨b, off, e, Nat.lt_of_lt_of_le hlt hm.size, ?_⟩
  rw [← hc]
  exact World.cell?_of_block (hm.block b hlt (hd _ e (by omega)))
theorem DyVar.mut {n : Bool} {a a1 a2 : Option Addr} {l c l1 l2 b : Nat} {e' z e : Int} {V W : World} (h : DyVar V b n a l c e' z e) (hm : Mut a1 a2 l1 l2 V W) (hb : ¬ InB a1 a2 b) (hd : ∀ p, a = some p → l ≠ 0 → ¬ InB a1 a2 p.block) : DyVar W b n a l c e' z e :=
  ⟨by rw [hm.block b (Array.getElem?_eq_some_iff.1 h.1).1 hb]; exact h.1, h.2.mut hm hd⟩
theorem DyAt.under {n : Bool} {a : Option Addr} {l c : Nat} {e' z e : Int} {V : World} (h : DyAt V n a l c e' z e) : ∀ p, a = some p → l ≠ 0 → p.block < V.heap.size := by
  obtain ⟨L, rfl, h2, h3, h4, h5⟩ := h
  intro p hp hl
  obtain ⟨b, off, e, hlt, hc⟩ := h3 0 (by omega)
  rw [hp] at e
  cases e
  exact hlt
theorem DyAt.some {n : Bool} {a : Option Addr} {l c : Nat} {e' z e : Int} {V : World} (h : DyAt V n a l c e' z e) : l ≤ 1000000 ∧ ∀ j, j < l → ∃ p, a = Option.some p := by
  obtain ⟨L, rfl, h2, h3, h4, h5⟩ := h
  refine ⟨?_, fun j hj => ?_⟩
  · rcases h5 with ⟨rfl, _, _⟩ | ⟨_, _, _, hl, _⟩
    · exact Nat.zero_le _
    · omega
  · obtain ⟨b, off, e, _⟩ := h3 j hj
    exact ⟨_, e⟩
theorem DyRet.own {Z e e' : Int} {B : Nat} {neg : Bool} {a : Option Addr} {n cap : Nat} {w : World} (h : DyRet Z e B neg a n cap e' w) : ∀ p, a = some p → B ≤ p.block ∧ OwnRow w p n := by
  obtain ⟨neg1, L, a1, cap1, e1, h0, h1, h2, h3, h4, h5⟩ := h
  cases h0
  exact h5
theorem not_in {a1 a2 : Option Addr} {k B C B' C' : Nat} (h1 : ∀ p, a1 = some p → B ≤ p.block ∧ p.block < C) (h2 : ∀ p, a2 = some p → B' ≤ p.block ∧ p.block < C') (g1 : k < B ∨ C ≤ k) (g2 : k < B' ∨ C' ≤ k) : ¬ InB a1 a2 k := by
  rintro (⟨p, hp, rfl⟩ | ⟨p, hp, rfl⟩)
  · have := h1 p hp; omega
  · have := h2 p hp; omega
theorem OwnRow.below {w w' : World} {p : Addr} {l : Nat} (h : OwnRow w p l) (hb : Below w.heap.size w w') : OwnRow w' p l := h.of_block (hb.block _ h.lt)
theorem set_same (W : World) (b o : Nat) (v : Value) (cs : Array Value) (T : TypeId) (h : W.heap[b]? = some (.cells cs T)) (hv : cs.setIfInBounds o v = cs) : W.setCell ⟨b, o, none⟩ v = W := by
  have e : (W.setCell ⟨b, o, none⟩ v).heap = W.heap := by
    apply Array.ext_getElem?
    intro i
    by_cases c : b = i
    · subst c
      simp only [World.setCell, Array.getElem?_modify, h]
      simp [hv]
    · simp only [World.setCell, Array.getElem?_modify, if_neg c]
  have e2 : W.setCell ⟨b, o, none⟩ v = { W with heap := (W.setCell ⟨b, o, none⟩ v).heap } := rfl
  rw [e2, e]
theorem dy_zero (W : World) (e : Int) : DyAt W false none 0 0 0 0 e := ⟨[], rfl, Nat.le_refl _, fun _ hi => absurd hi (Nat.not_lt_zero _), ⟨fun _ hd => absurd hd List.not_mem_nil, fun h => absurd rfl h, Or.inl ⟨rfl, rfl, rfl, rfl⟩⟩, Or.inl ⟨rfl, rfl, rfl⟩⟩
theorem twin_dy (n : Bool) (a : Option Addr) (l c : Nat) (e' z e : Int) (w : World) (h : DyAt w n a l c e' z e) :
    Calls Tryd.prog 16 #[.agg #[.bool n, .slice a l c, .int .i64 e']] w fun r w' => ∃ a' c', r = .returned (.agg #[.bool n, .slice a' l c', .int .i64 e']) ∧ DyAt w' n a' l c' e' z e ∧ (∀ p, a' = some p → w.heap.size ≤ p.block) ∧ Below w.heap.size w w' := by
  obtain ⟨L, rfl, h2, h3, h4, h5⟩ := h
  refine (twin_any n L a c e' w h3 ?_).mono ?_
  · rcases h5 with ⟨rfl, _, _⟩ | ⟨_, _, _, hl, _⟩
    · exact Nat.zero_le _
    · omega
  · rintro r w' ⟨a', c', rfl, t1, t2, t3, t4⟩
    exact ⟨a', c', rfl, ⟨L, rfl, t1, t2, h4, h5⟩, t3, t4⟩

set_option maxRecDepth 8000 in
set_option maxHeartbeats 16000000 in
theorem fresh_good (x y : Nat) (w : World) (hx : x < 18446744073709551616) (hy : y < 18446744073709551616) (fx : x % 9223372036854775808 < 9218868437227405312) (fy : y % 9223372036854775808 < 9218868437227405312) (hT : Tab w) (hg : 2 < w.heap.size) (hT3 : Tab32 w) (hs : 1 < w.heap.size) :
    Calls Tryd.prog 4 #[.int .u64 x, .int .u64 y] w fun r w' => r = .returned (.bool true) ∧ Below w.heap.size w w' := by
  have h64 := f64from
  have HT : Hid (∀ W, Below w.heap.size w W → Tab W ∧ 2 < W.heap.size ∧ Tab32 W ∧ 1 < W.heap.size) := fun W hW => ⟨hT.below hg hW, Nat.lt_of_lt_of_le hg hW.size, hT3.below hs hW, Nat.lt_of_lt_of_le hs hW.size⟩
  have HO1 : Hid (∀ W, Below w.heap.size w W → Calls Tryd.prog 9 #[.float .f64 x] W fun r w' => DyOut (sv x) (-1074) W.heap.size r w' ∧ Below W.heap.size W w') := fun W hW => Of_fin x W hx fx (HT.out W hW).1 (HT.out W hW).2.1 (HT.out W hW).2.2.1 (HT.out W hW).2.2.2
  have HO2 : Hid (∀ W, Below w.heap.size w W → Calls Tryd.prog 9 #[.float .f64 y] W fun r w' => DyOut (sv y) (-1074) W.heap.size r w' ∧ Below W.heap.size W w') := fun W hW => Of_fin y W hy fy (HT.out W hW).1 (HT.out W hW).2.1 (HT.out W hW).2.2.1 (HT.out W hW).2.2.2
  have bA0 : (sv x).natAbs < 2 ^ kN := by obtain ⟨_, _, _, h, _⟩ := sv_parts x fx; exact h
  have bB0 : (sv y).natAbs < 2 ^ kN := by obtain ⟨_, _, _, h, _⟩ := sv_parts y fy; exact h
  obtain ⟨A, hA⟩ : ∃ A, Hid (sv x = A) := ⟨_, rfl⟩
  obtain ⟨B, hB⟩ : ∃ B, Hid (sv y = B) := ⟨_, rfl⟩
  rw [hA.out] at HO1 bA0
  rw [hB.out] at HO2 bB0
  have bA := hid (abs_more bA0 (show kN ≤ 2101 by decide))
  have bB := hid (abs_more bB0 (show kN ≤ 2101 by decide))
  have bZ := hid (show (0 : Int).natAbs < 2 ^ 2101 from Nat.two_pow_pos 2101)
  have HV0w : Hid (Below w.heap.size w w) := Below.refl _ _
  clear hx hy fx fy hT hg hT3 hs bA0 bB0
  go_enter Tryd.func4, Tryd.ntmps4

  go_wp2_with fail
  refine (HO1.out _ HV0w.out).mono ?_
  rintro r w_a ⟨ho, hb⟩
  obtain ⟨n_a, a_a, l_a, c_a, e_a, rfl, hr⟩ := ho.ret
  obtain ⟨V_a, hV_a⟩ : ∃ V, Hid (w_a.alloc (DyBox n_a a_a l_a c_a e_a) = V) := ⟨_, rfl⟩
  have hW_a : w_a.alloc (DyBox n_a a_a l_a c_a e_a) = V_a := hV_a.out
  have HB_a : Hid (Below w.heap.size w V_a) := by rw [← hV_a.out]; exact hb.alloc hb.size _
  have Hz_a := hid (show w.heap.size ≤ w_a.heap.size ∧ V_a.heap.size = w_a.heap.size + 1 from ⟨hb.size, by rw [← hV_a.out]; simp⟩)
  have HV_a : Hid (Below w.heap.size w V_a) := HV0w.out.trans (HB_a.out.mono HV0w.out.size)
  have Hv_a : Hid (DyVar V_a w_a.heap.size n_a a_a l_a c_a e_a A (-1074)) := by rw [← hV_a.out]; exact DyVar.new hr
  have Hr_a : Hid (∀ p, a_a = some p → w.heap.size ≤ p.block ∧ p.block < w_a.heap.size) := fun p hp => ⟨(hr.own p hp).1, (hr.own p hp).2.lt⟩
  unfold DyBox at hW_a
  clear ho hb hr
  go_wp2_with fail
  refine (HO2.out _ HV_a.out).mono ?_
  rintro r w_b ⟨ho, hb⟩
  obtain ⟨n_b, a_b, l_b, c_b, e_b, rfl, hr⟩ := ho.ret
  obtain ⟨V_b, hV_b⟩ : ∃ V, Hid (w_b.alloc (DyBox n_b a_b l_b c_b e_b) = V) := ⟨_, rfl⟩
  have hW_b : w_b.alloc (DyBox n_b a_b l_b c_b e_b) = V_b := hV_b.out
  have HB_b : Hid (Below V_a.heap.size V_a V_b) := by rw [← hV_b.out]; exact hb.alloc hb.size _
  have Hz_b := hid (show V_a.heap.size ≤ w_b.heap.size ∧ V_b.heap.size = w_b.heap.size + 1 from ⟨hb.size, by rw [← hV_b.out]; simp⟩)
  have HV_b : Hid (Below w.heap.size w V_b) := HV_a.out.trans (HB_b.out.mono HV_a.out.size)
  have Hv_a := hid (Hv_a.out.below HB_b.out)
  have Hv_b : Hid (DyVar V_b w_b.heap.size n_b a_b l_b c_b e_b B (-1074)) := by rw [← hV_b.out]; exact DyVar.new hr
  have Hr_b : Hid (∀ p, a_b = some p → V_a.heap.size ≤ p.block ∧ p.block < w_b.heap.size) := fun p hp => ⟨(hr.own p hp).1, (hr.own p hp).2.lt⟩
  unfold DyBox at hW_b
  clear ho hb hr
  go_wp2_with fail
  refine (awake3_any _ (HT.out _ HV_b.out).1 (HT.out _ HV_b.out).2.1 (HT.out _ HV_b.out).2.2.1 (HT.out _ HV_b.out).2.2.2).mono ?_
  rintro r V_k ⟨rfl, hb⟩
  have HB_k : Hid (Below V_b.heap.size V_b V_k) := hb
  have HV_k : Hid (Below w.heap.size w V_k) := HV_b.out.trans (HB_k.out.mono HV_b.out.size)
  have Hz_k := hid (show V_b.heap.size ≤ V_k.heap.size from hb.size)
  clear hb
  have Hv_a := hid (Hv_a.out.below HB_k.out)
  have Hv_b := hid (Hv_b.out.below HB_k.out)
  obtain ⟨p0, p1, p2⟩ := Hv_a.out.cells
  go_wp2_with fail
  refine (twin_dy n_a a_a l_a c_a e_a A (-1074) _ Hv_a.out.2).mono ?_
  rintro r w_kp ⟨a_kp, c_kp, rfl, hd, hr, hb⟩
  obtain ⟨V_kp, hV_kp⟩ : ∃ V, Hid (w_kp.alloc (DyBox n_a a_kp l_a c_kp e_a) = V) := ⟨_, rfl⟩
  have hW_kp : w_kp.alloc (DyBox n_a a_kp l_a c_kp e_a) = V_kp := hV_kp.out
  have HB_kp : Hid (Below V_k.heap.size V_k V_kp) := by rw [← hV_kp.out]; exact hb.alloc hb.size _
  have Hz_kp := hid (show V_k.heap.size ≤ w_kp.heap.size ∧ V_kp.heap.size = w_kp.heap.size + 1 from ⟨hb.size, by rw [← hV_kp.out]; simp⟩)
  have HV_kp : Hid (Below w.heap.size w V_kp) := HV_k.out.trans (HB_kp.out.mono HV_k.out.size)
  have Hv_a := hid (Hv_a.out.below HB_kp.out)
  have Hv_b := hid (Hv_b.out.below HB_kp.out)
  have Hv_kp : Hid (DyVar V_kp w_kp.heap.size n_a a_kp l_a c_kp e_a A (-1074)) := by rw [← hV_kp.out]; exact ⟨new_blk _ _ _ rfl, hd.below ((Below.refl _ _).alloc (Nat.le_refl _) _)⟩
  have Hr_kp : Hid (∀ p, a_kp = some p → V_k.heap.size ≤ p.block) := hr
  have HX_kp : Hid (∀ p, a_kp = some p → l_a ≠ 0 → p.block < w_kp.heap.size) := hd.under
  unfold DyBox at hW_kp
  clear p0 p1 p2
  clear hd hb hr
  obtain ⟨V_z, hV_z⟩ : ∃ V, Hid (V_kp.alloc (DyBox false none 0 0 0) = V) := ⟨_, rfl⟩
  have hW_z : V_kp.alloc (DyBox false none 0 0 0) = V_z := hV_z.out
  have HB_z : Hid (Below V_kp.heap.size V_kp V_z) := by rw [← hV_z.out]; exact (Below.refl _ _).alloc (Nat.le_refl _) _
  have HV_z : Hid (Below w.heap.size w V_z) := HV_kp.out.trans (HB_z.out.mono HV_kp.out.size)
  have Hz_z := hid (show V_z.heap.size = V_kp.heap.size + 1 by rw [← hV_z.out]; simp)
  have hz3 : V_z.heap[V_kp.heap.size]? = some (DyBox false none 0 0 0) := by rw [← hV_z.out]; exact new_blk _ _ _ rfl
  have hs0 : V_z.setCell ⟨V_kp.heap.size, 0, none⟩ (.bool false) = V_z := set_same _ _ _ _ _ _ hz3 rfl
  have hs1 : V_z.setCell ⟨V_kp.heap.size, 1, none⟩ (.slice none 0 0) = V_z := set_same _ _ _ _ _ _ hz3 rfl
  have hs2 : V_z.setCell ⟨V_kp.heap.size, 2, none⟩ (.int .i64 0) = V_z := set_same _ _ _ _ _ _ hz3 rfl
  have hfz : ∀ o, V_z.frozen? ⟨V_kp.heap.size, o, none⟩ = false := fun o => by simp [World.frozen?, hz3, DyBox]
  unfold DyBox at hW_z
  have Hv_a := hid (Hv_a.out.below HB_z.out)
  have Hv_b := hid (Hv_b.out.below HB_z.out)
  have Hv_kp := hid (Hv_kp.out.below HB_z.out)
  obtain ⟨p0, p1, p2⟩ := Hv_a.out.cells
  obtain ⟨q0, q1, q2⟩ := dcells_of hz3
  clear hz3
  go_wp2_with fail
  refine (Add_dy n_a false a_a none l_a 0 c_a 0 2101 e_a 0 A 0 (-1074) _ Hv_a.out.2 (dy_zero _ _) bA.out bZ.out (by decide) (by decide) (by decide) (HT.out _ HV_z.out).2.2.1 (HT.out _ HV_z.out).2.2.2).mono ?_
  rintro r w_s ⟨ho, hb⟩
  obtain ⟨n_s, a_s, l_s, c_s, e_s, rfl, hr⟩ := ho.ret
  obtain ⟨V_s, hV_s⟩ : ∃ V, Hid (w_s.alloc (DyBox n_s a_s l_s c_s e_s) = V) := ⟨_, rfl⟩
  have hW_s : w_s.alloc (DyBox n_s a_s l_s c_s e_s) = V_s := hV_s.out
  have HB_s : Hid (Below V_z.heap.size V_z V_s) := by rw [← hV_s.out]; exact hb.alloc hb.size _
  have Hz_s := hid (show V_z.heap.size ≤ w_s.heap.size ∧ V_s.heap.size = w_s.heap.size + 1 from ⟨hb.size, by rw [← hV_s.out]; simp⟩)
  have HV_s : Hid (Below w.heap.size w V_s) := HV_z.out.trans (HB_s.out.mono HV_z.out.size)
  have Hv_a := hid (Hv_a.out.below HB_s.out)
  have Hv_b := hid (Hv_b.out.below HB_s.out)
  have Hv_kp := hid (Hv_kp.out.below HB_s.out)
  have Hv_s : Hid (DyVar V_s w_s.heap.size n_s a_s l_s c_s e_s (A + 0) (-1074)) := by rw [← hV_s.out]; exact DyVar.new hr
  have Hr_s : Hid (∀ p, a_s = some p → V_z.heap.size ≤ p.block ∧ p.block < w_s.heap.size) := fun p hp => ⟨(hr.own p hp).1, (hr.own p hp).2.lt⟩
  have Ho_s : Hid (∀ p, a_s = some p → OwnRow V_s p l_s) := fun p hp => by rw [← hV_s.out]; exact (hr.own p hp).2.below ((Below.refl _ _).alloc (Nat.le_refl _) _)
  unfold DyBox at hW_s
  clear ho hb hr
  clear p0 p1 p2 q0 q1 q2 hs0 hs1 hs2 hfz
  obtain ⟨p0, p1, p2⟩ := Hv_a.out.cells
  go_wp2_with fail
  refine (Neg_dy n_a a_a l_a c_a 2101 e_a A (-1074) _ Hv_a.out.2 bA.out (by decide) (by decide) (by decide) (HT.out _ HV_s.out).2.2.1 (HT.out _ HV_s.out).2.2.2).mono ?_
  rintro r w_n ⟨ho, hb⟩
  obtain ⟨n_n, a_n, l_n, c_n, e_n, rfl, hr⟩ := ho.ret
  obtain ⟨V_n, hV_n⟩ : ∃ V, Hid (w_n.alloc (DyBox n_n a_n l_n c_n e_n) = V) := ⟨_, rfl⟩
  have hW_n : w_n.alloc (DyBox n_n a_n l_n c_n e_n) = V_n := hV_n.out
  have HB_n : Hid (Below V_s.heap.size V_s V_n) := by rw [← hV_n.out]; exact hb.alloc hb.size _
  have Hz_n := hid (show V_s.heap.size ≤ w_n.heap.size ∧ V_n.heap.size = w_n.heap.size + 1 from ⟨hb.size, by rw [← hV_n.out]; simp⟩)
  have HV_n : Hid (Below w.heap.size w V_n) := HV_s.out.trans (HB_n.out.mono HV_s.out.size)
  have Hv_a := hid (Hv_a.out.below HB_n.out)
  have Hv_b := hid (Hv_b.out.below HB_n.out)
  have Hv_kp := hid (Hv_kp.out.below HB_n.out)
  have Hv_s := hid (Hv_s.out.below HB_n.out)
  have Ho_s : Hid (∀ p, a_s = some p → OwnRow V_n p l_s) := fun p hp => (Ho_s.out p hp).below HB_n.out
  have Hv_n : Hid (DyVar V_n w_n.heap.size n_n a_n l_n c_n e_n (-A) (-1074)) := by rw [← hV_n.out]; exact DyVar.new hr
  have Hr_n : Hid (∀ p, a_n = some p → V_s.heap.size ≤ p.block ∧ p.block < w_n.heap.size) := fun p hp => ⟨(hr.own p hp).1, (hr.own p hp).2.lt⟩
  have Ho_n : Hid (∀ p, a_n = some p → OwnRow V_n p l_n) := fun p hp => by rw [← hV_n.out]; exact (hr.own p hp).2.below ((Below.refl _ _).alloc (Nat.le_refl _) _)
  unfold DyBox at hW_n
  clear ho hb hr
  clear p0 p1 p2
  obtain ⟨p0, p1, p2⟩ := Hv_a.out.cells
  obtain ⟨q0, q1, q2⟩ := Hv_b.out.cells
  go_wp2_with fail
  refine (Add_dy n_a n_b a_a a_b l_a l_b c_a c_b 2101 e_a e_b A B (-1074) _ Hv_a.out.2 Hv_b.out.2 bA.out bB.out (by decide) (by decide) (by decide) (HT.out _ HV_n.out).2.2.1 (HT.out _ HV_n.out).2.2.2).mono ?_
  rintro r w_m ⟨ho, hb⟩
  obtain ⟨n_m, a_m, l_m, c_m, e_m, rfl, hr⟩ := ho.ret
  obtain ⟨V_m, hV_m⟩ : ∃ V, Hid (w_m.alloc (DyBox n_m a_m l_m c_m e_m) = V) := ⟨_, rfl⟩
  have hW_m : w_m.alloc (DyBox n_m a_m l_m c_m e_m) = V_m := hV_m.out
  have HB_m : Hid (Below V_n.heap.size V_n V_m) := by rw [← hV_m.out]; exact hb.alloc hb.size _
  have Hz_m := hid (show V_n.heap.size ≤ w_m.heap.size ∧ V_m.heap.size = w_m.heap.size + 1 from ⟨hb.size, by rw [← hV_m.out]; simp⟩)
  have HV_m : Hid (Below w.heap.size w V_m) := HV_n.out.trans (HB_m.out.mono HV_n.out.size)
  have Hv_a := hid (Hv_a.out.below HB_m.out)
  have Hv_b := hid (Hv_b.out.below HB_m.out)
  have Hv_kp := hid (Hv_kp.out.below HB_m.out)
  have Hv_s := hid (Hv_s.out.below HB_m.out)
  have Hv_n := hid (Hv_n.out.below HB_m.out)
  have Ho_s : Hid (∀ p, a_s = some p → OwnRow V_m p l_s) := fun p hp => (Ho_s.out p hp).below HB_m.out
  have Ho_n : Hid (∀ p, a_n = some p → OwnRow V_m p l_n) := fun p hp => (Ho_n.out p hp).below HB_m.out
  have Hv_m : Hid (DyVar V_m w_m.heap.size n_m a_m l_m c_m e_m (A + B) (-1074)) := by rw [← hV_m.out]; exact DyVar.new hr
  have Hr_m : Hid (∀ p, a_m = some p → V_n.heap.size ≤ p.block ∧ p.block < w_m.heap.size) := fun p hp => ⟨(hr.own p hp).1, (hr.own p hp).2.lt⟩
  unfold DyBox at hW_m
  clear ho hb hr
  clear p0 p1 p2 q0 q1 q2
  obtain ⟨p0, p1, p2⟩ := Hv_m.out.cells
  go_wp2_with fail
  refine (twin_dy n_m a_m l_m c_m e_m (A + B) (-1074) _ Hv_m.out.2).mono ?_
  rintro r w_wt ⟨a_wt, c_wt, rfl, hd, hr, hb⟩
  obtain ⟨V_wt, hV_wt⟩ : ∃ V, Hid (w_wt.alloc (DyBox n_m a_wt l_m c_wt e_m) = V) := ⟨_, rfl⟩
  have hW_wt : w_wt.alloc (DyBox n_m a_wt l_m c_wt e_m) = V_wt := hV_wt.out
  have HB_wt : Hid (Below V_m.heap.size V_m V_wt) := by rw [← hV_wt.out]; exact hb.alloc hb.size _
  have Hz_wt := hid (show V_m.heap.size ≤ w_wt.heap.size ∧ V_wt.heap.size = w_wt.heap.size + 1 from ⟨hb.size, by rw [← hV_wt.out]; simp⟩)
  have HV_wt : Hid (Below w.heap.size w V_wt) := HV_m.out.trans (HB_wt.out.mono HV_m.out.size)
  have Hv_a := hid (Hv_a.out.below HB_wt.out)
  have Hv_b := hid (Hv_b.out.below HB_wt.out)
  have Hv_kp := hid (Hv_kp.out.below HB_wt.out)
  have Hv_s := hid (Hv_s.out.below HB_wt.out)
  have Hv_n := hid (Hv_n.out.below HB_wt.out)
  have Hv_m := hid (Hv_m.out.below HB_wt.out)
  have Ho_s : Hid (∀ p, a_s = some p → OwnRow V_wt p l_s) := fun p hp => (Ho_s.out p hp).below HB_wt.out
  have Ho_n : Hid (∀ p, a_n = some p → OwnRow V_wt p l_n) := fun p hp => (Ho_n.out p hp).below HB_wt.out
  have Hv_wt : Hid (DyVar V_wt w_wt.heap.size n_m a_wt l_m c_wt e_m (A + B) (-1074)) := by rw [← hV_wt.out]; exact ⟨new_blk _ _ _ rfl, hd.below ((Below.refl _ _).alloc (Nat.le_refl _) _)⟩
  have Hr_wt : Hid (∀ p, a_wt = some p → V_m.heap.size ≤ p.block) := hr
  unfold DyBox at hW_wt
  clear p0 p1 p2
  obtain ⟨p0, p1, p2⟩ := Hv_s.out.cells
  obtain ⟨q0, q1, q2⟩ := Hv_n.out.cells
  clear hd hb hr
  obtain ⟨V_L, hV_L⟩ : ∃ V, Hid (V_wt.alloc (.cells #[.slice a_s l_s c_s, .slice a_n l_n c_n] 23) = V) := ⟨_, rfl⟩
  have hW_L : V_wt.alloc (.cells #[.slice a_s l_s c_s, .slice a_n l_n c_n] 23) = V_L := hV_L.out
  have HB_L : Hid (Below V_wt.heap.size V_wt V_L) := by rw [← hV_L.out]; exact (Below.refl _ _).alloc (Nat.le_refl _) _
  have HV_L : Hid (Below w.heap.size w V_L) := HV_wt.out.trans (HB_L.out.mono HV_wt.out.size)
  have Hz_L := hid (show V_L.heap.size = V_wt.heap.size + 1 by rw [← hV_L.out]; simp)
  have HCL : Hid (V_L.heap[V_wt.heap.size]? = some (.cells #[.slice a_s l_s c_s, .slice a_n l_n c_n] 23)) := by rw [← hV_L.out]; exact new_blk _ _ _ rfl
  have Hv_a := hid (Hv_a.out.below HB_L.out)
  have Hv_b := hid (Hv_b.out.below HB_L.out)
  have Hv_kp := hid (Hv_kp.out.below HB_L.out)
  have Hv_s := hid (Hv_s.out.below HB_L.out)
  have Hv_n := hid (Hv_n.out.below HB_L.out)
  have Hv_m := hid (Hv_m.out.below HB_L.out)
  have Hv_wt := hid (Hv_wt.out.below HB_L.out)
  have Ho_s : Hid (∀ p, a_s = some p → OwnRow V_L p l_s) := fun p hp => (Ho_s.out p hp).below HB_L.out
  have Ho_n : Hid (∀ p, a_n = some p → OwnRow V_L p l_n) := fun p hp => (Ho_n.out p hp).below HB_L.out
  have HN : Hid (∀ k, (k < V_z.heap.size ∨ V_n.heap.size ≤ k) → ¬ InB a_s a_n k) := fun k hk => by
    obtain ⟨z1, z2⟩ := Hz_a.out; obtain ⟨z3, z4⟩ := Hz_b.out; have z5 := Hz_k.out; obtain ⟨z6, z7⟩ := Hz_kp.out; have z8 := Hz_z.out; obtain ⟨z9, z10⟩ := Hz_s.out; obtain ⟨z11, z12⟩ := Hz_n.out; obtain ⟨z13, z14⟩ := Hz_m.out; obtain ⟨z15, z16⟩ := Hz_wt.out; have z17 := Hz_L.out
    exact not_in Hr_s.out Hr_n.out (by omega) (by omega)
  have HNL : Hid (¬ InB a_s a_n V_wt.heap.size) := HN.out _ (by obtain ⟨z1, z2⟩ := Hz_a.out; obtain ⟨z3, z4⟩ := Hz_b.out; have z5 := Hz_k.out; obtain ⟨z6, z7⟩ := Hz_kp.out; have z8 := Hz_z.out; obtain ⟨z9, z10⟩ := Hz_s.out; obtain ⟨z11, z12⟩ := Hz_n.out; obtain ⟨z13, z14⟩ := Hz_m.out; obtain ⟨z15, z16⟩ := Hz_wt.out; have z17 := Hz_L.out; omega)
  have HU_a := hid (show ∀ p, a_a = some p → l_a ≠ 0 → ¬ InB a_s a_n p.block from fun p hp hl => HN.out _ (by have := Hr_a.out p hp; obtain ⟨z1, z2⟩ := Hz_a.out; obtain ⟨z3, z4⟩ := Hz_b.out; have z5 := Hz_k.out; obtain ⟨z6, z7⟩ := Hz_kp.out; have z8 := Hz_z.out; obtain ⟨z9, z10⟩ := Hz_s.out; obtain ⟨z11, z12⟩ := Hz_n.out; obtain ⟨z13, z14⟩ := Hz_m.out; obtain ⟨z15, z16⟩ := Hz_wt.out; have z17 := Hz_L.out; omega))
  have HU_kp := hid (show ∀ p, a_kp = some p → l_a ≠ 0 → ¬ InB a_s a_n p.block from fun p hp hl => HN.out _ (by have := HX_kp.out p hp hl; obtain ⟨z1, z2⟩ := Hz_a.out; obtain ⟨z3, z4⟩ := Hz_b.out; have z5 := Hz_k.out; obtain ⟨z6, z7⟩ := Hz_kp.out; have z8 := Hz_z.out; obtain ⟨z9, z10⟩ := Hz_s.out; obtain ⟨z11, z12⟩ := Hz_n.out; obtain ⟨z13, z14⟩ := Hz_m.out; obtain ⟨z15, z16⟩ := Hz_wt.out; have z17 := Hz_L.out; omega))
  have HU_m := hid (show ∀ p, a_m = some p → l_m ≠ 0 → ¬ InB a_s a_n p.block from fun p hp hl => HN.out _ (by have := Hr_m.out p hp; obtain ⟨z1, z2⟩ := Hz_a.out; obtain ⟨z3, z4⟩ := Hz_b.out; have z5 := Hz_k.out; obtain ⟨z6, z7⟩ := Hz_kp.out; have z8 := Hz_z.out; obtain ⟨z9, z10⟩ := Hz_s.out; obtain ⟨z11, z12⟩ := Hz_n.out; obtain ⟨z13, z14⟩ := Hz_m.out; obtain ⟨z15, z16⟩ := Hz_wt.out; have z17 := Hz_L.out; omega))
  have HU_wt := hid (show ∀ p, a_wt = some p → l_m ≠ 0 → ¬ InB a_s a_n p.block from fun p hp hl => HN.out _ (by have := Hr_wt.out p hp; obtain ⟨z1, z2⟩ := Hz_a.out; obtain ⟨z3, z4⟩ := Hz_b.out; have z5 := Hz_k.out; obtain ⟨z6, z7⟩ := Hz_kp.out; have z8 := Hz_z.out; obtain ⟨z9, z10⟩ := Hz_s.out; obtain ⟨z11, z12⟩ := Hz_n.out; obtain ⟨z13, z14⟩ := Hz_m.out; obtain ⟨z15, z16⟩ := Hz_wt.out; have z17 := Hz_L.out; omega))
  have HQ_a := hid (show ¬ InB a_s a_n w_a.heap.size from HN.out _ (by obtain ⟨z1, z2⟩ := Hz_a.out; obtain ⟨z3, z4⟩ := Hz_b.out; have z5 := Hz_k.out; obtain ⟨z6, z7⟩ := Hz_kp.out; have z8 := Hz_z.out; obtain ⟨z9, z10⟩ := Hz_s.out; obtain ⟨z11, z12⟩ := Hz_n.out; obtain ⟨z13, z14⟩ := Hz_m.out; obtain ⟨z15, z16⟩ := Hz_wt.out; have z17 := Hz_L.out; omega))
  have HQ_kp := hid (show ¬ InB a_s a_n w_kp.heap.size from HN.out _ (by obtain ⟨z1, z2⟩ := Hz_a.out; obtain ⟨z3, z4⟩ := Hz_b.out; have z5 := Hz_k.out; obtain ⟨z6, z7⟩ := Hz_kp.out; have z8 := Hz_z.out; obtain ⟨z9, z10⟩ := Hz_s.out; obtain ⟨z11, z12⟩ := Hz_n.out; obtain ⟨z13, z14⟩ := Hz_m.out; obtain ⟨z15, z16⟩ := Hz_wt.out; have z17 := Hz_L.out; omega))
  have HQ_m := hid (show ¬ InB a_s a_n w_m.heap.size from HN.out _ (by obtain ⟨z1, z2⟩ := Hz_a.out; obtain ⟨z3, z4⟩ := Hz_b.out; have z5 := Hz_k.out; obtain ⟨z6, z7⟩ := Hz_kp.out; have z8 := Hz_z.out; obtain ⟨z9, z10⟩ := Hz_s.out; obtain ⟨z11, z12⟩ := Hz_n.out; obtain ⟨z13, z14⟩ := Hz_m.out; obtain ⟨z15, z16⟩ := Hz_wt.out; have z17 := Hz_L.out; omega))
  have HQ_wt := hid (show ¬ InB a_s a_n w_wt.heap.size from HN.out _ (by obtain ⟨z1, z2⟩ := Hz_a.out; obtain ⟨z3, z4⟩ := Hz_b.out; have z5 := Hz_k.out; obtain ⟨z6, z7⟩ := Hz_kp.out; have z8 := Hz_z.out; obtain ⟨z9, z10⟩ := Hz_s.out; obtain ⟨z11, z12⟩ := Hz_n.out; obtain ⟨z13, z14⟩ := Hz_m.out; obtain ⟨z15, z16⟩ := Hz_wt.out; have z17 := Hz_L.out; omega))
  have HM0 : Hid (Mut a_s a_n l_s l_n V_L V_L) := ⟨rfl, rfl, rfl, Nat.le_refl _, fun _ _ _ => rfl, Ho_s.out, Ho_n.out⟩
  have HEND : Hid (∀ W, Hid (Mut a_s a_n l_s l_n V_L W) → Hid (DyVar W w_a.heap.size n_a a_a l_a c_a e_a A (-1074)) ∧ Hid (DyVar W w_kp.heap.size n_a a_kp l_a c_kp e_a A (-1074)) ∧ Hid (DyVar W w_m.heap.size n_m a_m l_m c_m e_m (A + B) (-1074)) ∧ Hid (DyVar W w_wt.heap.size n_m a_wt l_m c_wt e_m (A + B) (-1074)) ∧ Hid (Below w.heap.size w W)) := fun W hW =>
    ⟨Hv_a.out.mut hW.out HQ_a.out HU_a.out, Hv_kp.out.mut hW.out HQ_kp.out HU_kp.out, Hv_m.out.mut hW.out HQ_m.out HU_m.out, Hv_wt.out.mut hW.out HQ_wt.out HU_wt.out, HV_L.out.trans ⟨hW.out.os, hW.out.tape, hW.out.output, hW.out.size, fun k hk => hW.out.block k (Nat.lt_of_lt_of_le hk HV_L.out.size) (HN.out k (Or.inl (Nat.lt_of_lt_of_le hk HV_z.out.size)))⟩⟩
  have HEL : Hid (∀ W, Hid (Mut a_s a_n l_s l_n V_L W) → W.cell? ⟨V_wt.heap.size, 0, none⟩ = some (.slice a_s l_s c_s) ∧ W.cell? ⟨V_wt.heap.size, 1, none⟩ = some (.slice a_n l_n c_n)) := fun W hW => by
    have hb : W.heap[V_wt.heap.size]? = some (.cells #[.slice a_s l_s c_s, .slice a_n l_n c_n] 23) := by
      rw [hW.out.block _ (by rw [Hz_L.out]; omega) HNL.out]; exact HCL.out
    exact ⟨by simp [World.cell?, hb], by simp [World.cell?, hb]⟩
  clear HO1 HO2 bA bB bZ Hr_a Hr_b Hr_s Hr_n Hr_m Hr_kp Hr_wt Ho_s Ho_n HU_a HU_kp HU_m HU_wt HQ_a HQ_kp HQ_m HQ_wt HCL HNL
  obtain ⟨hl_s, hp_s⟩ := Hv_s.out.2.some
  obtain ⟨hl_n, hp_n⟩ := Hv_n.out.2.some
  have Hp_s := hid hp_s
  have Hp_n := hid hp_n
  clear hp_s hp_n
  go_wp2
  go_loopw [82] (fun i wr => ∃ k : Nat, k ≤ 2 ∧ i = .int .i64 k ∧ Hid (Mut a_s a_n l_s l_n V_L wr)) (fun i _ => 2 - (intOf i).toNat)
  case atStart => exact ⟨0, by decide, rfl, HM0⟩
  case round =>
    obtain ⟨k, hk, rfl, HM⟩ := hrel
    rcases (show k = 0 ∨ k = 1 ∨ k = 2 by omega) with rfl | rfl | rfl
    · obtain ⟨x0, x1⟩ := HEL.out _ HM
      clear p0 p1 p2 q0 q1 q2
      go_wp2
      go_loopw [88] (fun i wr2 => ∃ j : Nat, j ≤ l_s ∧ i = .int .i64 j ∧ Hid (Mut a_s a_n l_s l_n V_L wr2)) (fun i _ => l_s - (intOf i).toNat)
      case atStart => exact ⟨0, Nat.zero_le _, rfl, HM⟩
      case round =>
        obtain ⟨j, hj, rfl, HM2⟩ := hrel
        by_cases hlt : j < l_s
        · obtain ⟨p, hp⟩ := Hp_s.out j hlt
          obtain ⟨b, M, f, rfl, hM, hrow⟩ := HM2.out.row1 p hp
          have HST := hid (fun (y : Int) => HM2.out.set b j y (Or.inl ⟨_, hp, rfl⟩))
          have hc := hrow.cell (i := j) (Nat.lt_of_lt_of_le hlt hM)
          have hfr := hrow.frozen j
          obtain ⟨F, hF⟩ : ∃ F, Hid (f j = F) := ⟨_, rfl⟩
          rw [hF.out] at hc
          have hjI : (j : Int) < (l_s : Int) := by omega
          have hj0 : (0 : Int) ≤ (j : Int) := by omega
          clear hrow hM x0 x1
          subst hp
          go_wp2
          refine ⟨⟨j + 1, by omega, by go_num, HST.out _⟩, ?_⟩
          simp [intOf]; omega
        · have hjl : j = l_s := by omega
          subst hjl
          clear x0 x1
          go_wp2
          exact ⟨⟨1, by decide, rfl, HM2⟩, by simp [intOf]⟩
    · obtain ⟨x0, x1⟩ := HEL.out _ HM
      clear p0 p1 p2 q0 q1 q2
      go_wp2
      go_loopw [88] (fun i wr2 => ∃ j : Nat, j ≤ l_n ∧ i = .int .i64 j ∧ Hid (Mut a_s a_n l_s l_n V_L wr2)) (fun i _ => l_n - (intOf i).toNat)
      case atStart => exact ⟨0, Nat.zero_le _, rfl, HM⟩
      case round =>
        obtain ⟨j, hj, rfl, HM2⟩ := hrel
        by_cases hlt : j < l_n
        · obtain ⟨p, hp⟩ := Hp_n.out j hlt
          obtain ⟨b, M, f, rfl, hM, hrow⟩ := HM2.out.row2 p hp
          have HST := hid (fun (y : Int) => HM2.out.set b j y (Or.inr ⟨_, hp, rfl⟩))
          have hc := hrow.cell (i := j) (Nat.lt_of_lt_of_le hlt hM)
          have hfr := hrow.frozen j
          obtain ⟨F, hF⟩ : ∃ F, Hid (f j = F) := ⟨_, rfl⟩
          rw [hF.out] at hc
          have hjI : (j : Int) < (l_n : Int) := by omega
          have hj0 : (0 : Int) ≤ (j : Int) := by omega
          clear hrow hM x0 x1
          subst hp
          go_wp2
          refine ⟨⟨j + 1, by omega, by go_num, HST.out _⟩, ?_⟩
          simp [intOf]; omega
        · have hjl : j = l_n := by omega
          subst hjl
          clear x0 x1
          go_wp2
          exact ⟨⟨2, by decide, rfl, HM2⟩, by simp [intOf]⟩
    · obtain ⟨g1, g2, g3, g4, g5⟩ := HEND.out _ HM
      clear p0 p1 p2 q0 q1 q2
      obtain ⟨p0, p1, p2⟩ := g1.out.cells
      obtain ⟨q0, q1, q2⟩ := g2.out.cells
      go_wp2_with fail
      refine (Same_dy n_a n_a a_a a_kp l_a l_a c_a c_kp e_a e_a A (-1074) _ g1.out.2 g2.out.2).mono ?_
      rintro r y1 ⟨rfl, hb⟩
      have HY1 : Hid (Below w.heap.size w y1) := g5.out.trans (hb.mono g5.out.size)
      have g3' := hid (g3.out.below hb)
      have g4' := hid (g4.out.below hb)
      clear hb p0 p1 p2 q0 q1 q2
      obtain ⟨p0, p1, p2⟩ := g3'.out.cells
      obtain ⟨q0, q1, q2⟩ := g4'.out.cells
      go_wp2_with fail
      refine (Same_dy n_m n_m a_m a_wt l_m l_m c_m c_wt e_m e_m (A + B) (-1074) _ g3'.out.2 g4'.out.2).mono ?_
      rintro r y2 ⟨rfl, hb⟩
      have HY2 : Hid (Below w.heap.size w y2) := HY1.out.trans (hb.mono HY1.out.size)
      clear hb
      go_wp2
      go_ret
      exact ⟨rfl, HY2.out⟩
end Go.Proofs.YtnhggfmpajnapaaDoor
