
/- What the law MatrixBlocks wants besides: an append to an empty row, an order turned back, products by parts. (Written by mknee.py.) -/
import Derived.Test.YtehgiegmdpaomaaP47
import Derived.Deep.OwnRows
import Derived.Lib.Slices
namespace Go.Proofs.Ytehgiegmdpaomaa
open Go.RowKit Go.IntWalk

theorem info_ie0 : (Try.prog.info? 3).map (fun i => (i.zero, i.size, i.bytes)) = some (some (.int .i64 0), 1, 8) := by kernel_rfl
theorem info_ie : ∃ i, Try.prog.info? 3 = some i ∧ i.zero = some (.int .i64 0) ∧ i.size = 1 ∧ i.bytes = 8 := by
  have h := info_ie0
  cases hi : Try.prog.info? 3 with
  | none => rw [hi] at h; cases h
  | some i =>
    rw [hi] at h
    simp only [Option.map_some, Option.some.injEq, Prod.mk.injEq] at h
    exact ⟨i, rfl, h.1, h.2.1, h.2.2⟩
/-- An append as one step of a region that draws. -/
theorem step_ape {ops : Array Oper} {o : Oper} {a : Act} {w w' : World} {K : Act → World → Prop} {Q : Exit → Act → World → Prop} {E : Prop} {r : Value} (T : TypeId)
    (hg : o.guard = none) (s x : Operand) (hop : o.op = Op.call { callee := Callee.builtin Builtin.append, args := #[s, x], argTypes := #[T, T] })
    (u v : Value) (hs : a.eval s = u) (hx : a.eval x = v) (hrun : (Builtin.append_ #[T, T] o.type #[u, v]).run Try.prog w = .ok r w') (hK : K (a.put o.dst r) w') :
    if Region.wanted o (yielded ops a.tmps) = true then Oper.wp Try.prog o a w K Q else E := by
  have hw : Region.wanted o (yielded ops a.tmps) = true := by simp [Region.wanted, hg]
  rw [if_pos hw]
  unfold Oper.wp
  simp [execOp, hop, resolve, invoke, builtin, hs, hx, hrun, Result.andThen]
  exact hK

/-- append(l0, l...) where l0 is an empty row: what was there stays as it was. -/
theorem append_inte (ty : TypeId) (g : Nat) (pa : Option Addr) (m pc : Nat) (xs : List Int) (w : World) (hg : w.heap[g]? = some (.cells #[] 3)) (h : I64At w pa m xs) (hm : m ≤ 17592186043904) :
    ∃ a' cap' w', (Builtin.append_ #[25, 25] ty #[.slice (some ⟨g, 0, none⟩) 0 0, .slice pa m pc]).run Try.prog w = .ok (.slice a' m cap') w' ∧ I64At w' a' m xs ∧ Below w.heap.size w w' := by
  obtain ⟨i, hi, hz, hsz, hby⟩ := info_ie
  by_cases h0 : m = 0
  · subst h0
    refine ⟨some ⟨g, 0, none⟩, 0, w, ?_, ⟨h.1, h.2.1, fun h => absurd rfl h⟩, Below.refl _ _⟩
    cases pa with
    | none => simp [Builtin.append_, run_underlying Try.underlying25, sizeOf, typeInfo, hi, Builtin.lenOf, Builtin.firstCells, storeCells]
    | some a => simp [Builtin.append_, run_underlying Try.underlying25, sizeOf, typeInfo, hi, Builtin.lenOf, Builtin.firstCells, loadCells, loadCellsFrom, storeCells]
  · obtain ⟨b, off, rfl, hbl, hc⟩ := h.2.2 h0
    have hgl : g < w.heap.size := (Array.getElem?_eq_some_iff.1 hg).1
    have hown : w.ownsRow 0 3 1 (.slice (some ⟨g, 0, none⟩) 0 0) 0 [] := ⟨rfl, Or.inr ⟨g, 0, #[], rfl, Nat.zero_le _, hg, Nat.le_refl _, Nat.zero_le _, rfl, rfl⟩⟩
    have hl := h.1
    have hcell : ∀ j u, (xs.map (fun x => Value.int .i64 x))[j]? = some u → w.cell? ((⟨b, off, none⟩ : Addr).add j) = some u := by
      intro j u hj
      rw [List.getElem?_map] at hj
      obtain ⟨x, hx, rfl⟩ := Option.map_eq_some_iff.1 hj
      obtain ⟨hjl, rfl⟩ := List.getElem?_eq_some_iff.1 hx
      rw [Go.WideShapes.add_plain, hc j (by omega), List.getD_eq_getElem?_getD, hx]
      rfl
    have hnews : ∀ u ∈ (xs.map (fun x => Value.int .i64 x)), u.oneCell' = true := by intro u hu; obtain ⟨x, _, rfl⟩ := List.mem_map.1 hu; rfl
    have hlen : (xs.map (fun x => Value.int .i64 x)).length = m * i.size := by rw [hsz]; simp [hl]
    obtain ⟨v', w', hr, hown', hgr, _⟩ := run_append_own (P := Try.prog) w 0 25 ty 3 i (.int .i64 0) 1 8 Try.underlying25 hi hz hsz hby rfl (by decide) (.slice (some ⟨g, 0, none⟩) 0 0) 0 [] hown ⟨b, off, none⟩ m pc (xs.map (fun x => Value.int .i64 x)) (by simp [hl]) hcell hnews (by unfold maxLen; omega) (by omega) (by simp)
    have hr2 := run_append_grow (P := Try.prog) w 25 ty 3 i (.int .i64 0) Try.underlying25 hi hz ⟨g, 0, none⟩ 0 0 [] (by simp) (fun j u hj => by simp at hj) ⟨b, off, none⟩ m pc (xs.map (fun x => Value.int .i64 x)) hlen hcell (by omega) (by omega) (growslice_fits (by omega) (by rw [hby]; omega))
    rw [hr] at hr2
    injection hr2 with e1 e2
    have hbel : Below w.heap.size w w' := by
      rw [e2]
      exact ((Below.refl _ _).drew).alloc (Nat.le_refl _) _
    clear e1 e2
    rw [Nat.zero_add, List.nil_append] at hown'
    rcases Joins.ownsRow_forms hown' with ⟨_, h1⟩ | ⟨g', cap, rfl⟩
    · exact absurd h1 h0
    · refine ⟨some ⟨g', 0, none⟩, cap, w', hr, ⟨h.1, h.2.1, fun _ => ⟨g', 0, rfl, (hown'.lt g' rfl).2, fun j hj => ?_⟩⟩, hbel⟩
      have hcs := hown'.cells (g := g') rfl j (.int .i64 (xs.getD j 0)) (by rw [List.getElem?_map, List.getElem?_eq_getElem (by omega), List.getD_eq_getElem?_getD, List.getElem?_eq_getElem (by omega)]; rfl)
      rw [Go.WideShapes.add_plain] at hcs
      exact hcs
theorem ordT_zero {rx cx : Int} {n : Nat} {xs : List Nat} {q : Nat} {ps : List Int} (h : ordT rx cx n xs q ps = 0) : chkM rx cx n xs = 0 ∧ rx = (q : Int) ∧ cx = (q : Int) ∧ q ≤ 12 ∧ ordB q ps q = true := by
  unfold ordT at h
  by_cases h1 : chkM rx cx n xs = 0
  · rw [if_pos h1] at h
    by_cases h2 : ¬ (rx = cx ∧ (q : Int) = rx)
    · rw [if_pos h2] at h; exact absurd h (by decide)
    · rw [if_neg h2] at h
      by_cases h3 : ordB q ps q = true
      · obtain ⟨a, b, e1, e2, l1, l2, _⟩ := chk_some h1
        have h4 := Classical.not_not.1 h2
        exact ⟨h1, h4.2.symm, by omega, by omega, h3⟩
      · rw [if_neg h3] at h; exact absurd h (by decide)
  · rw [if_neg h1] at h; exact absurd h h1
/-- A row of the order turned, told as a list. -/
theorem row_ints {W : World} {b q : Nat} {ps : List Int} (h : W.rowIs b 3 q (fun j => .int .i64 (bkF ps q j))) (hq : q ≤ 12) : I64At W (some ⟨b, 0, none⟩) q (bkL ps q) := by
  refine ⟨bkL_len ps q, fun x hx => ?_, fun _ => ⟨b, 0, rfl, h.lt, fun i hi => ?_⟩⟩
  · unfold bkL at hx
    obtain ⟨j, _, rfl⟩ := List.mem_map.1 hx
    have := bk_range (ps := ps) (i := q) (j := j)
    omega
  · rw [Nat.zero_add, h.cell hi, bkL_at hi]
theorem info_ib : (Try.prog.info? 3).map (fun i => (i.zero, i.size, i.bytes)) = some (some (.int .i64 0), 1, 8) := by kernel_rfl
theorem bsdE_zero {r c r2 c2 : Int} (h : bsdE r c r2 c2 = 0) : r = r2 ∧ c + c2 ≤ 12 := by
  unfold bsdE at h
  by_cases h1 : r ≠ r2
  · rw [if_pos h1] at h; exact absurd h (by decide)
  · rw [if_neg h1] at h
    by_cases h2 : 12 < c + c2
    · rw [if_pos h2] at h; exact absurd h (by decide)
    · exact ⟨Classical.not_not.1 h1, by omega⟩
theorem bsdT_zero {rx cx : Int} {n : Nat} {xs : List Nat} {ry cy : Int} {m : Nat} {ys : List Nat} (h : bsdT rx cx n xs ry cy m ys = 0) : chkM rx cx n xs = 0 ∧ chkM ry cy m ys = 0 ∧ rx = ry ∧ cx + cy ≤ 12 := by
  unfold bsdT at h
  by_cases h1 : first2 (chkM rx cx n xs) (chkM ry cy m ys) = 0
  · rw [if_pos h1] at h
    exact ⟨(first2_zero h1).1, (first2_zero h1).2, bsdE_zero h⟩
  · rw [if_neg h1] at h; exact absurd h h1
theorem stkT_zero {rx cx : Int} {n : Nat} {xs : List Nat} {ry cy : Int} {m : Nat} {ys : List Nat} (h : stkT rx cx n xs ry cy m ys = 0) : chkM rx cx n xs = 0 ∧ chkM ry cy m ys = 0 ∧ cx = cy ∧ rx + ry ≤ 12 := by
  unfold stkT at h
  by_cases h1 : first2 (chkM rx cx n xs) (chkM ry cy m ys) = 0
  · rw [if_pos h1] at h
    exact ⟨(first2_zero h1).1, (first2_zero h1).2, bsdE_zero h⟩
  · rw [if_neg h1] at h; exact absurd h h1
theorem mulT_zero {rx cx : Int} {n : Nat} {xs : List Nat} {ry cy : Int} {m : Nat} {ys : List Nat} (h : mulT rx cx n xs ry cy m ys = 0) : chkM rx cx n xs = 0 ∧ chkM ry cy m ys = 0 ∧ cx.toNat = ry.toNat ∧ finV rx.toNat cy.toNat (prdV xs ys cx.toNat cy.toNat) = true := by
  unfold mulT at h
  by_cases h1 : first2 (chkM rx cx n xs) (chkM ry cy m ys) = 0
  · rw [if_pos h1] at h
    exact ⟨(first2_zero h1).1, (first2_zero h1).2, mulE_zero h⟩
  · rw [if_neg h1] at h; exact absurd h h1
/-- Side by side: all three answered. -/
theorem side_ready {rx cx : Int} {n : Nat} {xs : List Nat} {ry cy : Int} {m : Nat} {ys : List Nat} {rz cz : Int} {l : Nat} {zs : List Nat} (h0 : bsdT ry cy m ys rz cz l zs = 0) (h1 : mulT rx cx n xs ry cy m ys = 0) (h2 : mulT rx cx n xs rz cz l zs = 0) :
    ∃ r c c1 c2 : Nat, rx = (r : Int) ∧ cx = (c : Int) ∧ ry = (c : Int) ∧ cy = (c1 : Int) ∧ rz = (c : Int) ∧ cz = (c2 : Int) ∧ chkM rx cx n xs = 0 ∧ r ≤ 12 ∧ c1 + c2 ≤ 12 ∧ finV r c1 (prdV xs ys c c1) = true ∧ finV r c2 (prdV xs zs c c2) = true := by
  obtain ⟨hy, hz, e1, e2⟩ := bsdT_zero h0
  obtain ⟨hx, _, e3, f1⟩ := mulT_zero h1
  obtain ⟨_, _, e4, f2⟩ := mulT_zero h2
  obtain ⟨r, c, e5, e6, l1, _⟩ := chk_some hx
  obtain ⟨r2, c1, e7, e8, _⟩ := chk_some hy
  obtain ⟨r3, c2, e9, ea, _⟩ := chk_some hz
  subst e5 e6 e7 e8 e9 ea
  rw [Int.toNat_natCast] at e3 e4 f1 f2
  simp only [Int.toNat_natCast] at e3 e4 f1 f2
  subst e3
  subst e4
  exact ⟨r, c, c1, c2, rfl, rfl, rfl, rfl, rfl, rfl, hx, l1, by omega, f1, f2⟩
theorem over_ready {rx cx : Int} {n : Nat} {xs : List Nat} {ry cy : Int} {m : Nat} {ys : List Nat} {rz cz : Int} {l : Nat} {zs : List Nat} (h0 : stkT rx cx n xs ry cy m ys = 0) (h1 : mulT rx cx n xs rz cz l zs = 0) (h2 : mulT ry cy m ys rz cz l zs = 0) :
    ∃ r1 r2 c c2 : Nat, rx = (r1 : Int) ∧ cx = (c : Int) ∧ ry = (r2 : Int) ∧ cy = (c : Int) ∧ rz = (c : Int) ∧ cz = (c2 : Int) ∧ chkM rz cz l zs = 0 ∧ c2 ≤ 12 ∧ r1 + r2 ≤ 12 ∧ finV r1 c2 (prdV xs zs c c2) = true ∧ finV r2 c2 (prdV ys zs c c2) = true := by
  obtain ⟨hx, hy, e1, e2⟩ := stkT_zero h0
  obtain ⟨_, hz, e3, f1⟩ := mulT_zero h1
  obtain ⟨_, _, e4, f2⟩ := mulT_zero h2
  obtain ⟨r1, c, e5, e6, _⟩ := chk_some hx
  obtain ⟨r2, c1, e7, e8, _⟩ := chk_some hy
  obtain ⟨r3, c2, e9, ea, l1, l2, _⟩ := chk_some hz
  subst e5 e6 e7 e8 e9 ea
  simp only [Int.toNat_natCast] at e3 e4 f1 f2
  obtain rfl : c = c1 := by omega
  subst e3
  exact ⟨r1, r2, c, c2, rfl, rfl, rfl, rfl, rfl, rfl, hz, l2, by omega, f1, f2⟩
theorem MulSide_tot {r c c1 c2 n m l : Nat} {sa : Option Addr} {ka : Nat} {xs ys zs : List Nat} {rx cx ry cy rz cz : Int} {W : World} {Y0 Y1 : Int} {Y2 : Option Addr} {Y3 Y4 : Nat} (e1 : rx = (r : Int)) (e2 : cx = (c : Int)) (e3 : ry = (c : Int)) (e4 : cy = (c1 : Int)) (e6 : cz = (c2 : Int)) (hx : chkM rx cx n xs = 0) (hs : c1 + c2 ≤ 12) (f1 : finV r c1 (prdV xs ys c c1) = true) (f2 : finV r c2 (prdV xs zs c c2) = true) (h0 : bsdT ry cy m ys rz cz l zs = 0) (ha : FlM W sa n ka xs) (hb : ResM (bsdT ry cy m ys rz cz l zs) ry.toNat (cy.toNat + cz.toNat) (bsdV ys zs cy.toNat cz.toNat) W Y0 Y1 Y2 Y3 Y4) :
    Calls Try.prog 14 #[.agg #[.int .i64 rx, .int .i64 cx, .slice sa n ka], .agg #[.int .i64 Y0, .int .i64 Y1, .slice Y2 Y3 Y4]] W fun e w' => (∃ Z0 Z1 Z2 Z3 Z4, e = .returned (.tuple #[.agg #[.int .i64 Z0, .int .i64 Z1, .slice Z2 Z3 Z4], .int .i64 0]) ∧ ResM 0 r (c1 + c2) (sideV c1 (prdV xs ys c c1) (prdV xs zs c c2)) w' Z0 Z1 Z2 Z3 Z4) ∧ Below W.heap.size W w' := by
  rw [h0] at hb
  subst e1 e2 e3 e4 e6
  simp only [Int.toNat_natCast] at hb
  exact Mul_side (f := fun j => xs.getD j 0) (G := fun j => ys.getD j 0) (H := fun j => zs.getD j 0) (gd_own ha hx) hs hb f1 f2
theorem MulOver_tot {r1 r2 c c2 n m l : Nat} {sb : Option Addr} {kb : Nat} {xs ys zs : List Nat} {rx cx ry cy rz cz : Int} {W : World} {Y0 Y1 : Int} {Y2 : Option Addr} {Y3 Y4 : Nat} (e1 : rx = (r1 : Int)) (e2 : cx = (c : Int)) (e3 : ry = (r2 : Int)) (e5 : rz = (c : Int)) (e6 : cz = (c2 : Int)) (hz : chkM rz cz l zs = 0) (hs : r1 + r2 ≤ 12) (f1 : finV r1 c2 (prdV xs zs c c2) = true) (f2 : finV r2 c2 (prdV ys zs c c2) = true) (h0 : stkT rx cx n xs ry cy m ys = 0) (ha : FlM W sb l kb zs) (hb : ResM (stkT rx cx n xs ry cy m ys) (rx.toNat + ry.toNat) cx.toNat (stkV xs ys rx.toNat cx.toNat) W Y0 Y1 Y2 Y3 Y4) :
    Calls Try.prog 14 #[.agg #[.int .i64 Y0, .int .i64 Y1, .slice Y2 Y3 Y4], .agg #[.int .i64 rz, .int .i64 cz, .slice sb l kb]] W fun e w' => (∃ Z0 Z1 Z2 Z3 Z4, e = .returned (.tuple #[.agg #[.int .i64 Z0, .int .i64 Z1, .slice Z2 Z3 Z4], .int .i64 0]) ∧ ResM 0 (r1 + r2) c2 (overV r1 (prdV xs zs c c2) (prdV ys zs c c2)) w' Z0 Z1 Z2 Z3 Z4) ∧ Below W.heap.size W w' := by
  rw [h0] at hb
  subst e1 e2 e3 e5 e6
  simp only [Int.toNat_natCast] at hb
  exact Mul_over (F := fun j => xs.getD j 0) (G := fun j => ys.getD j 0) (g := fun j => zs.getD j 0) (gd_own ha hz) hs hb f1 f2
/-- A total's result where nothing is refused. -/
theorem mul_zero_res {rx cx : Int} {n : Nat} {xs : List Nat} {ry cy : Int} {m : Nat} {ys : List Nat} {r c c1 : Nat} {W : World} {X0 X1 : Int} {X2 : Option Addr} {X3 X4 : Nat} (e1 : rx = (r : Int)) (e2 : cx = (c : Int)) (e4 : cy = (c1 : Int)) (h0 : mulT rx cx n xs ry cy m ys = 0) (h : ResM (mulT rx cx n xs ry cy m ys) rx.toNat cy.toNat (prdV xs ys cx.toNat cy.toNat) W X0 X1 X2 X3 X4) : ResM 0 r c1 (prdV xs ys c c1) W X0 X1 X2 X3 X4 := by
  rw [h0] at h
  subst e1 e2 e4
  simp only [Int.toNat_natCast] at h
  exact h
theorem ord_zero_res {rx cx : Int} {n : Nat} {xs : List Nat} {q : Nat} {ps : List Int} {W : World} {X0 X1 : Int} {X2 : Option Addr} {X3 X4 : Nat} (e1 : rx = (q : Int)) (h0 : ordT rx cx n xs q ps = 0) (h : ResM (ordT rx cx n xs q ps) rx.toNat rx.toNat (ordV xs ps rx.toNat) W X0 X1 X2 X3 X4) : ResM 0 q q (ordV xs ps q) W X0 X1 X2 X3 X4 := by
  rw [h0] at h
  subst e1
  simp only [Int.toNat_natCast] at h
  exact h
end Go.Proofs.Ytehgiegmdpaomaa
