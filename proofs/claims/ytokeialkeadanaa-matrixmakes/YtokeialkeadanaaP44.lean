
/- The document's Row and Col; the law's told, list, same, f. (Written by mkmve.py.) -/
import Derived.Test.YtokeialkeadanaaP43
import Derived.Test.YtokeialkeadanaaP38
namespace Go.Proofs.Ytokeialkeadanaa
open Go.RowKit Go.IntWalk

theorem ownsq_kept {w w' : World} {base : Nat} {v : Value} {xs : List Nat} (h : Owns w base v xs) (hb : Below w.heap.size w w') : Owns w' base v xs := by
  obtain ⟨h1, h2 | ⟨g, cap, cur, e1, e2, e3, e4⟩⟩ := h
  · exact ⟨h1, .inl h2⟩
  · exact ⟨h1, .inr ⟨g, cap, cur, e1, e2, (hb.block g (Array.getElem?_eq_some_iff.1 e3).1).trans e3, e4⟩⟩
set_option maxRecDepth 4000 in
set_option maxHeartbeats 1000000 in
/-- told: an error on both sides, nothing beside it. -/
theorem told_no (E : Int) (hE : E ≠ 0) (r2 c2 : Int) (s2 : Option Addr) (n2 k2 : Nat) (w : World) :
    Calls Try.prog 12 #[.agg #[.int .i64 0, .int .i64 0, .slice none 0 0], .int .i64 E, .agg #[.int .i64 r2, .int .i64 c2, .slice s2 n2 k2], .int .i64 E] w fun e w' => e = .returned (.bool true) ∧ Below w.heap.size w w' := by
  obtain ⟨t1, t2, t3, t4⟩ := two_b w (MBox 0 0 none 0 0) (MBox r2 c2 s2 n2 k2)
  have h1 : (E != E) = false := by simp
  have h2 : (E != 0) = true := by simpa using hE
  have h3 : (E == E) = true := by simp
  obtain ⟨V, hV⟩ : ∃ V, Hid ((w.alloc (MBox 0 0 none 0 0)).alloc (MBox r2 c2 s2 n2 k2) = V) := ⟨_, rfl⟩
  rw [hV.out] at t1 t2 t3 t4
  have hV' := hV.out
  have HB := hid t3
  obtain ⟨x0, x1, x2⟩ := mcells_of t1
  unfold MBox at hV'
  clear t1 t2 t3 t4 hE
  go_enter Try.func12, Try.ntmps12
  go_wp2_with fail
  go_ret
  exact ⟨rfl, HB.out⟩
set_option maxRecDepth 4000 in
set_option maxHeartbeats 1000000 in
/-- told: the same matrix on both sides. -/
theorem told_yes8 (r c : Int) (sa sb : Option Addr) (n ca cb : Nat) (f g : Nat → Nat) (w : World) (ha : FnM w sa n ca f) (hb : FnM w sb n cb g) (he : ∀ k, k < n → canonOf (f k) = canonOf (g k)) :
    Calls Try.prog 12 #[.agg #[.int .i64 r, .int .i64 c, .slice sa n ca], .int .i64 0, .agg #[.int .i64 r, .int .i64 c, .slice sb n cb], .int .i64 0] w fun e w' => e = .returned (.bool true) ∧ Below w.heap.size w w' := by
  obtain ⟨t1, t2, t3, t4⟩ := two_b w (MBox r c sa n ca) (MBox r c sb n cb)
  have h1 : ((r : Int) == r) = true := by simp
  have h2 : ((c : Int) == c) = true := by simp
  obtain ⟨V, hV⟩ : ∃ V, Hid ((w.alloc (MBox r c sa n ca)).alloc (MBox r c sb n cb) = V) := ⟨_, rfl⟩
  have HSL := hid (SameL_yes sa sb n ca cb f g _ (ha.below t3) (hb.below t3) he)
  rw [hV.out] at HSL t1 t2 t3 t4
  have hV' := hV.out
  have HB := hid t3
  obtain ⟨x0, x1, x2⟩ := mcells_of t1
  obtain ⟨v0, v1, v2⟩ := mcells_of t2
  unfold MBox at hV'
  clear t1 t2 t3 t4 ha hb he
  go_enter Try.func12, Try.ntmps12
  go_wp2_with fail
  refine HSL.out.mono ?_
  rintro e w1 ⟨rfl, hb1⟩
  have HB1 := hid (HB.out.trans (hb1.mono HB.out.size))
  clear hb1
  go_wp2_with fail
  go_ret
  exact ⟨rfl, HB1.out⟩
end Go.Proofs.Ytokeialkeadanaa

namespace Go.Proofs.Ytokeialkeadanaa
open Go.RowKit Go.IntWalk

end Go.Proofs.Ytokeialkeadanaa

namespace Go.Proofs.Ytokeialkeadanaa
open Go.RowKit Go.IntWalk

/-- Four variables as they were laid. -/
def Fr5 (w W : World) (p0 p1 rb mb : Nat) (A B R M : Obj) : Prop := Below w.heap.size w W ∧ W.heap[p0]? = some A ∧ W.heap[p1]? = some B ∧ W.heap[rb]? = some R ∧ W.heap[mb]? = some M
theorem Fr5.drew {w W : World} {p0 p1 rb mb : Nat} {A B R M : Obj} (h : Fr5 w W p0 p1 rb mb A B R M) : Fr5 w W.drew p0 p1 rb mb A B R M := ⟨h.1.drew, h.2⟩
theorem Fr5.call {w W W' : World} {p0 p1 rb mb : Nat} {A B R M : Obj} (h : Fr5 w W p0 p1 rb mb A B R M) (hb : Below W.heap.size W W') : Fr5 w W' p0 p1 rb mb A B R M := ⟨h.1.trans (hb.mono h.1.size), blkM h.2.1 hb, blkM h.2.2.1 hb, blkM h.2.2.2.1 hb, blkM h.2.2.2.2 hb⟩
theorem Fr5.set {w W : World} {p0 p1 rb mb g k : Nat} {A B R M : Obj} (h : Fr5 w W p0 p1 rb mb A B R M) (h0 : p0 ≠ g) (h1 : p1 ≠ g) (h2 : rb ≠ g) (h3 : mb ≠ g) (hg : w.heap.size ≤ g) (x : Value) : Fr5 w (W.setCell ⟨g, k, none⟩ x) p0 p1 rb mb A B R M := ⟨h.1.setCell (p := ⟨g, k, none⟩) hg _, (set_keepM h0 x).trans h.2.1, (set_keepM h1 x).trans h.2.2.1, (set_keepM h2 x).trans h.2.2.2.1, (set_keepM h3 x).trans h.2.2.2.2⟩
end Go.Proofs.Ytokeialkeadanaa

namespace Go.Proofs.Ytokeialkeadanaa
open Go.RowKit Go.IntWalk

end Go.Proofs.Ytokeialkeadanaa

namespace Go.Proofs.Ytokeialkeadanaa
open Go.RowKit Go.IntWalk

theorem row_fnM {W : World} {g N : Nat} {o : Nat → Nat} (h : W.rowIs g 57 N (fun k => .float .f64 (o k))) (hlt : ∀ k, k < N → o k < 18446744073709551616) (hmax : N ≤ 9223372036854775807) : FnM W (some ⟨g, 0, none⟩) N N o :=
  Or.inr ⟨g, 0, rfl, h.lt, Nat.le_refl _, hmax, fun k hk => ⟨by rw [Nat.zero_add]; exact h.cell hk, hlt k hk⟩⟩
end Go.Proofs.Ytokeialkeadanaa

namespace Go.Proofs.Ytokeialkeadanaa
open Go.RowKit Go.IntWalk

/-- A list that isn't there beside an error. -/
def NonL (E : Int) : Value := .tuple #[.slice none 0 0, .int .i64 E]
/-- What MulVec hands back where all goes together: the numbers, or none beside ErrOver. -/
def AnsL (N g : Nat) (o : Nat → Nat) : Value := .tuple #[if finF N o = true then .slice (some ⟨g, 0, none⟩) N N else .slice none 0 0, .int .i64 (if finF N o = true then 0 else 5)]
end Go.Proofs.Ytokeialkeadanaa

namespace Go.Proofs.Ytokeialkeadanaa
open Go.RowKit Go.IntWalk

end Go.Proofs.Ytokeialkeadanaa

namespace Go.Proofs.Ytokeialkeadanaa
open Go.RowKit Go.IntWalk

end Go.Proofs.Ytokeialkeadanaa

namespace Go.Proofs.Ytokeialkeadanaa
open Go.RowKit Go.IntWalk

theorem first_two2 (a b : Int) : firstL [a, b] = first2 a b := by
  unfold first2
  by_cases h : a = 0
  · rw [if_pos h]
    show (if a = 0 then firstL [b] else a) = b
    rw [if_pos h]
    show (if b = 0 then firstL [] else b) = b
    by_cases hb : b = 0
    · rw [if_pos hb, hb]; rfl
    · rw [if_neg hb]
  · rw [if_neg h]
    show (if a = 0 then firstL [b] else a) = a
    rw [if_neg h]
theorem first2_zero {a b : Int} (h : first2 a b = 0) : a = 0 ∧ b = 0 := by
  unfold first2 at h
  by_cases c : a = 0
  · rw [if_pos c] at h; exact ⟨c, h⟩
  · rw [if_neg c] at h; exact absurd h c
/-- The numbers of a product. -/
def prdV (xs ys : List Nat) (c c2 : Nat) (i j : Nat) : Nat := dotM (fun k => xs.getD (i * c + k) 0) (fun k => ys.getD (k * c2 + j) 0) c
/-- What Mul tells of any two. -/
def mulT (rx cx : Int) (n : Nat) (xs : List Nat) (ry cy : Int) (m : Nat) (ys : List Nat) : Int := if first2 (chkM rx cx n xs) (chkM ry cy m ys) = 0 then mulE rx.toNat cx.toNat ry.toNat cy.toNat (prdV xs ys cx.toNat cy.toNat) else first2 (chkM rx cx n xs) (chkM ry cy m ys)
theorem Mul_tot (rx cx : Int) (sa : Option Addr) (n ka : Nat) (xs : List Nat) (ry cy : Int) (sb : Option Addr) (m kb : Nat) (ys : List Nat) (w : World) (ha : FlM w sa n ka xs) (hb : FlM w sb m kb ys) (hn : n ≤ 17592186043904) (hm : m ≤ 17592186043904) :
    Calls Try.prog 25 #[.agg #[.int .i64 rx, .int .i64 cx, .slice sa n ka], .agg #[.int .i64 ry, .int .i64 cy, .slice sb m kb]] w fun e w' => (∃ X0 X1 X2 X3 X4, e = .returned (.tuple #[.agg #[.int .i64 X0, .int .i64 X1, .slice X2 X3 X4], .int .i64 (mulT rx cx n xs ry cy m ys)]) ∧ ResM (mulT rx cx n xs ry cy m ys) rx.toNat cy.toNat (prdV xs ys cx.toNat cy.toNat) w' X0 X1 X2 X3 X4) ∧ Below w.heap.size w w' := by
  unfold mulT
  by_cases h : first2 (chkM rx cx n xs) (chkM ry cy m ys) = 0
  · rw [if_pos h]
    obtain ⟨h1, h2⟩ := first2_zero h
    obtain ⟨r, c, rfl, rfl, hga⟩ := gd_of ha h1
    obtain ⟨r2, c2, rfl, rfl, hgb⟩ := gd_of hb h2
    exact Mul_res r c r2 c2 n m sa sb ka kb _ _ (prdV xs ys c c2) w hga hgb (fun _ i j _ _ => rfl)
  · rw [if_neg h]
    refine (Mul_bad rx cx ry cy n m sa sb ka kb xs ys w ha hb hn hm h).mono ?_
    rintro e w' ⟨rfl, hbb⟩
    obtain ⟨X0, X1, X2, X3, X4, e1, e2⟩ := res_non rx.toNat cy.toNat (prdV xs ys cx.toNat cy.toNat) _ w' h
    exact ⟨⟨X0, X1, X2, X3, X4, by rw [e1], e2⟩, hbb⟩
/-- told of two that were handed back with the same error and numbers. -/
theorem told_res (E : Int) (r c : Nat) (v : Nat → Nat → Nat) (X0 X1 Y0 Y1 : Int) (X2 Y2 : Option Addr) (X3 X4 Y3 Y4 : Nat) (w : World) (h : ResM E r c v w X0 X1 X2 X3 X4) (h2 : E = 0 → ResM E r c v w Y0 Y1 Y2 Y3 Y4) :
    Calls Try.prog 12 #[.agg #[.int .i64 X0, .int .i64 X1, .slice X2 X3 X4], .int .i64 E, .agg #[.int .i64 Y0, .int .i64 Y1, .slice Y2 Y3 Y4], .int .i64 E] w fun e w' => e = .returned (.bool true) ∧ Below w.heap.size w w' := by
  rcases h with ⟨rfl, rfl, rfl, rfl, rfl, g, o, rfl, hf, hv, _⟩ | ⟨h0, rfl, rfl, rfl, rfl, rfl⟩
  · rcases h2 rfl with ⟨_, rfl, rfl, rfl, rfl, g', o', rfl, hf', hv', _⟩ | ⟨h0, _⟩
    · refine told_yes8 r c _ _ (r * c) _ _ o o' w hf hf' (fun k hk => ?_)
      obtain ⟨q1, q2, q3⟩ := split_k hk
      rw [← q3, hv _ _ q1 q2, hv' _ _ q1 q2]
    · exact absurd rfl h0
  · exact told_no E h0 _ _ _ _ _ w
end Go.Proofs.Ytokeialkeadanaa
