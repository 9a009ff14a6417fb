
/- The document's Over, Mul and MulVec. -/
import Derived.Test.YthakhmnlpmfdgaaP28
import Derived.Test.YthakhmnlpmfdgaaP22
import Derived.Test.YthakhmnlpmfdgaaP25
import Derived.Deep.RegionHeld3
namespace Go.Proofs.Ythakhmnlpmfdgaa
open Go.RowKit Go.IntWalk

end Go.Proofs.Ythakhmnlpmfdgaa

namespace Go.Proofs.Ythakhmnlpmfdgaa
open Go.RowKit Go.IntWalk

end Go.Proofs.Ythakhmnlpmfdgaa

namespace Go.Proofs.Ythakhmnlpmfdgaa
open Go.RowKit Go.IntWalk

theorem first_two2 (a b : Int) : firstL [a, b] = first2 a b := by
  unfold first2
  by_cases h : a = 0
  · rw [if_pos h]
    show (if a = 0 then firstL [b] else a) = b
    rw [if_pos h]
    show (if b = 0 then firstL [] else b) = b
    by_cases hb : b = 0
    · rw [if_pos hb, hb]; rfl
    · rw [if_neg hb]
  · rw [if_neg h]
    show (if a = 0 then firstL [b] else a) = a
    rw [if_neg h]
theorem first2_zero {a b : Int} (h : first2 a b = 0) : a = 0 ∧ b = 0 := by
  unfold first2 at h
  by_cases c : a = 0
  · rw [if_pos c] at h; exact ⟨c, h⟩
  · rw [if_neg c] at h; exact absurd h c
/-- The numbers of a product. -/
def prdV (xs ys : List Nat) (c c2 : Nat) (i j : Nat) : Nat := dotM (fun k => xs.getD (i * c + k) 0) (fun k => ys.getD (k * c2 + j) 0) c
/-- What Mul tells of any two. -/
def mulT (rx cx : Int) (n : Nat) (xs : List Nat) (ry cy : Int) (m : Nat) (ys : List Nat) : Int := if first2 (chkM rx cx n xs) (chkM ry cy m ys) = 0 then mulE rx.toNat cx.toNat ry.toNat cy.toNat (prdV xs ys cx.toNat cy.toNat) else first2 (chkM rx cx n xs) (chkM ry cy m ys)
end Go.Proofs.Ythakhmnlpmfdgaa

namespace Go.Proofs.Ythakhmnlpmfdgaa
open Go.RowKit Go.IntWalk

theorem dotM_canon {f f2 g : Nat → Nat} (n : Nat) (h : ∀ k, k < n → canonOf (f k) = canonOf (f2 k)) : dotM f g n = dotM f2 g n := by
  induction n with
  | zero => rfl
  | succ n ih => rw [dotM, dotM, ih (fun k hk => h k (by omega)), h n (by omega)]
/-- The numbers of f p f', from the diagonal down. -/
def sndL (xs ys : List Nat) (c : Nat) (i j : Nat) : Nat := dotM (fun k => prdV xs ys c c i k) (fun k => xs.getD (j * c + k) 0) c
def sndV (xs ys : List Nat) (c : Nat) (i j : Nat) : Nat := if j ≤ i then sndL xs ys c i j else sndL xs ys c j i
def sndE (r c r2 c2 : Nat) (v : Nat → Nat → Nat) : Int := if ¬ (r2 = c2 ∧ c = r2) then 3 else if finV r r v = true then 0 else 5
/-- What Sandwich tells of any two. -/
def sndT (rx cx : Int) (n : Nat) (xs : List Nat) (ry cy : Int) (m : Nat) (ys : List Nat) : Int := if first2 (chkM rx cx n xs) (chkM ry cy m ys) = 0 then sndE rx.toNat cx.toNat ry.toNat cy.toNat (sndV xs ys cx.toNat) else first2 (chkM rx cx n xs) (chkM ry cy m ys)
theorem snd_val {r c : Nat} {xs ys : List Nat} {o o2 : Nat → Nat} (hsym : ∀ i j, i < r → j < r → o (i * r + j) = o (j * r + i)) (h2 : ∀ i j, i < r → j < c → canonOf (o2 (i * c + j)) = dotM (fun k => xs.getD (i * c + k) 0) (fun k => ys.getD (k * c + j) 0) c) (h3 : ∀ i j, i < r → j ≤ i → canonOf (o (i * r + j)) = dotM (fun k => o2 (i * c + k)) (fun k => xs.getD (j * c + k) 0) c) (i j : Nat) (hi : i < r) (hj : j < r) : canonOf (o (i * r + j)) = sndV xs ys c i j := by
  have low : ∀ a b, a < r → b ≤ a → canonOf (o (a * r + b)) = sndL xs ys c a b := fun a b ha hb => by
    rw [h3 a b ha hb]
    unfold sndL
    refine dotM_canon c (fun k hk => ?_)
    unfold prdV
    rw [← h2 a k ha hk, canon_twice]
  unfold sndV
  by_cases h : j ≤ i
  · rw [if_pos h]; exact low i j hi h
  · rw [if_neg h, hsym i j hi hj]; exact low j i hj (by omega)
theorem snd_res (r c : Nat) (xs ys : List Nat) (g : Nat) (o o2 : Nat → Nat) (w' : World) (hf : FnM w' (some ⟨g, 0, none⟩) (r * r) (r * r) o) (hsym : ∀ i j, i < r → j < r → o (i * r + j) = o (j * r + i)) (h2 : ∀ i j, i < r → j < c → canonOf (o2 (i * c + j)) = dotM (fun k => xs.getD (i * c + k) 0) (fun k => ys.getD (k * c + j) 0) c) (h3 : ∀ i j, i < r → j ≤ i → canonOf (o (i * r + j)) = dotM (fun k => o2 (i * c + k)) (fun k => xs.getD (j * c + k) 0) c) :
    ∃ X0 X1 X2 X3 X4, AnsM r r (r * r) g o = .tuple #[.agg #[.int .i64 X0, .int .i64 X1, .slice X2 X3 X4], .int .i64 (sndE r c c c (sndV xs ys c))] ∧ ResM (sndE r c c c (sndV xs ys c)) r r (sndV xs ys c) w' X0 X1 X2 X3 X4 :=
  res_of r r g o (sndV xs ys c) (sndE r c c c (sndV xs ys c)) w' (by unfold sndE; rw [if_neg (fun h => h ⟨rfl, rfl⟩)]) hf (snd_val hsym h2 h3)
end Go.Proofs.Ythakhmnlpmfdgaa

namespace Go.Proofs.Ythakhmnlpmfdgaa
open Go.RowKit Go.IntWalk

/-- The numbers of a matrix times a list. -/
def vecV (xs us : List Nat) (c : Nat) (i : Nat) : Nat := dotM (fun k => xs.getD (i * c + k) 0) (fun k => us.getD k 0) c
def shpE (cx : Int) (q : Nat) : Int := if cx = q then 0 else 3
/-- What is wrong with a matrix, a list, and the two together. -/
def vecE (rx cx : Int) (n : Nat) (xs : List Nat) (q : Nat) (us : List Nat) : Int := first2 (first2 (chkM rx cx n xs) (lstE q us)) (shpE cx q)
/-- What MulVec tells. -/
def vecT (rx cx : Int) (n : Nat) (xs : List Nat) (q : Nat) (us : List Nat) : Int := if vecE rx cx n xs q us = 0 then (if finF rx.toNat (vecV xs us cx.toNat) = true then 0 else 5) else vecE rx cx n xs q us
/-- A list that a call hands back, or none beside an error. -/
def LsC (E : Int) (r : Nat) (v : Nat → Nat) (W : World) (s : Option Addr) (k l : Nat) : Prop := (E = 0 ∧ k = r ∧ ∃ o : Nat → Nat, FnM W s k l o ∧ ∀ i, i < r → canonOf (o i) = v i) ∨ (E ≠ 0 ∧ s = none ∧ k = 0 ∧ l = 0)
theorem LsC.below {E : Int} {r : Nat} {v : Nat → Nat} {W W' : World} {s : Option Addr} {k l : Nat} (h : LsC E r v W s k l) (hb : Below W.heap.size W W') : LsC E r v W' s k l := by
  rcases h with ⟨h1, h2, o, h3, h4⟩ | h
  · exact Or.inl ⟨h1, h2, o, h3.below hb, h4⟩
  · exact Or.inr h
theorem finF_canon {r : Nat} {o v : Nat → Nat} (h : ∀ i, i < r → canonOf (o i) = v i) : finF r o = finF r v := by
  rw [Bool.eq_iff_iff, finF_iff, finF_iff]
  have key : ∀ i, i < r → expOf (o i) = expOf (v i) := fun i hi => by
    unfold expOf
    rw [← h i hi, canon_twice]
  constructor
  · intro q i hi
    rw [← key i hi]
    exact q i hi
  · intro q i hi
    rw [key i hi]
    exact q i hi
theorem lst_zero {q : Nat} {us : List Nat} (h : lstE q us = 0) : q ≤ 12 ∧ finM us = true := by
  unfold lstE at h
  by_cases h1 : 12 < q
  · rw [if_pos h1] at h; cases h
  rw [if_neg h1] at h
  by_cases h2 : finM us = false
  · rw [if_pos h2] at h; cases h
  exact ⟨by omega, by revert h2; cases finM us <;> simp⟩
theorem fin_get {us : List Nat} {q : Nat} (hl : us.length = q) (h : finM us = true) : finF q (fun j => us.getD j 0) = true := by
  unfold finF
  rw [show (List.range q).map (fun j => us.getD j 0) = us from by
    apply List.ext_getElem?
    intro i
    by_cases hi : i < q
    · rw [List.getElem?_map, List.getElem?_range hi, List.getElem?_eq_getElem (by omega)]
      simp [List.getD_eq_getElem?_getD, List.getElem?_eq_getElem (show i < us.length by omega)]
    · rw [List.getElem?_eq_none (by simp; omega), List.getElem?_eq_none (by omega)]]
  exact h
theorem MulVec_tot (rx cx : Int) (sa : Option Addr) (n ka : Nat) (xs : List Nat) (su : Option Addr) (q ku : Nat) (us : List Nat) (w : World) (ha : FlM w sa n ka xs) (hb : FlM w su q ku us) (hn : n ≤ 17592186043904) (hq : q ≤ 17592186043904) :
    Calls Try.prog 53 #[.agg #[.int .i64 rx, .int .i64 cx, .slice sa n ka], .slice su q ku] w fun e w' => (∃ s k l, e = .returned (.tuple #[.slice s k l, .int .i64 (vecT rx cx n xs q us)]) ∧ LsC (vecT rx cx n xs q us) rx.toNat (vecV xs us cx.toNat) w' s k l) ∧ Below w.heap.size w w' := by
  unfold vecT
  by_cases h0 : first2 (chkM rx cx n xs) (lstE q us) = 0
  · obtain ⟨h1, h2⟩ := first2_zero h0
    obtain ⟨r, c, rfl, rfl, hga⟩ := gd_of ha h1
    obtain ⟨l1, l2⟩ := lst_zero h2
    have hE : vecE (r : Int) c n xs q us = shpE c q := by unfold vecE; rw [h0]; rfl
    rw [hE]
    unfold shpE
    by_cases hs : (c : Int) = q
    · have hs' : c = q := by omega
      rw [if_pos hs, if_pos rfl]
      refine (MulVec_ok r c n q sa su ka ku _ _ w hga hb.fn (fin_get hb.1 l2) hs').mono ?_
      rintro e w' ⟨⟨g, o, rfl, hf, hv⟩, hbb⟩
      have hfe : finF r o = finF r (vecV xs us c) := finF_canon hv
      show (∃ s k l, _ ∧ LsC (if finF r (vecV xs us c) = true then 0 else 5) r (vecV xs us c) w' s k l) ∧ _
      unfold AnsL
      rw [hfe]
      by_cases hfin : finF r (vecV xs us c) = true
      · refine ⟨⟨some ⟨g, 0, none⟩, r, r, ?_, Or.inl ⟨by rw [if_pos hfin], rfl, o, hf, hv⟩⟩, hbb⟩
        show _ = Ending.returned (.tuple #[_, .int .i64 (if finF r (vecV xs us c) = true then 0 else 5)])
        rw [if_pos hfin, if_pos hfin]
      · refine ⟨⟨none, 0, 0, ?_, Or.inr ⟨by rw [if_neg hfin]; decide, rfl, rfl, rfl⟩⟩, hbb⟩
        show _ = Ending.returned (.tuple #[_, .int .i64 (if finF r (vecV xs us c) = true then 0 else 5)])
        rw [if_neg hfin, if_neg hfin]
    · rw [if_neg hs, if_neg (by decide)]
      refine (MulVec_shape r c n q sa su ka ku xs us w ha hb hn hq h1 h2 hs).mono ?_
      rintro e w' ⟨rfl, hbb⟩
      exact ⟨⟨none, 0, 0, rfl, Or.inr ⟨by decide, rfl, rfl, rfl⟩⟩, hbb⟩
  · have hE : vecE rx cx n xs q us = first2 (chkM rx cx n xs) (lstE q us) := by
      unfold vecE
      generalize first2 (chkM rx cx n xs) (lstE q us) = F at h0
      unfold first2
      rw [if_neg h0]
    rw [hE, if_neg h0]
    refine (MulVec_bad rx cx n q sa su ka ku xs us w ha hb hn hq h0).mono ?_
    rintro e w' ⟨rfl, hbb⟩
    exact ⟨⟨none, 0, 0, rfl, Or.inr ⟨h0, rfl, rfl, rfl⟩⟩, hbb⟩
end Go.Proofs.Ythakhmnlpmfdgaa

namespace Go.Proofs.Ythakhmnlpmfdgaa
open Go.RowKit Go.IntWalk

/-- A fact that calls and stores into variables leave as it is. -/
def Kept (g : World → Prop) : Prop := (∀ W W' : World, Below W.heap.size W W' → g W → g W') ∧ ∀ (W : World) (b : Nat) (r c r0 c0 : Int) (s s0 : Option Addr) (n k n0 k0 : Nat), W.heap[b]? = some (MBox r0 c0 s0 n0 k0) → g W → g (StoM W b r c s n k)
theorem kept_fl (ta : Option Addr) (n ca : Nat) (xs : List Nat) : Kept (fun W => FlM W ta n ca xs) := ⟨fun _ _ hb h => h.below hb, fun _ _ _ _ _ _ _ _ _ _ _ _ hb h => sto_fl h hb⟩
theorem kept_fn (ta : Option Addr) (n ca : Nat) (f : Nat → Nat) : Kept (fun W => FnM W ta n ca f) := ⟨fun _ _ hb h => h.below hb, fun _ _ _ _ _ _ _ _ _ _ _ _ hb h => StoM.fn h hb⟩
theorem kept_res (E : Int) (r c : Nat) (v : Nat → Nat → Nat) (X0 X1 : Int) (X2 : Option Addr) (X3 X4 : Nat) : Kept (fun W => ResM E r c v W X0 X1 X2 X3 X4) := ⟨fun _ _ hb h => h.below hb, fun _ _ _ _ _ _ _ _ _ _ _ _ hb h => h.sto hb⟩
theorem kept_resi (E : Int) (r c : Nat) (v : Nat → Nat → Nat) (X0 X1 : Int) (X2 : Option Addr) (X3 X4 : Nat) : Kept (fun W => E = 0 → ResM E r c v W X0 X1 X2 X3 X4) := ⟨fun _ _ hb h e => (h e).below hb, fun _ _ _ _ _ _ _ _ _ _ _ _ hb h e => (h e).sto hb⟩
theorem LsC.sto {E : Int} {r : Nat} {v : Nat → Nat} {W : World} {s : Option Addr} {k l : Nat} (h : LsC E r v W s k l) {b : Nat} {r1 c1 r0 c0 : Int} {s1 s0 : Option Addr} {n1 k1 n0 k0 : Nat} (hb : W.heap[b]? = some (MBox r0 c0 s0 n0 k0)) : LsC E r v (StoM W b r1 c1 s1 n1 k1) s k l := by
  rcases h with ⟨h1, h2, o, h3, h4⟩ | h
  · exact Or.inl ⟨h1, h2, o, StoM.fn h3 hb, h4⟩
  · exact Or.inr h
theorem kept_lsc (E : Int) (r : Nat) (v : Nat → Nat) (s : Option Addr) (k l : Nat) : Kept (fun W => LsC E r v W s k l) := ⟨fun _ _ hb h => h.below hb, fun _ _ _ _ _ _ _ _ _ _ _ _ hb h => h.sto hb⟩
structure FrQ (w W : World) (L : List (Nat × Obj)) (G : List (World → Prop)) : Prop where
  bel : Below w.heap.size w W
  box : ∀ e ∈ L, W.heap[e.1]? = some e.2 ∧ w.heap.size ≤ e.1
  nod : (L.map (fun e => e.1)).Nodup
  fct : ∀ g ∈ G, Kept g ∧ g W
theorem FrQ.at {w W : World} {L : List (Nat × Obj)} {G : List (World → Prop)} (h : FrQ w W L G) (i : Nat) {b : Nat} {o : Obj} (hi : L[i]? = some (b, o)) : W.heap[b]? = some o := (h.box _ (List.mem_of_getElem? hi)).1
theorem FrQ.get {w W : World} {L : List (Nat × Obj)} {G : List (World → Prop)} (h : FrQ w W L G) (i : Nat) {g : World → Prop} (hi : G[i]? = some g) : g W := (h.fct _ (List.mem_of_getElem? hi)).2
theorem FrQ.call {w W W' : World} {L : List (Nat × Obj)} {G : List (World → Prop)} (h : FrQ w W L G) (hb : Below W.heap.size W W') : FrQ w W' L G :=
  ⟨h.bel.trans (hb.mono h.bel.size), fun e he => ⟨blkM (h.box e he).1 hb, (h.box e he).2⟩, h.nod, fun g hg => ⟨(h.fct g hg).1, (h.fct g hg).1.1 _ _ hb (h.fct g hg).2⟩⟩
theorem FrQ.drew {w W : World} {L : List (Nat × Obj)} {G : List (World → Prop)} (h : FrQ w W L G) : FrQ w W.drew L G := h.call (Below.refl _ _).drew
theorem FrQ.alloc {w W : World} {L : List (Nat × Obj)} {G : List (World → Prop)} (h : FrQ w W L G) (o : Obj) : FrQ w (W.alloc o) ((W.heap.size, o) :: L) G := by
  have hb : Below W.heap.size W (W.alloc o) := (Below.refl _ _).alloc (Nat.le_refl _) _
  have h2 := h.call hb
  refine ⟨h2.bel, fun e he => ?_, ?_, h2.fct⟩
  · rcases List.mem_cons.1 he with rfl | he
    · exact ⟨nblkM _ _, h.bel.size⟩
    · exact h2.box e he
  · rw [List.map_cons, List.nodup_cons]
    refine ⟨fun hc => ?_, h.nod⟩
    obtain ⟨e, he, hee⟩ := List.mem_map.1 hc
    have := (Array.getElem?_eq_some_iff.1 (h.box e he).1).1
    omega
theorem FrQ.add {w W : World} {L : List (Nat × Obj)} {G : List (World → Prop)} {g : World → Prop} (h : FrQ w W L G) (k : Kept g) (hg : g W) : FrQ w W L (g :: G) :=
  ⟨h.bel, h.box, h.nod, fun x hx => by
    rcases List.mem_cons.1 hx with rfl | hx
    · exact ⟨k, hg⟩
    · exact h.fct x hx⟩
theorem FrQ.sub {w W : World} {L L' : List (Nat × Obj)} {G G' : List (World → Prop)} (h : FrQ w W L G) (hL : L'.Sublist L) (hG : G'.Sublist G) : FrQ w W L' G' :=
  ⟨h.bel, fun e he => h.box e (hL.subset he), List.Pairwise.sublist (hL.map _) h.nod, fun g hg => h.fct g (hG.subset hg)⟩
theorem FrQ.swap {w W : World} {e f : Nat × Obj} {L : List (Nat × Obj)} {G : List (World → Prop)} (h : FrQ w W (e :: f :: L) G) : FrQ w W (f :: e :: L) G :=
  ⟨h.bel, fun x hx => h.box x (by
    rcases List.mem_cons.1 hx with rfl | hx
    · exact List.mem_cons_of_mem _ List.mem_cons_self
    · rcases List.mem_cons.1 hx with rfl | hx
      · exact List.mem_cons_self
      · exact List.mem_cons_of_mem _ (List.mem_cons_of_mem _ hx)), by
    have := h.nod
    simp only [List.map_cons, List.nodup_cons, List.mem_cons, not_or] at this ⊢
    exact ⟨⟨fun hc => this.1.1 hc.symm, this.2.1⟩, this.1.2, this.2.2⟩, h.fct⟩
theorem FrQ.sto {w W : World} {L : List (Nat × Obj)} {G : List (World → Prop)} (h : FrQ w W L G) (i : Nat) {b : Nat} {r c r0 c0 : Int} {s s0 : Option Addr} {n k n0 k0 : Nat} (hi : L[i]? = some (b, MBox r0 c0 s0 n0 k0)) : FrQ w (StoM W b r c s n k) (L.set i (b, MBox r c s n k)) G := by
  have hb := h.box _ (List.mem_of_getElem? hi)
  have hlen : i < L.length := (List.getElem?_eq_some_iff.1 hi).1
  have hmap : (L.set i (b, MBox r c s n k)).map (fun e => e.1) = L.map (fun e => e.1) := by
    apply List.ext_getElem?
    intro j
    rw [List.getElem?_map, List.getElem?_map, List.getElem?_set]
    by_cases hij : i = j
    · subst hij
      rw [if_pos rfl, if_pos hlen, hi]
      rfl
    · simp [hij]
  refine ⟨StoM.below h.bel hb.2, fun e he => ?_, by rw [hmap]; exact h.nod, fun g hg => ⟨(h.fct g hg).1, (h.fct g hg).1.2 _ _ _ _ _ _ _ _ _ _ _ _ hb.1 (h.fct g hg).2⟩⟩
  obtain ⟨j, hj⟩ := List.mem_iff_getElem?.1 he
  rw [List.getElem?_set] at hj
  by_cases hij : i = j
  · rw [if_pos hij, if_pos hlen] at hj
    cases hj
    exact ⟨mset hb.1, hb.2⟩
  · rw [if_neg hij] at hj
    have he' := List.mem_of_getElem? hj
    have hne : e.1 ≠ b := fun hc => hij ((List.getElem?_inj (l := L.map (fun e => e.1)) (by simpa using hlen) h.nod).1 (by simp [hi, hj, hc]))
    exact ⟨(StoM.keep hne).trans (h.box e he').1, (h.box e he').2⟩
theorem FrQ.start (w : World) : FrQ w w [] [] := ⟨Below.refl _ _, fun _ he => absurd he List.not_mem_nil, List.nodup_nil, fun _ hg => absurd hg List.not_mem_nil⟩
end Go.Proofs.Ythakhmnlpmfdgaa

namespace Go.Proofs.Ythakhmnlpmfdgaa
open Go.RowKit Go.IntWalk

/-- The numbers of a sum, of a difference. -/
def addV (op : BinOp) (xs ys : List Nat) (c : Nat) (i j : Nat) : Nat := caf op (canonOf (xs.getD (i * c + j) 0)) (canonOf (ys.getD (i * c + j) 0))
/-- What Add and Sub tell of any two. -/
def addT (op : BinOp) (rx cx : Int) (n : Nat) (xs : List Nat) (ry cy : Int) (m : Nat) (ys : List Nat) : Int := if first2 (chkM rx cx n xs) (chkM ry cy m ys) = 0 then addE rx.toNat cx.toNat ry.toNat cy.toNat (addV op xs ys cx.toNat) else first2 (chkM rx cx n xs) (chkM ry cy m ys)
end Go.Proofs.Ythakhmnlpmfdgaa

namespace Go.Proofs.Ythakhmnlpmfdgaa
open Go.RowKit Go.IntWalk

theorem fin_some {op : BinOp} (hop : op = .add ∨ op = .sub ∨ op = .mul) (w : World) (x y : Nat) (hx : x < 18446744073709551616) (hy : y < 18446744073709551616) (fx : x % 9223372036854775808 < 9218868437227405312) (fy : y % 9223372036854775808 < 9218868437227405312) : ∃ z, floatBits op .f64 x y = some z ∧ z < 18446744073709551616 ∧ canonOf z = caf op (canonOf x) (canonOf y) := by
  have h : ∃ z, floatBits op .f64 x y = some z := by
    obtain ⟨m, p, ex, _⟩ := read_fin x hx fx
    obtain ⟨n, q, ey, _⟩ := read_fin y hy fy
    rcases hop with rfl | rfl | rfl
    · show ∃ z, FloatKind.f64.format.add x y = some z
      unfold Ieee.Format.add
      rw [ex, ey]
      exact ⟨_, rfl⟩
    · show ∃ z, FloatKind.f64.format.sub x y = some z
      unfold Ieee.Format.sub
      rw [ex, ey]
      exact ⟨_, rfl⟩
    · show ∃ z, FloatKind.f64.format.mul x y = some z
      unfold Ieee.Format.mul
      rw [ex, ey]
      exact ⟨_, rfl⟩
  obtain ⟨z, hz⟩ := h
  have hc := canon_ar hop x y w hx hy
  have hl := arF_lt hop x y w
  have e : arF op x y w = z := by unfold arF; rw [hz]; rfl
  rw [e] at hc hl
  exact ⟨z, hz, hl, hc⟩
theorem rowF {W : World} {g N : Nat} {o : Nat → Nat} (h : W.rowIs g 28 N (fun k => .float .f64 (o k))) (ho : ∀ k, k < N → o k < 18446744073709551616) (hN : N ≤ 144) : FnM W (some ⟨g, 0, none⟩) N N o :=
  Or.inr ⟨g, 0, rfl, h.lt, Nat.le_refl _, by omega, fun j hj => by rw [Nat.zero_add]; exact ⟨h.cell hj, ho j hj⟩⟩
end Go.Proofs.Ythakhmnlpmfdgaa

namespace Go.Proofs.Ythakhmnlpmfdgaa
open Go.RowKit Go.IntWalk

theorem frq_name {w W : World} {L : List (Nat × Obj)} {G : List (World → Prop)} (h : FrQ w W L G) : ∃ X, Hid (W = X) ∧ Hid (FrQ w X L G) := ⟨W, rfl, h⟩
theorem frq_head {w W : World} {b : Nat} {O : Obj} {L : List (Nat × Obj)} {G : List (World → Prop)} (h : FrQ w W ((b, O) :: L) G) : ∃ x, Hid (b = x) ∧ Hid (FrQ w W ((x, O) :: L) G) := ⟨b, rfl, h⟩
/-- What a region's reads hang on: three variables. -/
def Fr3b (w W : World) (p0 p1 p2 : Nat) (A B C : Obj) : Prop := Below w.heap.size w W ∧ W.heap[p0]? = some A ∧ W.heap[p1]? = some B ∧ W.heap[p2]? = some C
theorem frq3 {w W : World} {L : List (Nat × Obj)} {G : List (World → Prop)} {p0 p1 p2 : Nat} {A B C : Obj} (h : FrQ w W L G) (h0 : (p0, A) ∈ L) (h1 : (p1, B) ∈ L) (h2 : (p2, C) ∈ L) : Hid (Fr3b w W p0 p1 p2 A B C) := ⟨h.bel, (h.box _ h0).1, (h.box _ h1).1, (h.box _ h2).1⟩
theorem frq_perm {w W : World} {L L' : List (Nat × Obj)} {G G' : List (World → Prop)} (h : FrQ w W L G) (hs : ∀ e ∈ L', e ∈ L) (hn : (L'.map (fun e => e.1)).Nodup) (hg : ∀ g ∈ G', g ∈ G) : FrQ w W L' G' :=
  ⟨h.bel, fun e he => h.box e (hs e he), hn, fun g hgm => h.fct g (hg g hgm)⟩
/-- A drawn region on its way: what is still wanted, told by a letter, so that ways that have done the same meet. -/
theorem dag_open {P : Program} {md : Region.Mode} {ops : Array Oper} {Q : Exit → Act → World → Prop} {S : World → Prop} {f : Nat} {l : Array Bool} {a : Act} {w : World} (h : ∀ (G : Nat → Array Bool → Act → World → Prop) (A0 : Act), Hid (∀ f l a w, G f l a w = wpAnyH P md ops Q S f l a w) → Hid (A0 = a) → G f l A0 w) : wpAnyH P md ops Q S f l a w := h _ a (fun _ _ _ _ => rfl) rfl
end Go.Proofs.Ythakhmnlpmfdgaa
