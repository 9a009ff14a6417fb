
/- An order and its turning: plain. -/
import Derived.Test.YtehgiegmdpaomaaP40
import Derived.Test.YtehgiegmdpaomaaP39
import Derived.Deep.RegionHeld3
namespace Go.Proofs.Ytehgiegmdpaomaa
open Go.RowKit Go.IntWalk

theorem surj_of_inj : ∀ {r : Nat} {p : Nat → Nat}, (∀ i, i < r → p i < r) → (∀ i k, i < r → k < r → p i = p k → i = k) → ∀ j, j < r → ∃ i, i < r ∧ p i = j
  | 0, _, _, _, _, hj => absurd hj (Nat.not_lt_zero _)
  | r + 1, p, hl, hi, j, hj => by
    have hlt : ∀ i, i < r → (if p i = r then p r else p i) < r := fun i hir => by
      by_cases h : p i = r
      · rw [if_pos h]
        have h1 := hl r (by omega)
        have h2 : p r ≠ r := fun h3 => by
          have := hi i r (by omega) (by omega) (h.trans h3.symm)
          omega
        omega
      · rw [if_neg h]
        have := hl i (by omega)
        omega
    have hin : ∀ i k, i < r → k < r → (if p i = r then p r else p i) = (if p k = r then p r else p k) → i = k := fun i k hir hkr he => by
      by_cases h1 : p i = r
      · by_cases h2 : p k = r
        · exact hi i k (by omega) (by omega) (h1.trans h2.symm)
        · rw [if_pos h1, if_neg h2] at he
          have := hi r k (by omega) (by omega) he
          omega
      · by_cases h2 : p k = r
        · rw [if_neg h1, if_pos h2] at he
          have := hi i r (by omega) (by omega) he
          omega
        · rw [if_neg h1, if_neg h2] at he
          exact hi i k (by omega) (by omega) he
    have ih := surj_of_inj (r := r) (p := fun i => if p i = r then p r else p i) hlt hin
    by_cases hjm : p r = j
    · exact ⟨r, by omega, hjm⟩
    by_cases hjr : j = r
    · have hm : p r < r := by have := hl r (by omega); omega
      obtain ⟨i, h1, h2⟩ := ih (p r) hm
      by_cases h : p i = r
      · exact ⟨i, by omega, h.trans hjr.symm⟩
      · rw [if_neg h] at h2
        have := hi i r (by omega) (by omega) h2
        omega
    · obtain ⟨i, h1, h2⟩ := ih j (by omega)
      by_cases h : p i = r
      · rw [if_pos h] at h2
        exact absurd h2 hjm
      · rw [if_neg h] at h2
        exact ⟨i, by omega, h2⟩
theorem ord_new {n : Nat} {ps : List Int} : ∀ {m k : Nat}, ordB n ps m = true → k < m → seenB ps k (ps.getD k 0) = false
  | 0, _, _, h => absurd h (Nat.not_lt_zero _)
  | m + 1, k, h, hk => by
    have h' : (ordB n ps m && (decide (0 ≤ ps.getD m 0) && decide (ps.getD m 0 < (n : Int)) && !(seenB ps m (ps.getD m 0)))) = true := h
    rw [Bool.and_eq_true, Bool.and_eq_true] at h'
    by_cases c : k = m
    · subst c; simpa using h'.2.2
    · exact ord_new h'.1 (by omega)
theorem ord_inj {n : Nat} {ps : List Int} {m k l : Nat} (h : ordB n ps m = true) (hk : k < m) (hl : l < m) (e : ps.getD k 0 = ps.getD l 0) : k = l := by
  apply Classical.byContradiction
  intro hne
  rcases Nat.lt_or_gt_of_ne hne with c | c
  · have := seen_yes c e
    rw [ord_new h hl] at this
    cases this
  · have := seen_yes c e.symm
    rw [ord_new h hk] at this
    cases this
theorem seen_no {ps : List Int} {x : Int} : ∀ {m : Nat}, (∀ k, k < m → ps.getD k 0 ≠ x) → seenB ps m x = false
  | 0, _ => rfl
  | m + 1, h => by
    show (seenB ps m x || decide (ps.getD m 0 = x)) = false
    rw [seen_no (fun k hk => h k (by omega)), decide_eq_false (h m (by omega))]; rfl
theorem ord_of {n : Nat} {ps : List Int} : ∀ {m : Nat}, (∀ k, k < m → 0 ≤ ps.getD k 0 ∧ ps.getD k 0 < (n : Int)) → (∀ k l, k < l → l < m → ps.getD k 0 ≠ ps.getD l 0) → ordB n ps m = true
  | 0, _, _ => rfl
  | m + 1, h1, h2 => ord_next (ord_of (fun k hk => h1 k (by omega)) (fun k l hk hl => h2 k l hk (by omega))) (h1 m (by omega)).1 (h1 m (by omega)).2 (seen_no (fun k hk => h2 k m hk (by omega)))
/-- Where a place stands among the first ones of an order; 0 if nowhere. -/
def bkF (ps : List Int) : Nat → Nat → Int
  | 0, _ => 0
  | i + 1, j => if ps.getD i 0 = (j : Int) then (i : Int) else bkF ps i j
theorem bk_at {ps : List Int} {i : Nat} : ∀ {m j : Nat}, i < m → ps.getD i 0 = (j : Int) → (∀ k, i < k → k < m → ps.getD k 0 ≠ (j : Int)) → bkF ps m j = (i : Int)
  | 0, _, h, _, _ => absurd h (Nat.not_lt_zero _)
  | m + 1, j, h, e, hn => by
    show (if ps.getD m 0 = (j : Int) then (m : Int) else bkF ps m j) = (i : Int)
    by_cases c : i = m
    · subst c; rw [if_pos e]
    · rw [if_neg (hn m (by omega) (by omega))]
      exact bk_at (by omega) e (fun k h1 h2 => hn k h1 (by omega))
theorem bk_perm {r : Nat} {ps : List Int} (h : ordB r ps r = true) (j : Nat) (hj : j < r) : ∃ i, i < r ∧ ps.getD i 0 = (j : Int) ∧ bkF ps r j = (i : Int) := by
  obtain ⟨i, hi, e⟩ := surj_of_inj (r := r) (p := fun k => (ps.getD k 0).toNat) (fun k hk => by have := ord_at h hk; omega) (fun k l hk hl he => by
    have h1 := ord_at h hk
    have h2 := ord_at h hl
    exact ord_inj h hk hl (by omega)) j hj
  have h1 := ord_at h hi
  have e2 : ps.getD i 0 = (j : Int) := by omega
  refine ⟨i, hi, e2, bk_at hi e2 (fun k h3 h4 h5 => ?_)⟩
  have := ord_inj h h4 hi (h5.trans e2.symm)
  omega
def bkL (ps : List Int) (r : Nat) : List Int := (List.range r).map (bkF ps r)
theorem bkL_len (ps : List Int) (r : Nat) : (bkL ps r).length = r := by unfold bkL; rw [List.length_map, List.length_range]
theorem bkL_at {ps : List Int} {r j : Nat} (hj : j < r) : (bkL ps r).getD j 0 = bkF ps r j := by
  unfold bkL
  rw [List.getD_eq_getElem?_getD, List.getElem?_map, List.getElem?_range hj]
  rfl
theorem bk_ord {r : Nat} {ps : List Int} (h : ordB r ps r = true) : ordB r (bkL ps r) r = true := by
  refine ord_of (fun k hk => ?_) (fun k l hk hl he => ?_)
  · rw [bkL_at hk]
    obtain ⟨i, hi, _, e⟩ := bk_perm h k hk
    rw [e]; omega
  · rw [bkL_at (by omega), bkL_at hl] at he
    obtain ⟨i, hi, e1, e2⟩ := bk_perm h k (by omega)
    obtain ⟨i', hi', e3, e4⟩ := bk_perm h l hl
    rw [e2, e4] at he
    have : i = i' := by omega
    subst this
    rw [e1] at e3
    omega
/-- The order behind its turning is none. -/
theorem bk_back {r : Nat} {ps : List Int} (h : ordB r ps r = true) (j : Nat) (hj : j < r) : (ps.getD ((bkL ps r).getD j 0).toNat 0).toNat = j ∧ ((bkL ps r).getD j 0).toNat < r := by
  obtain ⟨i, hi, e1, e2⟩ := bk_perm h j hj
  rw [bkL_at hj, e2, Int.toNat_natCast i, e1, Int.toNat_natCast j]
  exact ⟨rfl, hi⟩
theorem bk_range {ps : List Int} : ∀ {i j : Nat}, 0 ≤ bkF ps i j ∧ bkF ps i j ≤ (i : Int)
  | 0, _ => ⟨Int.le_refl _, Int.le_refl _⟩
  | i + 1, j => by
    show 0 ≤ (if ps.getD i 0 = (j : Int) then (i : Int) else bkF ps i j) ∧ (if ps.getD i 0 = (j : Int) then (i : Int) else bkF ps i j) ≤ ((i + 1 : Nat) : Int)
    have := bk_range (ps := ps) (i := i) (j := j)
    by_cases c : ps.getD i 0 = (j : Int)
    · rw [if_pos c]; omega
    · rw [if_neg c]; omega
/-- A count taken round and round, as Go takes it, lies within. -/
theorem round_k (k : Int) (c : Nat) : ∃ K : Nat, K ≤ c ∧ ((k.tmod ((c : Int) + 1) + (c : Int)) + 1).tmod ((c : Int) + 1) = (K : Int) ∧ -((c : Int) + 1) < k.tmod ((c : Int) + 1) ∧ k.tmod ((c : Int) + 1) < (c : Int) + 1 := by
  have h1 : -((c : Int) + 1) < k.tmod ((c : Int) + 1) ∧ k.tmod ((c : Int) + 1) < (c : Int) + 1 := by
    refine ⟨?_, Int.tmod_lt_of_pos k (by omega)⟩
    have := Int.tmod_lt_of_pos (-k) (show 0 < (c : Int) + 1 by omega)
    rw [Int.neg_tmod] at this
    omega
  have h2 : 0 ≤ (k.tmod ((c : Int) + 1) + (c : Int)) + 1 := by omega
  have h3 := Int.tmod_lt_of_pos ((k.tmod ((c : Int) + 1) + (c : Int)) + 1) (show 0 < (c : Int) + 1 by omega)
  have h4 := Int.tmod_nonneg ((c : Int) + 1) h2
  obtain ⟨K, hK⟩ := Int.eq_ofNat_of_zero_le h4
  exact ⟨K, by omega, hK, h1⟩
end Go.Proofs.Ytehgiegmdpaomaa

namespace Go.Proofs.Ytehgiegmdpaomaa
open Go.RowKit Go.IntWalk

theorem frq_name {w W : World} {L : List (Nat × Obj)} {G : List (World → Prop)} (h : FrQ w W L G) : ∃ X, Hid (W = X) ∧ Hid (FrQ w X L G) := ⟨W, rfl, h⟩
theorem frq_head {w W : World} {b : Nat} {O : Obj} {L : List (Nat × Obj)} {G : List (World → Prop)} (h : FrQ w W ((b, O) :: L) G) : ∃ x, Hid (b = x) ∧ Hid (FrQ w W ((x, O) :: L) G) := ⟨b, rfl, h⟩
/-- What a region's reads hang on: three variables. -/
def Fr3b (w W : World) (p0 p1 p2 : Nat) (A B C : Obj) : Prop := Below w.heap.size w W ∧ W.heap[p0]? = some A ∧ W.heap[p1]? = some B ∧ W.heap[p2]? = some C
theorem frq3 {w W : World} {L : List (Nat × Obj)} {G : List (World → Prop)} {p0 p1 p2 : Nat} {A B C : Obj} (h : FrQ w W L G) (h0 : (p0, A) ∈ L) (h1 : (p1, B) ∈ L) (h2 : (p2, C) ∈ L) : Hid (Fr3b w W p0 p1 p2 A B C) := ⟨h.bel, (h.box _ h0).1, (h.box _ h1).1, (h.box _ h2).1⟩
theorem frq_perm {w W : World} {L L' : List (Nat × Obj)} {G G' : List (World → Prop)} (h : FrQ w W L G) (hs : ∀ e ∈ L', e ∈ L) (hn : (L'.map (fun e => e.1)).Nodup) (hg : ∀ g ∈ G', g ∈ G) : FrQ w W L' G' :=
  ⟨h.bel, fun e he => h.box e (hs e he), hn, fun g hgm => h.fct g (hg g hgm)⟩
/-- A drawn region on its way: what is still wanted, told by a letter, so that ways that have done the same meet. -/
theorem dag_open {P : Program} {md : Region.Mode} {ops : Array Oper} {Q : Exit → Act → World → Prop} {S : World → Prop} {f : Nat} {l : Array Bool} {a : Act} {w : World} (h : ∀ (G : Nat → Array Bool → Act → World → Prop) (A0 : Act), Hid (∀ f l a w, G f l a w = wpAnyH P md ops Q S f l a w) → Hid (A0 = a) → G f l A0 w) : wpAnyH P md ops Q S f l a w := h _ a (fun _ _ _ _ => rfl) rfl
end Go.Proofs.Ytehgiegmdpaomaa
