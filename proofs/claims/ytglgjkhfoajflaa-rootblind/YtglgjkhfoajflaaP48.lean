
/- root.Update by a row of noughts. (Written by mkrtk.py.) -/
import Derived.Test.YtglgjkhfoajflaaP46
import Derived.Test.YtglgjkhfoajflaaP47
import Derived.Test.YtglgjkhfoajflaaP33
namespace Go.Proofs.Ytglgjkhfoajflaa
open Go.RowKit Go.IntWalk

/-- What an update by noughts hands back: the same numbers, or nothing and ErrOver. -/
def BlR (E : Int) (n : Nat) (zs xs : List Nat) (x : Nat) (W : World) (ux : Option Addr) (k1 k2 : Nat) (ul : Option Addr) (k3 k4 A : Nat) : Prop :=
  (E = 0 ∧ k1 = n ∧ k3 = n * n ∧ A = x ∧ ∃ (gx gl : Nat) (xo lo : Nat → Nat), ux = some ⟨gx, 0, none⟩ ∧ ul = some ⟨gl, 0, none⟩ ∧ FnM W ux n k2 xo ∧ FnM W ul (n * n) k4 lo ∧ (∀ i, i < n → xo i = zs.getD i 0 ∨ (zs.getD i 0 = 9223372036854775808 ∧ xo i = 0)) ∧ ∀ k, k < n * n → lo k = xs.getD k 0) ∨ (E = 5 ∧ k1 = 0 ∧ ux = none ∧ k2 = 0 ∧ ul = none)
theorem BlR.below {E : Int} {n : Nat} {zs xs : List Nat} {x : Nat} {W W' : World} {ux : Option Addr} {k1 k2 : Nat} {ul : Option Addr} {k3 k4 A : Nat} (h : BlR E n zs xs x W ux k1 k2 ul k3 k4 A) (hb : Below W.heap.size W W') : BlR E n zs xs x W' ux k1 k2 ul k3 k4 A := by
  rcases h with ⟨h1, h2, h3, h4, gx, gl, xo, lo, h5, h6, h7, h8, h9⟩ | h
  · exact Or.inl ⟨h1, h2, h3, h4, gx, gl, xo, lo, h5, h6, h7.below hb, h8.below hb, h9⟩
  · exact Or.inr h
theorem kept_bl (E : Int) (n : Nat) (zs xs : List Nat) (x : Nat) (ux : Option Addr) (k1 k2 : Nat) (ul : Option Addr) (k3 k4 A : Nat) : Kept (fun W => BlR E n zs xs x W ux k1 k2 ul k3 k4 A) := ⟨fun _ _ hb h => h.below hb, fun W b r c r0 c0 s s0 k l k0 l0 hb h => by
  rcases h with ⟨h1, h2, h3, h4, gx, gl, xo, lo, h5, h6, h7, h8, h9⟩ | h
  · exact Or.inl ⟨h1, h2, h3, h4, gx, gl, xo, lo, h5, h6, StoM.fn h7 hb, StoM.fn h8 hb, h9⟩
  · exact Or.inr h⟩
/-- The new lists are no part of the block b. -/
def DjR (ux ul : Option Addr) (b : Nat) : Prop := (∀ g, ux = some ⟨g, 0, none⟩ → g ≠ b) ∧ ∀ g, ul = some ⟨g, 0, none⟩ → g ≠ b
theorem kept_dj (ux ul : Option Addr) (b : Nat) : Kept (fun _ => DjR ux ul b) := ⟨fun _ _ _ h => h, fun _ _ _ _ _ _ _ _ _ _ _ _ _ h => h⟩
theorem BlR.old {E : Int} {n : Nat} {zs xs : List Nat} {x : Nat} {W : World} {ux : Option Addr} {k1 k2 : Nat} {ul : Option Addr} {k3 k4 A : Nat} (h : BlR E n zs xs x W ux k1 k2 ul k3 k4 A) : (∀ g, ux = some ⟨g, 0, none⟩ → g < W.heap.size) ∧ ∀ g, ul = some ⟨g, 0, none⟩ → g < W.heap.size := by
  rcases h with ⟨h1, h2, h3, h4, gx, gl, xo, lo, h5, h6, h7, h8, h9⟩ | ⟨_, _, h1, _, h2⟩
  · refine ⟨fun g e => ?_, fun g e => ?_⟩
    · rcases h7 with ⟨h, _⟩ | ⟨b, off, h, hb, _⟩
      · rw [e] at h; cases h
      · rw [e] at h; cases h; exact hb
    · rcases h8 with ⟨h, _⟩ | ⟨b, off, h, hb, _⟩
      · rw [e] at h; cases h
      · rw [e] at h; cases h; exact hb
  · exact ⟨fun g e => (by rw [h1] at e; cases e), fun g e => (by rw [h2] at e; cases e)⟩
theorem BlR.sto {E : Int} {n : Nat} {zs xs : List Nat} {x : Nat} {W : World} {ux : Option Addr} {k1 k2 : Nat} {ul : Option Addr} {k3 k4 A b : Nat} (h : BlR E n zs xs x W ux k1 k2 ul k3 k4 A) (hd : DjR ux ul b) (p q r s : Value) : BlR E n zs xs x ((((W.setCell ⟨b, 0, none⟩ p).setCell ⟨b, 1, none⟩ q).setCell ⟨b, 2, none⟩ r).setCell ⟨b, 3, none⟩ s) ux k1 k2 ul k3 k4 A := by
  rcases h with ⟨h1, h2, h3, h4, gx, gl, xo, lo, rfl, rfl, h7, h8, h9⟩ | h
  · exact Or.inl ⟨h1, h2, h3, h4, gx, gl, xo, lo, rfl, rfl, h7.rsto (hd.1 _ rfl) _ _ _ _, h8.rsto (hd.2 _ rfl) _ _ _ _, h9⟩
  · exact Or.inr h
theorem noughts_fl {W : World} {g n : Nat} (h : W.heap[g]? = some (.cells (madeCells #[.float .f64 0] n) 28)) (hn : n ≤ 12) : FlM W (some ⟨g, 0, none⟩) n n (List.replicate n 0) := by
  refine ⟨List.length_replicate, fun x hx => ?_, Or.inr ⟨g, 0, rfl, (Array.getElem?_eq_some_iff.1 h).1, Nat.le_refl _, by omega, fun j hj => ?_⟩⟩
  · rw [List.eq_of_mem_replicate hx]; decide
  · rw [Nat.zero_add, noughts_get]
    have hr : W.rowIs g 28 n (fun _ => .float .f64 0) := ⟨_, h, size_madeCells _ _, fun i hi => by simp [madeCells, hi, Nat.mod_one]⟩
    exact hr.cell hj
theorem fin_noughts (n : Nat) : finM (List.replicate n 0) = true := by
  unfold finM
  rw [List.all_eq_true]
  intro x hx
  rw [List.eq_of_mem_replicate hx]
  decide
theorem canon_inv2 {y d : Nat} (h : canonOf y = d) (hd : FinN d) : y = d := by
  unfold canonOf at h
  by_cases q : 9218868437227405312 < y % 9223372036854775808
  · rw [if_pos q] at h
    exact absurd hd.2 (by rw [← h]; decide)
  · rw [if_neg q] at h; exact h
theorem Upd_blind (n m ka kx kh x z : Nat) (xa sa ha : Option Addr) (zs xs : List Nat) (w : World) (hX : FlM w xa n kx zs) (hA : FlM w sa m ka xs) (hH : FlM w ha n kh (List.replicate n 0)) (hb : rootE zs n n n m xs = 0) (hp1 : (FloatKind.f64.format.order x 0 == some .lt) = false) (hp2 : (FloatKind.f64.format.order x 0 == some .eq) = false) (hx : x < 9218868437227405312) (hx0 : x ≠ 0) (hz : FinN z) :
    Calls Try.prog 13 #[.agg #[.slice xa n kx, .int .i64 n, .int .i64 n, .slice sa m ka], .slice ha n kh, .float .f64 x, .float .f64 z] w fun e w' => (∃ ux k1 k2 r1 c1 ul k3 k4 Y A S ug k5 k6 E, e = .returned (.tuple #[.agg #[.slice ux k1 k2, .int .i64 r1, .int .i64 c1, .slice ul k3 k4], .agg #[.float .f64 Y, .float .f64 A, .float .f64 S, .slice ug k5 k6], .int .i64 E]) ∧ BlR E n zs xs x w' ux k1 k2 ul k3 k4 A ∧ (∀ g, ux = some ⟨g, 0, none⟩ → w.heap.size ≤ g) ∧ ∀ g, ul = some ⟨g, 0, none⟩ → w.heap.size ≤ g) ∧ Below w.heap.size w w' := by
  obtain ⟨_, _, hc1, hc2, hlow, hdg⟩ := rootE_zero hb
  have hg := gd_own_r hA hc1
  have hm : m = n * n := hg.2.2.1
  have hF : ∀ k, k < n * n → FinN (xs.getD k 0) := fun k hk => by
    have h1 := hg.2.2.2.2
    rw [hm] at h1
    have h2 := hg.2.2.2.1
    rw [hm] at h2
    have h3 := (finF_iff _ _).1 h1 k hk
    refine ⟨fn_lt h2 k hk, fin_of ?_⟩
    rw [← fin_sgl]
    unfold finM
    simp only [List.all_cons, List.all_nil, Bool.and_true]
    rw [h3]
    rfl
  have hZ : ∀ i, i < n → FinN (zs.getD i 0) := fun i hi => by
    have h1 := fin_get hX.1 hc2
    have h3 := (finF_iff _ _).1 h1 i hi
    refine ⟨fn_lt hX.fn i hi, fin_of ?_⟩
    rw [← fin_sgl]
    unfold finM
    simp only [List.all_cons, List.all_nil, Bool.and_true]
    rw [h3]
    rfl
  have hL : ∀ i j, i < n → j < n → i < j → canonOf (xs.getD (i * n + j) 0) = 0 := by
    have h1 := hlow
    unfold lowT at h1
    rw [Bool.and_eq_true, Int.toNat_natCast] at h1
    exact (low_iff n _).1 h1.2
  have hfx : finM [x] = true := by rw [fin_sgl]; unfold finB; rw [Nat.mod_eq_of_lt (by omega)]; exact decide_eq_true hx
  have hfz : finM [z] = true := by rw [fin_sgl]; unfold finB; exact decide_eq_true hz.2
  refine (Update_fine n m ka kx kh x z xa sa ha zs (List.replicate n 0) xs w hX hA hH ⟨hg.le, hg.1⟩ hb (by omega) hfx hp1 hp2 (by omega) hz.1 hfz (fin_noughts n)).mono ?_
  rintro e w' ⟨hU, hbb⟩
  refine ⟨?_, hbb⟩
  have hbl := blind_upd (n := n) (x := x) (z := z) (f := fun j => xs.getD j 0) (zs := zs) hF hL hdg hZ hx hx0 hz
  rcases hU with ⟨h0, gx, gl, gg, Y, A, S, xo, lo, go, rfl, b1, b2, b3, f1, f2, f3, k1, k2, k3, k4, k5, k6⟩ | ⟨h0, rfl⟩
  · rw [h0] at hbl
    rcases hbl with h | ⟨_, h⟩
    · exact absurd h (by decide)
    refine ⟨_, _, _, _, _, _, _, _, _, _, _, _, _, _, _, rfl, Or.inl ⟨rfl, rfl, rfl, ?_, gx, gl, xo, lo, rfl, rfl, f1, f2, fun i hi => ?_, fun k hk => ?_⟩, fun g e => (by cases e; exact b1), fun g e => (by cases e; exact b2)⟩
    · rw [k5]
      unfold sU
      exact bld_sum hF hx _ (by omega)
    · have h1 := k1 i hi
      rcases bld_x (z := z) hF hZ hx hx0 hz hi with h2 | ⟨h2, h3⟩
      · rw [h2] at h1
        exact Or.inl (canon_inv2 h1 (hZ i hi))
      · rw [h3] at h1
        exact Or.inr ⟨h2, canon_inv2 h1 ⟨by decide, by decide⟩⟩
    · have h1 := k2 k hk
      rw [h k hk] at h1
      exact canon_inv2 h1 (hF k hk)
  · rcases hbl with h | ⟨h, _⟩
    · rw [h]
      exact ⟨_, _, _, _, _, _, _, _, _, _, _, _, _, _, _, rfl, Or.inr ⟨rfl, rfl, rfl, rfl, rfl⟩, fun g e => (by cases e), fun g e => (by cases e)⟩
    · exact absurd h h0
end Go.Proofs.Ytglgjkhfoajflaa
