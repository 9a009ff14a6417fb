
/- matrix: products and sums, turned: plain. -/
import Derived.Test.YtglgjkhfoajflaaP25
namespace Go.Proofs.Ytglgjkhfoajflaa
open Go.RowKit Go.IntWalk

theorem prod_comm (a b : Ieee.Datum) : a.product b = b.product a := by
  cases a <;> cases b <;> simp [Ieee.Datum.product, Nat.mul_comm, Int.add_comm, Bool.xor_comm]
theorem caf_comm (x y : Nat) : caf .mul x y = caf .mul y x := by
  unfold caf floatBits
  dsimp only
  unfold Ieee.Format.mul
  rw [prod_comm]
theorem dotM_comm (f g : Nat → Nat) : ∀ n, dotM f g n = dotM g f n
  | 0 => rfl
  | n + 1 => by rw [dotM, dotM, dotM_comm f g n, caf_comm]
/-- Whether all of so many canonical numbers are finite. -/
def finV (r c : Nat) (v : Nat → Nat → Nat) : Bool := (List.range r).all fun i => (List.range c).all fun j => !(v i j / 4503599627370496 % 2048 == 2047)
theorem finV_iff (r c : Nat) (v : Nat → Nat → Nat) : finV r c v = true ↔ ∀ i j, i < r → j < c → (v i j / 4503599627370496 % 2048 == 2047) = false := by
  unfold finV
  rw [List.all_eq_true]
  constructor
  · intro h i j hi hj
    have h1 := h i (List.mem_range.2 hi)
    rw [List.all_eq_true] at h1
    have h2 := h1 j (List.mem_range.2 hj)
    simpa using h2
  · intro h i hi
    rw [List.all_eq_true]
    intro j hj
    rw [h i j (List.mem_range.1 hi) (List.mem_range.1 hj)]
    rfl
theorem finF_iff (n : Nat) (o : Nat → Nat) : finF n o = true ↔ ∀ k, k < n → (expOf (o k) == 2047) = false := by
  constructor
  · intro h k hk
    unfold finF finM at h
    rw [List.all_eq_true] at h
    have := h (o k) (List.mem_map.2 ⟨k, List.mem_range.2 hk, rfl⟩)
    simpa using this
  · exact finF_of
theorem split_k {r c k : Nat} (hk : k < r * c) : k / c < r ∧ k % c < c ∧ k / c * c + k % c = k := by
  have hc : 0 < c := by
    apply Classical.byContradiction
    intro hc
    have : c = 0 := by omega
    subst this
    omega
  exact ⟨(Nat.div_lt_iff_lt_mul hc).2 hk, Nat.mod_lt _ hc, by rw [Nat.mul_comm]; exact Nat.div_add_mod k c⟩
theorem finF_V {r c : Nat} {o : Nat → Nat} {v : Nat → Nat → Nat} (h : ∀ i j, i < r → j < c → canonOf (o (i * c + j)) = v i j) : finF (r * c) o = finV r c v := by
  rw [Bool.eq_iff_iff, finF_iff, finV_iff]
  constructor
  · intro h1 i j hi hj
    have := h1 (i * c + j) (place_lt hi hj)
    unfold expOf at this
    rw [h i j hi hj] at this
    exact this
  · intro h1 k hk
    obtain ⟨q1, q2, q3⟩ := split_k hk
    have := h1 _ _ q1 q2
    rw [← h _ _ q1 q2, q3] at this
    exact this
theorem finV_turn {r c : Nat} {v v2 : Nat → Nat → Nat} (h : ∀ i j, i < r → j < c → v2 j i = v i j) : finV c r v2 = finV r c v := by
  rw [Bool.eq_iff_iff, finV_iff, finV_iff]
  constructor
  · intro h1 i j hi hj
    rw [← h i j hi hj]
    exact h1 j i hj hi
  · intro h1 j i hj hi
    rw [h i j hi hj]
    exact h1 i j hi hj
theorem fin_turn {r c n : Nat} {f o : Nat → Nat} (hn : n = r * c) (hf : finF n f = true) (h : ∀ i j, i < c → j < r → o (i * r + j) = f (j * c + i)) : finF (c * r) o = true := by
  rw [finF_iff] at hf ⊢
  intro k hk
  obtain ⟨q1, q2, q3⟩ := split_k hk
  rw [← q3, h _ _ q1 q2]
  exact hf _ (by rw [hn]; exact place_lt q2 q1)
/-- What a call hands back that may refuse. -/
def ResM (E : Int) (r c : Nat) (v : Nat → Nat → Nat) (W : World) (X0 X1 : Int) (X2 : Option Addr) (X3 X4 : Nat) : Prop :=
  (E = 0 ∧ X0 = r ∧ X1 = c ∧ X3 = r * c ∧ X4 = r * c ∧ ∃ (g : Nat) (o : Nat → Nat), X2 = some ⟨g, 0, none⟩ ∧ FnM W X2 X3 X4 o ∧ (∀ i j, i < r → j < c → canonOf (o (i * c + j)) = v i j) ∧ finF (r * c) o = true) ∨ (E ≠ 0 ∧ X0 = 0 ∧ X1 = 0 ∧ X2 = none ∧ X3 = 0 ∧ X4 = 0)
theorem ResM.below {E : Int} {r c : Nat} {v : Nat → Nat → Nat} {W W' : World} {X0 X1 : Int} {X2 : Option Addr} {X3 X4 : Nat} (h : ResM E r c v W X0 X1 X2 X3 X4) (hb : Below W.heap.size W W') : ResM E r c v W' X0 X1 X2 X3 X4 := by
  rcases h with ⟨h0, h1, h2, h3, h4, g, o, h5, h6, h7, h8⟩ | h
  · exact Or.inl ⟨h0, h1, h2, h3, h4, g, o, h5, h6.below hb, h7, h8⟩
  · exact Or.inr h
theorem ResM.sto {E : Int} {r c : Nat} {v : Nat → Nat → Nat} {W : World} {X0 X1 : Int} {X2 : Option Addr} {X3 X4 : Nat} (h : ResM E r c v W X0 X1 X2 X3 X4) {b : Nat} {r1 c1 r0 c0 : Int} {s1 s0 : Option Addr} {n1 k1 n0 k0 : Nat} (hb : W.heap[b]? = some (MBox r0 c0 s0 n0 k0)) : ResM E r c v (StoM W b r1 c1 s1 n1 k1) X0 X1 X2 X3 X4 := by
  rcases h with ⟨h0, h1, h2, h3, h4, g, o, h5, h6, h7, h8⟩ | h
  · exact Or.inl ⟨h0, h1, h2, h3, h4, g, o, h5, StoM.fn h6 hb, h7, h8⟩
  · exact Or.inr h
def mulE (r c r2 c2 : Nat) (v : Nat → Nat → Nat) : Int := if c ≠ r2 then 3 else if finV r c2 v = true then 0 else 5
def addE (r c r2 c2 : Nat) (v : Nat → Nat → Nat) : Int := if ¬ (r = r2 ∧ c = c2) then 3 else if finV r c v = true then 0 else 5
theorem res_of (r c g : Nat) (o : Nat → Nat) (v : Nat → Nat → Nat) (E : Int) (W : World) (hE : E = if finV r c v = true then 0 else 5) (hf : FnM W (some ⟨g, 0, none⟩) (r * c) (r * c) o) (hv : ∀ i j, i < r → j < c → canonOf (o (i * c + j)) = v i j) : ∃ X0 X1 X2 X3 X4, AnsM r c (r * c) g o = .tuple #[.agg #[.int .i64 X0, .int .i64 X1, .slice X2 X3 X4], .int .i64 E] ∧ ResM E r c v W X0 X1 X2 X3 X4 := by
  unfold AnsM
  rw [finF_V hv]
  by_cases h : finV r c v = true
  · rw [if_pos h] at hE
    subst hE
    rw [if_pos h, if_pos h]
    exact ⟨_, _, _, _, _, rfl, Or.inl ⟨rfl, rfl, rfl, rfl, rfl, g, o, rfl, hf, hv, by rw [finF_V hv]; exact h⟩⟩
  · rw [if_neg h] at hE
    subst hE
    rw [if_neg h, if_neg h]
    exact ⟨_, _, _, _, _, rfl, Or.inr ⟨by decide, rfl, rfl, rfl, rfl, rfl⟩⟩
theorem res_non (r c : Nat) (v : Nat → Nat → Nat) (E : Int) (W : World) (hE : E ≠ 0) : ∃ X0 X1 X2 X3 X4, NonM E = .tuple #[.agg #[.int .i64 X0, .int .i64 X1, .slice X2 X3 X4], .int .i64 E] ∧ ResM E r c v W X0 X1 X2 X3 X4 := ⟨_, _, _, _, _, rfl, Or.inr ⟨hE, rfl, rfl, rfl, rfl, rfl⟩⟩
theorem gd_zero (W : World) : Gd W 0 0 none 0 0 (fun _ => 0) := ⟨by decide, by decide, rfl, Or.inl ⟨rfl, rfl, rfl⟩, rfl⟩
/-- Transpose of what was handed back, beside an error too. -/
theorem Trn_res (E : Int) (r c : Nat) (hr : r ≤ 12) (hc : c ≤ 12) (v : Nat → Nat → Nat) (X0 X1 : Int) (X2 : Option Addr) (X3 X4 : Nat) (w : World) (h : ResM E r c v w X0 X1 X2 X3 X4) :
    Calls Try.prog 56 #[.agg #[.int .i64 X0, .int .i64 X1, .slice X2 X3 X4]] w fun e w' => (∃ Y0 Y1 Y2 Y3 Y4, e = .returned (.tuple #[.agg #[.int .i64 Y0, .int .i64 Y1, .slice Y2 Y3 Y4], .int .i64 0]) ∧ (E = 0 → ResM E c r (fun j i => v i j) w' Y0 Y1 Y2 Y3 Y4)) ∧ Below w.heap.size w w' := by
  rcases h with ⟨h0, rfl, rfl, rfl, rfl, g, o, rfl, hf, hv, hfin⟩ | ⟨h0, rfl, rfl, rfl, rfl, rfl⟩
  · refine (Trn_ok r c (r * c) _ (r * c) o w ⟨hr, hc, rfl, hf, hfin⟩).mono ?_
    rintro e w' ⟨⟨g2, o2, rfl, hf2, hv2⟩, hbb⟩
    exact ⟨⟨_, _, _, _, _, rfl, fun _ => Or.inl ⟨h0, rfl, rfl, rfl, rfl, g2, o2, rfl, hf2, fun i j hi hj => by rw [hv2 i j hi hj]; exact hv j i hj hi, fin_turn rfl hfin hv2⟩⟩, hbb⟩
  · refine (Trn_ok 0 0 0 none 0 (fun _ => 0) w (gd_zero w)).mono ?_
    rintro e w' ⟨⟨g2, o2, rfl, hf2, hv2⟩, hbb⟩
    exact ⟨⟨_, _, _, _, _, rfl, fun h => absurd h h0⟩, hbb⟩
/-- Transpose of anything: something, and what Check tells. -/
theorem Trn_some (r c : Int) (n : Nat) (sa : Option Addr) (ka : Nat) (xs : List Nat) (w : World) (ha : FlM w sa n ka xs) (hn : n ≤ 17592186043904) :
    Calls Try.prog 56 #[.agg #[.int .i64 r, .int .i64 c, .slice sa n ka]] w fun e w' => (∃ Y0 Y1 Y2 Y3 Y4, e = .returned (.tuple #[.agg #[.int .i64 Y0, .int .i64 Y1, .slice Y2 Y3 Y4], .int .i64 (chkM r c n xs)])) ∧ Below w.heap.size w w' := by
  by_cases h : chkM r c n xs = 0
  · obtain ⟨a, b, rfl, rfl, h1, h2, h3, h4⟩ := chk_some h
    have hg : Gd w a b sa n ka (fun j => xs.getD j 0) := ⟨h1, h2, h3, ha.fn, by
      unfold finF
      rw [show (List.range n).map (fun j => xs.getD j 0) = xs from by
        have := ha.1
        apply List.ext_getElem?
        intro i
        by_cases hi : i < n
        · rw [List.getElem?_map, List.getElem?_range hi, List.getElem?_eq_getElem (by omega)]
          simp [List.getD_eq_getElem?_getD, List.getElem?_eq_getElem (show i < xs.length by omega)]
        · rw [List.getElem?_eq_none (by simp; omega), List.getElem?_eq_none (by omega)]]
      exact h4⟩
    refine (Trn_ok a b n sa ka _ w hg).mono ?_
    rintro e w' ⟨⟨g, o, rfl, _, _⟩, hb⟩
    rw [h]
    exact ⟨⟨_, _, _, _, _, rfl⟩, hb⟩
  · refine (Trn_bad r c n sa ka xs w ha hn h).mono ?_
    rintro e w' ⟨rfl, hb⟩
    exact ⟨⟨_, _, _, _, _, rfl⟩, hb⟩
theorem gd_of {r c : Int} {n : Nat} {sa : Option Addr} {ka : Nat} {xs : List Nat} {w : World} (ha : FlM w sa n ka xs) (h : chkM r c n xs = 0) : ∃ a b : Nat, r = a ∧ c = b ∧ Gd w a b sa n ka (fun j => xs.getD j 0) := by
  obtain ⟨a, b, rfl, rfl, h1, h2, h3, h4⟩ := chk_some h
  refine ⟨a, b, rfl, rfl, h1, h2, h3, ha.fn, ?_⟩
  unfold finF
  rw [show (List.range n).map (fun j => xs.getD j 0) = xs from by
    have := ha.1
    apply List.ext_getElem?
    intro i
    by_cases hi : i < n
    · rw [List.getElem?_map, List.getElem?_range hi, List.getElem?_eq_getElem (by omega)]
      simp [List.getD_eq_getElem?_getD, List.getElem?_eq_getElem (show i < xs.length by omega)]
    · rw [List.getElem?_eq_none (by simp; omega), List.getElem?_eq_none (by omega)]]
  exact h4
theorem gd_sto {W : World} {r c n cap : Nat} {sa : Option Addr} {f : Nat → Nat} (h : Gd W r c sa n cap f) {b : Nat} {r1 c1 r0 c0 : Int} {s1 s0 : Option Addr} {n1 k1 n0 k0 : Nat} (hb : W.heap[b]? = some (MBox r0 c0 s0 n0 k0)) : Gd (StoM W b r1 c1 s1 n1 k1) r c sa n cap f := ⟨h.1, h.2.1, h.2.2.1, StoM.fn h.2.2.2.1 hb, h.2.2.2.2⟩
end Go.Proofs.Ytglgjkhfoajflaa

namespace Go.Proofs.Ytglgjkhfoajflaa
open Go.RowKit Go.IntWalk

/-- Whether numbers are alike, place by place. -/
def eqF (n : Nat) (f g : Nat → Nat) : Bool := (List.range n).all fun k => canonOf (f k) == canonOf (g k)
theorem eqF_iff (n : Nat) (f g : Nat → Nat) : eqF n f g = true ↔ ∀ k, k < n → canonOf (f k) = canonOf (g k) := by
  unfold eqF
  rw [List.all_eq_true]
  constructor
  · intro h k hk
    simpa using h k (List.mem_range.2 hk)
  · intro h k hk
    simpa using h k (List.mem_range.1 hk)
theorem eqF_no {n : Nat} {f g : Nat → Nat} {k : Nat} (hk : k < n) (h : ¬ canonOf (f k) = canonOf (g k)) : eqF n f g = false := by
  cases hc : eqF n f g with
  | false => rfl
  | true => exact absurd ((eqF_iff n f g).1 hc k hk) h
end Go.Proofs.Ytglgjkhfoajflaa

namespace Go.Proofs.Ytglgjkhfoajflaa
open Go.RowKit Go.IntWalk

set_option maxRecDepth 4000 in
set_option maxHeartbeats 1000000 in
theorem square_bad (r c : Int) (n : Nat) (sa : Option Addr) (ka : Nat) (xs : List Nat) (w : World) (ha : FlM w sa n ka xs) (hn : n ≤ 17592186043904) (hE : chkM r c n xs ≠ 0) :
    Calls Try.prog 71 #[MV r c sa n ka] w fun e w' => e = .returned (.int .i64 (chkM r c n xs)) ∧ Below w.heap.size w w' := by
  have HA0 : Hid ((w.alloc (MBox r c sa n ka)).heap[w.heap.size]? = some (MBox r c sa n ka)) := nblkM _ _
  have HB : Hid (Below w.heap.size w (w.alloc (MBox r c sa n ka))) := (Below.refl _ _).alloc (Nat.le_refl _) _
  have HCB := hid (fun W (hW : Below w.heap.size w W) => Check_any r c sa n ka xs W (ha.below hW) hn)
  obtain ⟨E, hEE⟩ : ∃ E, Hid (chkM r c n xs = E) := ⟨_, rfl⟩
  rw [hEE.out] at HCB hE
  rw [hEE.out]
  have hne : (E != 0) = true := by simpa using hE
  obtain ⟨V, hV⟩ : ∃ V, Hid (w.alloc (MBox r c sa n ka) = V) := ⟨_, rfl⟩
  rw [hV.out] at HA0 HB
  have hV' := hV.out
  obtain ⟨x0, x1, x2⟩ := mcells_of HA0.out
  unfold MBox at hV'
  unfold MV at HCB ⊢
  clear ha hn hE
  go_enter Try.func71, Try.ntmps71
  go_wp2_with fail
  refine (HCB.out _ HB.out).mono ?_
  rintro e w1 ⟨rfl, hb1⟩
  have HB1 := hid (HB.out.trans (hb1.mono HB.out.size))
  clear hb1
  go_wp2_with fail
  go_ret
  exact ⟨rfl, HB1.out⟩
end Go.Proofs.Ytglgjkhfoajflaa

namespace Go.Proofs.Ytglgjkhfoajflaa
open Go.RowKit Go.IntWalk

/-- What Sandwich hands back: a good symmetric matrix, or none. -/
def SymR (E : Int) (W : World) (X0 X1 : Int) (X2 : Option Addr) (X3 X4 : Nat) : Prop :=
  (E = 0 ∧ ∃ (r : Nat) (o : Nat → Nat), X0 = r ∧ X1 = r ∧ Gd W r r X2 X3 X4 o ∧ ∀ i j, i < r → j < r → o (i * r + j) = o (j * r + i)) ∨ (E ≠ 0 ∧ X0 = 0 ∧ X1 = 0 ∧ X2 = none ∧ X3 = 0 ∧ X4 = 0)
theorem sym_of (r g : Nat) (hr : r ≤ 12) (o : Nat → Nat) (W : World) (hf : FnM W (some ⟨g, 0, none⟩) (r * r) (r * r) o) (hv : ∀ i j, i < r → j < r → o (i * r + j) = o (j * r + i)) : ∃ X0 X1 X2 X3 X4 E, AnsM r r (r * r) g o = .tuple #[.agg #[.int .i64 X0, .int .i64 X1, .slice X2 X3 X4], .int .i64 E] ∧ SymR E W X0 X1 X2 X3 X4 := by
  unfold AnsM
  by_cases h : finF (r * r) o = true
  · rw [if_pos h, if_pos h]
    exact ⟨_, _, _, _, _, _, rfl, Or.inl ⟨rfl, r, o, rfl, rfl, ⟨hr, hr, rfl, hf, h⟩, hv⟩⟩
  · rw [if_neg h, if_neg h]
    exact ⟨_, _, _, _, _, _, rfl, Or.inr ⟨by decide, rfl, rfl, rfl, rfl, rfl⟩⟩
theorem sym_non (E : Int) (W : World) (hE : E ≠ 0) : ∃ X0 X1 X2 X3 X4 F, NonM E = .tuple #[.agg #[.int .i64 X0, .int .i64 X1, .slice X2 X3 X4], .int .i64 F] ∧ SymR F W X0 X1 X2 X3 X4 := ⟨_, _, _, _, _, _, rfl, Or.inr ⟨hE, rfl, rfl, rfl, rfl, rfl⟩⟩
end Go.Proofs.Ytglgjkhfoajflaa
