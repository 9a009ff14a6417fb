
/- matrix: products and sums, turned: plain. -/
import Derived.Test.YtokeialkeadanaaP32
namespace Go.Proofs.Ytokeialkeadanaa
open Go.RowKit Go.IntWalk

theorem prod_comm (a b : Ieee.Datum) : a.product b = b.product a := by
  cases a <;> cases b <;> simp [Ieee.Datum.product, Nat.mul_comm, Int.add_comm, Bool.xor_comm]
theorem caf_comm (x y : Nat) : caf .mul x y = caf .mul y x := by
  unfold caf floatBits
  dsimp only
  unfold Ieee.Format.mul
  rw [prod_comm]
theorem dotM_comm (f g : Nat → Nat) : ∀ n, dotM f g n = dotM g f n
  | 0 => rfl
  | n + 1 => by rw [dotM, dotM, dotM_comm f g n, caf_comm]
/-- Whether all of so many canonical numbers are finite. -/
def finV (r c : Nat) (v : Nat → Nat → Nat) : Bool := (List.range r).all fun i => (List.range c).all fun j => !(v i j / 4503599627370496 % 2048 == 2047)
theorem finV_iff (r c : Nat) (v : Nat → Nat → Nat) : finV r c v = true ↔ ∀ i j, i < r → j < c → (v i j / 4503599627370496 % 2048 == 2047) = false := by
  unfold finV
  rw [List.all_eq_true]
  constructor
  · intro h i j hi hj
    have h1 := h i (List.mem_range.2 hi)
    rw [List.all_eq_true] at h1
    have h2 := h1 j (List.mem_range.2 hj)
    simpa using h2
  · intro h i hi
    rw [List.all_eq_true]
    intro j hj
    rw [h i j (List.mem_range.1 hi) (List.mem_range.1 hj)]
    rfl
theorem finF_iff (n : Nat) (o : Nat → Nat) : finF n o = true ↔ ∀ k, k < n → (expOf (o k) == 2047) = false := by
  constructor
  · intro h k hk
    unfold finF finM at h
    rw [List.all_eq_true] at h
    have := h (o k) (List.mem_map.2 ⟨k, List.mem_range.2 hk, rfl⟩)
    simpa using this
  · exact finF_of
theorem split_k {r c k : Nat} (hk : k < r * c) : k / c < r ∧ k % c < c ∧ k / c * c + k % c = k := by
  have hc : 0 < c := by
    apply Classical.byContradiction
    intro hc
    have : c = 0 := by omega
    subst this
    omega
  exact ⟨(Nat.div_lt_iff_lt_mul hc).2 hk, Nat.mod_lt _ hc, by rw [Nat.mul_comm]; exact Nat.div_add_mod k c⟩
theorem finF_V {r c : Nat} {o : Nat → Nat} {v : Nat → Nat → Nat} (h : ∀ i j, i < r → j < c → canonOf (o (i * c + j)) = v i j) : finF (r * c) o = finV r c v := by
  rw [Bool.eq_iff_iff, finF_iff, finV_iff]
  constructor
  · intro h1 i j hi hj
    have := h1 (i * c + j) (place_lt hi hj)
    unfold expOf at this
    rw [h i j hi hj] at this
    exact this
  · intro h1 k hk
    obtain ⟨q1, q2, q3⟩ := split_k hk
    have := h1 _ _ q1 q2
    rw [← h _ _ q1 q2, q3] at this
    exact this
theorem finV_turn {r c : Nat} {v v2 : Nat → Nat → Nat} (h : ∀ i j, i < r → j < c → v2 j i = v i j) : finV c r v2 = finV r c v := by
  rw [Bool.eq_iff_iff, finV_iff, finV_iff]
  constructor
  · intro h1 i j hi hj
    rw [← h i j hi hj]
    exact h1 j i hj hi
  · intro h1 j i hj hi
    rw [h i j hi hj]
    exact h1 i j hi hj
theorem fin_turn {r c n : Nat} {f o : Nat → Nat} (hn : n = r * c) (hf : finF n f = true) (h : ∀ i j, i < c → j < r → o (i * r + j) = f (j * c + i)) : finF (c * r) o = true := by
  rw [finF_iff] at hf ⊢
  intro k hk
  obtain ⟨q1, q2, q3⟩ := split_k hk
  rw [← q3, h _ _ q1 q2]
  exact hf _ (by rw [hn]; exact place_lt q2 q1)
/-- What a call hands back that may refuse. -/
def ResM (E : Int) (r c : Nat) (v : Nat → Nat → Nat) (W : World) (X0 X1 : Int) (X2 : Option Addr) (X3 X4 : Nat) : Prop :=
  (E = 0 ∧ X0 = r ∧ X1 = c ∧ X3 = r * c ∧ X4 = r * c ∧ ∃ (g : Nat) (o : Nat → Nat), X2 = some ⟨g, 0, none⟩ ∧ FnM W X2 X3 X4 o ∧ (∀ i j, i < r → j < c → canonOf (o (i * c + j)) = v i j) ∧ finF (r * c) o = true) ∨ (E ≠ 0 ∧ X0 = 0 ∧ X1 = 0 ∧ X2 = none ∧ X3 = 0 ∧ X4 = 0)
theorem ResM.below {E : Int} {r c : Nat} {v : Nat → Nat → Nat} {W W' : World} {X0 X1 : Int} {X2 : Option Addr} {X3 X4 : Nat} (h : ResM E r c v W X0 X1 X2 X3 X4) (hb : Below W.heap.size W W') : ResM E r c v W' X0 X1 X2 X3 X4 := by
  rcases h with ⟨h0, h1, h2, h3, h4, g, o, h5, h6, h7, h8⟩ | h
  · exact Or.inl ⟨h0, h1, h2, h3, h4, g, o, h5, h6.below hb, h7, h8⟩
  · exact Or.inr h
theorem ResM.sto {E : Int} {r c : Nat} {v : Nat → Nat → Nat} {W : World} {X0 X1 : Int} {X2 : Option Addr} {X3 X4 : Nat} (h : ResM E r c v W X0 X1 X2 X3 X4) {b : Nat} {r1 c1 r0 c0 : Int} {s1 s0 : Option Addr} {n1 k1 n0 k0 : Nat} (hb : W.heap[b]? = some (MBox r0 c0 s0 n0 k0)) : ResM E r c v (StoM W b r1 c1 s1 n1 k1) X0 X1 X2 X3 X4 := by
  rcases h with ⟨h0, h1, h2, h3, h4, g, o, h5, h6, h7, h8⟩ | h
  · exact Or.inl ⟨h0, h1, h2, h3, h4, g, o, h5, StoM.fn h6 hb, h7, h8⟩
  · exact Or.inr h
def mulE (r c r2 c2 : Nat) (v : Nat → Nat → Nat) : Int := if c ≠ r2 then 3 else if finV r c2 v = true then 0 else 5
def addE (r c r2 c2 : Nat) (v : Nat → Nat → Nat) : Int := if ¬ (r = r2 ∧ c = c2) then 3 else if finV r c v = true then 0 else 5
theorem res_of (r c g : Nat) (o : Nat → Nat) (v : Nat → Nat → Nat) (E : Int) (W : World) (hE : E = if finV r c v = true then 0 else 5) (hf : FnM W (some ⟨g, 0, none⟩) (r * c) (r * c) o) (hv : ∀ i j, i < r → j < c → canonOf (o (i * c + j)) = v i j) : ∃ X0 X1 X2 X3 X4, AnsM r c (r * c) g o = .tuple #[.agg #[.int .i64 X0, .int .i64 X1, .slice X2 X3 X4], .int .i64 E] ∧ ResM E r c v W X0 X1 X2 X3 X4 := by
  unfold AnsM
  rw [finF_V hv]
  by_cases h : finV r c v = true
  · rw [if_pos h] at hE
    subst hE
    rw [if_pos h, if_pos h]
    exact ⟨_, _, _, _, _, rfl, Or.inl ⟨rfl, rfl, rfl, rfl, rfl, g, o, rfl, hf, hv, by rw [finF_V hv]; exact h⟩⟩
  · rw [if_neg h] at hE
    subst hE
    rw [if_neg h, if_neg h]
    exact ⟨_, _, _, _, _, rfl, Or.inr ⟨by decide, rfl, rfl, rfl, rfl, rfl⟩⟩
theorem res_non (r c : Nat) (v : Nat → Nat → Nat) (E : Int) (W : World) (hE : E ≠ 0) : ∃ X0 X1 X2 X3 X4, NonM E = .tuple #[.agg #[.int .i64 X0, .int .i64 X1, .slice X2 X3 X4], .int .i64 E] ∧ ResM E r c v W X0 X1 X2 X3 X4 := ⟨_, _, _, _, _, rfl, Or.inr ⟨hE, rfl, rfl, rfl, rfl, rfl⟩⟩
theorem Mul_res (r c r2 c2 n n2 : Nat) (sa sb : Option Addr) (ka kb : Nat) (f f2 : Nat → Nat) (v : Nat → Nat → Nat) (w : World) (ha : Gd w r c sa n ka f) (hb : Gd w r2 c2 sb n2 kb f2) (hv : c = r2 → ∀ i j, i < r → j < c2 → dotM (fun k => f (i * c + k)) (fun k => f2 (k * c2 + j)) c = v i j) :
    Calls Try.prog 25 #[.agg #[.int .i64 r, .int .i64 c, .slice sa n ka], .agg #[.int .i64 r2, .int .i64 c2, .slice sb n2 kb]] w fun e w' => (∃ X0 X1 X2 X3 X4, e = .returned (.tuple #[.agg #[.int .i64 X0, .int .i64 X1, .slice X2 X3 X4], .int .i64 (mulE r c r2 c2 v)]) ∧ ResM (mulE r c r2 c2 v) r c2 v w' X0 X1 X2 X3 X4) ∧ Below w.heap.size w w' := by
  by_cases hs : c = r2
  · refine (Mul_ok r c r2 c2 n n2 sa sb ka kb f f2 w ha hb hs).mono ?_
    rintro e w' ⟨⟨g, o, rfl, hf, hv2⟩, hbb⟩
    obtain ⟨X0, X1, X2, X3, X4, h1, h2⟩ := res_of r c2 g o v (mulE r c r2 c2 v) w' (by unfold mulE; rw [if_neg (fun h => h hs)]) hf (fun i j hi hj => (hv2 i j hi hj).trans (hv hs i j hi hj))
    exact ⟨⟨X0, X1, X2, X3, X4, by rw [h1], h2⟩, hbb⟩
  · refine (Mul_shape r c r2 c2 n n2 sa sb ka kb f f2 w ha hb hs).mono ?_
    rintro e w' ⟨rfl, hbb⟩
    have e3 : mulE r c r2 c2 v = 3 := by unfold mulE; rw [if_pos hs]
    obtain ⟨X0, X1, X2, X3, X4, h1, h2⟩ := res_non r c2 v (mulE r c r2 c2 v) w' (by rw [e3]; decide)
    exact ⟨⟨X0, X1, X2, X3, X4, by rw [← h1, e3], h2⟩, hbb⟩
theorem gd_zero (W : World) : Gd W 0 0 none 0 0 (fun _ => 0) := ⟨by decide, by decide, rfl, Or.inl ⟨rfl, rfl, rfl⟩, rfl⟩
/-- Two that were handed back with the same numbers. -/
theorem alike_res (r c : Nat) (v v2 : Nat → Nat → Nat) (X0 X1 Y0 Y1 : Int) (X2 Y2 : Option Addr) (X3 X4 Y3 Y4 : Nat) (w : World) (h : ResM 0 r c v w X0 X1 X2 X3 X4) (h2 : ResM 0 r c v2 w Y0 Y1 Y2 Y3 Y4) (he : ∀ i j, i < r → j < c → v i j = v2 i j) :
    Calls Try.prog 22 #[.agg #[.int .i64 X0, .int .i64 X1, .slice X2 X3 X4], .agg #[.int .i64 Y0, .int .i64 Y1, .slice Y2 Y3 Y4]] w fun e w' => e = .returned (.bool true) ∧ Below w.heap.size w w' := by
  rcases h with ⟨_, rfl, rfl, rfl, rfl, g, o, rfl, hf, hv, _⟩ | ⟨h0, _⟩
  · rcases h2 with ⟨_, rfl, rfl, rfl, rfl, g', o', rfl, hf', hv', _⟩ | ⟨h0, _⟩
    · refine alike_yes r c _ _ (r * c) (r * c) (r * c) o o' w hf hf' (fun k hk => ?_)
      obtain ⟨q1, q2, q3⟩ := split_k hk
      rw [← q3, hv _ _ q1 q2, hv' _ _ q1 q2, he _ _ q1 q2]
    · exact absurd rfl h0
  · exact absurd rfl h0
theorem gd_of {r c : Int} {n : Nat} {sa : Option Addr} {ka : Nat} {xs : List Nat} {w : World} (ha : FlM w sa n ka xs) (h : chkM r c n xs = 0) : ∃ a b : Nat, r = a ∧ c = b ∧ Gd w a b sa n ka (fun j => xs.getD j 0) := by
  obtain ⟨a, b, rfl, rfl, h1, h2, h3, h4⟩ := chk_some h
  refine ⟨a, b, rfl, rfl, h1, h2, h3, ha.fn, ?_⟩
  unfold finF
  rw [show (List.range n).map (fun j => xs.getD j 0) = xs from by
    have := ha.1
    apply List.ext_getElem?
    intro i
    by_cases hi : i < n
    · rw [List.getElem?_map, List.getElem?_range hi, List.getElem?_eq_getElem (by omega)]
      simp [List.getD_eq_getElem?_getD, List.getElem?_eq_getElem (show i < xs.length by omega)]
    · rw [List.getElem?_eq_none (by simp; omega), List.getElem?_eq_none (by omega)]]
  exact h4
theorem gd_sto {W : World} {r c n cap : Nat} {sa : Option Addr} {f : Nat → Nat} (h : Gd W r c sa n cap f) {b : Nat} {r1 c1 r0 c0 : Int} {s1 s0 : Option Addr} {n1 k1 n0 k0 : Nat} (hb : W.heap[b]? = some (MBox r0 c0 s0 n0 k0)) : Gd (StoM W b r1 c1 s1 n1 k1) r c sa n cap f := ⟨h.1, h.2.1, h.2.2.1, StoM.fn h.2.2.2.1 hb, h.2.2.2.2⟩
end Go.Proofs.Ytokeialkeadanaa
