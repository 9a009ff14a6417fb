
/- matrix: products and sums, turned: plain. -/
import Derived.Test.YtehgiegmdpaomaaP31
namespace Go.Proofs.Ytehgiegmdpaomaa
open Go.RowKit Go.IntWalk

theorem prod_comm (a b : Ieee.Datum) : a.product b = b.product a := by
  cases a <;> cases b <;> simp [Ieee.Datum.product, Nat.mul_comm, Int.add_comm, Bool.xor_comm]
theorem caf_comm (x y : Nat) : caf .mul x y = caf .mul y x := by
  unfold caf floatBits
  dsimp only
  unfold Ieee.Format.mul
  rw [prod_comm]
theorem dotM_comm (f g : Nat → Nat) : ∀ n, dotM f g n = dotM g f n
  | 0 => rfl
  | n + 1 => by rw [dotM, dotM, dotM_comm f g n, caf_comm]
/-- Whether all of so many canonical numbers are finite. -/
def finV (r c : Nat) (v : Nat → Nat → Nat) : Bool := (List.range r).all fun i => (List.range c).all fun j => !(v i j / 4503599627370496 % 2048 == 2047)
theorem finV_iff (r c : Nat) (v : Nat → Nat → Nat) : finV r c v = true ↔ ∀ i j, i < r → j < c → (v i j / 4503599627370496 % 2048 == 2047) = false := by
  unfold finV
  rw [List.all_eq_true]
  constructor
  · intro h i j hi hj
    have h1 := h i (List.mem_range.2 hi)
    rw [List.all_eq_true] at h1
    have h2 := h1 j (List.mem_range.2 hj)
    simpa using h2
  · intro h i hi
    rw [List.all_eq_true]
    intro j hj
    rw [h i j (List.mem_range.1 hi) (List.mem_range.1 hj)]
    rfl
theorem finF_iff (n : Nat) (o : Nat → Nat) : finF n o = true ↔ ∀ k, k < n → (expOf (o k) == 2047) = false := by
  constructor
  · intro h k hk
    unfold finF finM at h
    rw [List.all_eq_true] at h
    have := h (o k) (List.mem_map.2 ⟨k, List.mem_range.2 hk, rfl⟩)
    simpa using this
  · exact finF_of
theorem split_k {r c k : Nat} (hk : k < r * c) : k / c < r ∧ k % c < c ∧ k / c * c + k % c = k := by
  have hc : 0 < c := by
    apply Classical.byContradiction
    intro hc
    have : c = 0 := by omega
    subst this
    omega
  exact ⟨(Nat.div_lt_iff_lt_mul hc).2 hk, Nat.mod_lt _ hc, by rw [Nat.mul_comm]; exact Nat.div_add_mod k c⟩
theorem finF_V {r c : Nat} {o : Nat → Nat} {v : Nat → Nat → Nat} (h : ∀ i j, i < r → j < c → canonOf (o (i * c + j)) = v i j) : finF (r * c) o = finV r c v := by
  rw [Bool.eq_iff_iff, finF_iff, finV_iff]
  constructor
  · intro h1 i j hi hj
    have := h1 (i * c + j) (place_lt hi hj)
    unfold expOf at this
    rw [h i j hi hj] at this
    exact this
  · intro h1 k hk
    obtain ⟨q1, q2, q3⟩ := split_k hk
    have := h1 _ _ q1 q2
    rw [← h _ _ q1 q2, q3] at this
    exact this
theorem finV_turn {r c : Nat} {v v2 : Nat → Nat → Nat} (h : ∀ i j, i < r → j < c → v2 j i = v i j) : finV c r v2 = finV r c v := by
  rw [Bool.eq_iff_iff, finV_iff, finV_iff]
  constructor
  · intro h1 i j hi hj
    rw [← h i j hi hj]
    exact h1 j i hj hi
  · intro h1 j i hj hi
    rw [h i j hi hj]
    exact h1 i j hi hj
theorem fin_turn {r c n : Nat} {f o : Nat → Nat} (hn : n = r * c) (hf : finF n f = true) (h : ∀ i j, i < c → j < r → o (i * r + j) = f (j * c + i)) : finF (c * r) o = true := by
  rw [finF_iff] at hf ⊢
  intro k hk
  obtain ⟨q1, q2, q3⟩ := split_k hk
  rw [← q3, h _ _ q1 q2]
  exact hf _ (by rw [hn]; exact place_lt q2 q1)
/-- What a call hands back that may refuse. -/
def ResM (E : Int) (r c : Nat) (v : Nat → Nat → Nat) (W : World) (X0 X1 : Int) (X2 : Option Addr) (X3 X4 : Nat) : Prop :=
  (E = 0 ∧ X0 = r ∧ X1 = c ∧ X3 = r * c ∧ X4 = r * c ∧ ∃ (g : Nat) (o : Nat → Nat), X2 = some ⟨g, 0, none⟩ ∧ FnM W X2 X3 X4 o ∧ (∀ i j, i < r → j < c → canonOf (o (i * c + j)) = v i j) ∧ finF (r * c) o = true) ∨ (E ≠ 0 ∧ X0 = 0 ∧ X1 = 0 ∧ X2 = none ∧ X3 = 0 ∧ X4 = 0)
theorem ResM.below {E : Int} {r c : Nat} {v : Nat → Nat → Nat} {W W' : World} {X0 X1 : Int} {X2 : Option Addr} {X3 X4 : Nat} (h : ResM E r c v W X0 X1 X2 X3 X4) (hb : Below W.heap.size W W') : ResM E r c v W' X0 X1 X2 X3 X4 := by
  rcases h with ⟨h0, h1, h2, h3, h4, g, o, h5, h6, h7, h8⟩ | h
  · exact Or.inl ⟨h0, h1, h2, h3, h4, g, o, h5, h6.below hb, h7, h8⟩
  · exact Or.inr h
theorem ResM.sto {E : Int} {r c : Nat} {v : Nat → Nat → Nat} {W : World} {X0 X1 : Int} {X2 : Option Addr} {X3 X4 : Nat} (h : ResM E r c v W X0 X1 X2 X3 X4) {b : Nat} {r1 c1 r0 c0 : Int} {s1 s0 : Option Addr} {n1 k1 n0 k0 : Nat} (hb : W.heap[b]? = some (MBox r0 c0 s0 n0 k0)) : ResM E r c v (StoM W b r1 c1 s1 n1 k1) X0 X1 X2 X3 X4 := by
  rcases h with ⟨h0, h1, h2, h3, h4, g, o, h5, h6, h7, h8⟩ | h
  · exact Or.inl ⟨h0, h1, h2, h3, h4, g, o, h5, StoM.fn h6 hb, h7, h8⟩
  · exact Or.inr h
def mulE (r c r2 c2 : Nat) (v : Nat → Nat → Nat) : Int := if c ≠ r2 then 3 else if finV r c2 v = true then 0 else 5
def addE (r c r2 c2 : Nat) (v : Nat → Nat → Nat) : Int := if ¬ (r = r2 ∧ c = c2) then 3 else if finV r c v = true then 0 else 5
theorem res_of (r c g : Nat) (o : Nat → Nat) (v : Nat → Nat → Nat) (E : Int) (W : World) (hE : E = if finV r c v = true then 0 else 5) (hf : FnM W (some ⟨g, 0, none⟩) (r * c) (r * c) o) (hv : ∀ i j, i < r → j < c → canonOf (o (i * c + j)) = v i j) : ∃ X0 X1 X2 X3 X4, AnsM r c (r * c) g o = .tuple #[.agg #[.int .i64 X0, .int .i64 X1, .slice X2 X3 X4], .int .i64 E] ∧ ResM E r c v W X0 X1 X2 X3 X4 := by
  unfold AnsM
  rw [finF_V hv]
  by_cases h : finV r c v = true
  · rw [if_pos h] at hE
    subst hE
    rw [if_pos h, if_pos h]
    exact ⟨_, _, _, _, _, rfl, Or.inl ⟨rfl, rfl, rfl, rfl, rfl, g, o, rfl, hf, hv, by rw [finF_V hv]; exact h⟩⟩
  · rw [if_neg h] at hE
    subst hE
    rw [if_neg h, if_neg h]
    exact ⟨_, _, _, _, _, rfl, Or.inr ⟨by decide, rfl, rfl, rfl, rfl, rfl⟩⟩
theorem res_non (r c : Nat) (v : Nat → Nat → Nat) (E : Int) (W : World) (hE : E ≠ 0) : ∃ X0 X1 X2 X3 X4, NonM E = .tuple #[.agg #[.int .i64 X0, .int .i64 X1, .slice X2 X3 X4], .int .i64 E] ∧ ResM E r c v W X0 X1 X2 X3 X4 := ⟨_, _, _, _, _, rfl, Or.inr ⟨hE, rfl, rfl, rfl, rfl, rfl⟩⟩
theorem Mul_res (r c r2 c2 n n2 : Nat) (sa sb : Option Addr) (ka kb : Nat) (f f2 : Nat → Nat) (v : Nat → Nat → Nat) (w : World) (ha : Gd w r c sa n ka f) (hb : Gd w r2 c2 sb n2 kb f2) (hv : c = r2 → ∀ i j, i < r → j < c2 → dotM (fun k => f (i * c + k)) (fun k => f2 (k * c2 + j)) c = v i j) :
    Calls Try.prog 14 #[.agg #[.int .i64 r, .int .i64 c, .slice sa n ka], .agg #[.int .i64 r2, .int .i64 c2, .slice sb n2 kb]] w fun e w' => (∃ X0 X1 X2 X3 X4, e = .returned (.tuple #[.agg #[.int .i64 X0, .int .i64 X1, .slice X2 X3 X4], .int .i64 (mulE r c r2 c2 v)]) ∧ ResM (mulE r c r2 c2 v) r c2 v w' X0 X1 X2 X3 X4) ∧ Below w.heap.size w w' := by
  by_cases hs : c = r2
  · refine (Mul_ok r c r2 c2 n n2 sa sb ka kb f f2 w ha hb hs).mono ?_
    rintro e w' ⟨⟨g, o, rfl, hf, hv2⟩, hbb⟩
    obtain ⟨X0, X1, X2, X3, X4, h1, h2⟩ := res_of r c2 g o v (mulE r c r2 c2 v) w' (by unfold mulE; rw [if_neg (fun h => h hs)]) hf (fun i j hi hj => (hv2 i j hi hj).trans (hv hs i j hi hj))
    exact ⟨⟨X0, X1, X2, X3, X4, by rw [h1], h2⟩, hbb⟩
  · refine (Mul_shape r c r2 c2 n n2 sa sb ka kb f f2 w ha hb hs).mono ?_
    rintro e w' ⟨rfl, hbb⟩
    have e3 : mulE r c r2 c2 v = 3 := by unfold mulE; rw [if_pos hs]
    obtain ⟨X0, X1, X2, X3, X4, h1, h2⟩ := res_non r c2 v (mulE r c r2 c2 v) w' (by rw [e3]; decide)
    exact ⟨⟨X0, X1, X2, X3, X4, by rw [← h1, e3], h2⟩, hbb⟩
theorem gd_zero (W : World) : Gd W 0 0 none 0 0 (fun _ => 0) := ⟨by decide, by decide, rfl, Or.inl ⟨rfl, rfl, rfl⟩, rfl⟩
/-- Two that were handed back with the same numbers. -/
theorem alike_res (r c : Nat) (v v2 : Nat → Nat → Nat) (X0 X1 Y0 Y1 : Int) (X2 Y2 : Option Addr) (X3 X4 Y3 Y4 : Nat) (w : World) (h : ResM 0 r c v w X0 X1 X2 X3 X4) (h2 : ResM 0 r c v2 w Y0 Y1 Y2 Y3 Y4) (he : ∀ i j, i < r → j < c → v i j = v2 i j) :
    Calls Try.prog 11 #[.agg #[.int .i64 X0, .int .i64 X1, .slice X2 X3 X4], .agg #[.int .i64 Y0, .int .i64 Y1, .slice Y2 Y3 Y4]] w fun e w' => e = .returned (.bool true) ∧ Below w.heap.size w w' := by
  rcases h with ⟨_, rfl, rfl, rfl, rfl, g, o, rfl, hf, hv, _⟩ | ⟨h0, _⟩
  · rcases h2 with ⟨_, rfl, rfl, rfl, rfl, g', o', rfl, hf', hv', _⟩ | ⟨h0, _⟩
    · refine alike_yes r c _ _ (r * c) (r * c) (r * c) o o' w hf hf' (fun k hk => ?_)
      obtain ⟨q1, q2, q3⟩ := split_k hk
      rw [← q3, hv _ _ q1 q2, hv' _ _ q1 q2, he _ _ q1 q2]
    · exact absurd rfl h0
  · exact absurd rfl h0
theorem gd_of {r c : Int} {n : Nat} {sa : Option Addr} {ka : Nat} {xs : List Nat} {w : World} (ha : FlM w sa n ka xs) (h : chkM r c n xs = 0) : ∃ a b : Nat, r = a ∧ c = b ∧ Gd w a b sa n ka (fun j => xs.getD j 0) := by
  obtain ⟨a, b, rfl, rfl, h1, h2, h3, h4⟩ := chk_some h
  refine ⟨a, b, rfl, rfl, h1, h2, h3, ha.fn, ?_⟩
  unfold finF
  rw [show (List.range n).map (fun j => xs.getD j 0) = xs from by
    have := ha.1
    apply List.ext_getElem?
    intro i
    by_cases hi : i < n
    · rw [List.getElem?_map, List.getElem?_range hi, List.getElem?_eq_getElem (by omega)]
      simp [List.getD_eq_getElem?_getD, List.getElem?_eq_getElem (show i < xs.length by omega)]
    · rw [List.getElem?_eq_none (by simp; omega), List.getElem?_eq_none (by omega)]]
  exact h4
theorem gd_sto {W : World} {r c n cap : Nat} {sa : Option Addr} {f : Nat → Nat} (h : Gd W r c sa n cap f) {b : Nat} {r1 c1 r0 c0 : Int} {s1 s0 : Option Addr} {n1 k1 n0 k0 : Nat} (hb : W.heap[b]? = some (MBox r0 c0 s0 n0 k0)) : Gd (StoM W b r1 c1 s1 n1 k1) r c sa n cap f := ⟨h.1, h.2.1, h.2.2.1, StoM.fn h.2.2.2.1 hb, h.2.2.2.2⟩
end Go.Proofs.Ytehgiegmdpaomaa

namespace Go.Proofs.Ytehgiegmdpaomaa
open Go.RowKit Go.IntWalk

/-- Whether numbers are alike, place by place. -/
def eqF (n : Nat) (f g : Nat → Nat) : Bool := (List.range n).all fun k => canonOf (f k) == canonOf (g k)
theorem eqF_iff (n : Nat) (f g : Nat → Nat) : eqF n f g = true ↔ ∀ k, k < n → canonOf (f k) = canonOf (g k) := by
  unfold eqF
  rw [List.all_eq_true]
  constructor
  · intro h k hk
    simpa using h k (List.mem_range.2 hk)
  · intro h k hk
    simpa using h k (List.mem_range.1 hk)
theorem eqF_no {n : Nat} {f g : Nat → Nat} {k : Nat} (hk : k < n) (h : ¬ canonOf (f k) = canonOf (g k)) : eqF n f g = false := by
  cases hc : eqF n f g with
  | false => rfl
  | true => exact absurd ((eqF_iff n f g).1 hc k hk) h
set_option maxHeartbeats 2000000 in
theorem Equal_any (r c : Int) (sa sb : Option Addr) (n ca cb : Nat) (f g : Nat → Nat) (w : World) (ha : FnM w sa n ca f) (hb : FnM w sb n cb g) :
    Calls Try.prog 17 #[MV r c sa n ca, MV r c sb n cb] w fun e w' => e = .returned (.bool (eqF n f g)) ∧ Below w.heap.size w w' := by
  obtain ⟨t1, t2, t3, t4⟩ := two_b w (MBox r c sa n ca) (MBox r c sb n cb)
  have hne : ((n : Int) != (n : Int)) = false := by simp
  have hnr : ((r : Int) != (r : Int)) = false := by simp
  have hnc : ((c : Int) != (c : Int)) = false := by simp
  have HA := hid (ha.below t3)
  have HB := hid (hb.below t3)
  obtain ⟨V, hV⟩ : ∃ V, Hid ((w.alloc (MBox r c sa n ca)).alloc (MBox r c sb n cb) = V) := ⟨_, rfl⟩
  rw [hV.out] at HA HB t1 t2 t3 t4
  have hV' := hV.out
  have HBV := hid t3
  have HA0 := hid t1
  have HA1 := hid t2
  obtain ⟨x0, x1, x2⟩ := mcells_of t1
  obtain ⟨v0, v1, v2⟩ := mcells_of t2
  unfold MBox at hV'
  unfold MV
  clear t1 t2 t3 t4 ha hb
  go_enter Try.func17, Try.ntmps17
  go_wp2_with fail
  have HF0 : Hid (Fr3 V V w.heap.size (w.heap.size + 1) (MBox r c sa n ca) (MBox r c sb n cb)) := ⟨Below.refl _ _, HA0.out, HA1.out⟩
  go_loopw [30] (fun iv wr => ∃ k : Nat, k ≤ n ∧ iv = .int .i64 k ∧ Hid (Fr3 V wr w.heap.size (w.heap.size + 1) (MBox r c sa n ca) (MBox r c sb n cb)) ∧ Hid (∀ j, j < k → canonOf (f j) = canonOf (g j))) (fun iv _ => n - (intOf iv).toNat)
  case atStart => exact ⟨0, Nat.zero_le _, rfl, HF0, fun j hj => absurd hj (Nat.not_lt_zero j)⟩
  case round =>
    obtain ⟨k, hk, rfl, HFW, HP⟩ := hrel
    by_cases hlt : k < n
    · rcases HA.out with ⟨_, h2, _⟩ | ⟨b, off, rfl, q1, _, _, q4⟩
      · omega
      rcases HB.out with ⟨_, h2, _⟩ | ⟨b2, off2, rfl, q5, _, _, q8⟩
      · omega
      have HKS : Hid (∀ W, Hid (Fr3 V W w.heap.size (w.heap.size + 1) (MBox r c (some ⟨b, off, none⟩) n ca) (MBox r c (some ⟨b2, off2, none⟩) n cb)) → (W.cell? ⟨b, off + k, none⟩ = some (.float .f64 (f k)) ∧ W.cell? ⟨b2, off2 + k, none⟩ = some (.float .f64 (g k)) ∧ W.cell? ⟨w.heap.size, 2, none⟩ = some (.slice (some ⟨b, off, none⟩) n ca) ∧ W.cell? ⟨w.heap.size + 1, 2, none⟩ = some (.slice (some ⟨b2, off2, none⟩) n cb)) ∧ Hid (Fr3 V W w.heap.size (w.heap.size + 1) (MBox r c (some ⟨b, off, none⟩) n ca) (MBox r c (some ⟨b2, off2, none⟩) n cb))) := fun W hW => ⟨⟨(hW.out.1.cell (p := ⟨b, off + k, none⟩) q1).trans (q4 k hlt).1, (hW.out.1.cell (p := ⟨b2, off2 + k, none⟩) q5).trans (q8 k hlt).1, (mcells_of hW.out.2.1).2.2, (mcells_of hW.out.2.2).2.2⟩, hW⟩
      by_cases heq : canonOf (f k) = canonOf (g k)
      · have HSM : Hid (∀ W, Calls Try.prog 45 #[.float .f64 (f k), .float .f64 (g k)] W fun e w' => e = .returned (.bool true) ∧ Below W.heap.size W w') := fun W => by
          have := Same_any (f k) (g k) W (q4 k hlt).2 (q8 k hlt).2
          rw [show (canonOf (f k) == canonOf (g k)) = true by simpa using heq] at this
          exact this
        obtain ⟨x, hxx⟩ : ∃ x, Hid (f k = x) := ⟨_, rfl⟩
        obtain ⟨y, hyy⟩ : ∃ y, Hid (g k = y) := ⟨_, rfl⟩
        have HEQ := hid heq
        rw [hxx.out, hyy.out] at HKS
        rw [hxx.out, hyy.out] at HSM
        have hkI : (k : Int) < (n : Int) := by omega
        have hk0 : (0 : Int) ≤ (k : Int) := by omega
        have HQ0 : Hid (Fr3 V wr.drew w.heap.size (w.heap.size + 1) (MBox r c (some ⟨b, off, none⟩) n ca) (MBox r c (some ⟨b2, off2, none⟩) n cb)) := HFW.out.drew
        have HK := hid hlt
        clear q1 q4 q5 q8 hlt heq
        go_wp2_with fail
        refine wp_region_held_drew (S := fun W => (W.cell? ⟨b, off + k, none⟩ = some (.float .f64 x) ∧ W.cell? ⟨b2, off2 + k, none⟩ = some (.float .f64 y) ∧ W.cell? ⟨w.heap.size, 2, none⟩ = some (.slice (some ⟨b, off, none⟩) n ca) ∧ W.cell? ⟨w.heap.size + 1, 2, none⟩ = some (.slice (some ⟨b2, off2, none⟩) n cb)) ∧ Hid (Fr3 V W w.heap.size (w.heap.size + 1) (MBox r c (some ⟨b, off, none⟩) n ca) (MBox r c (some ⟨b2, off2, none⟩) n cb))) (by kernel_rfl) (HKS.out _ HQ0) (fun hHeld => ?_)
        refine take_at 0 33 (.pointer (some ⟨w.heap.size, 2, none⟩)) rfl rfl (by kernel_rfl) (by kernel_rfl) (by kernel_rfl) (fun _ _ _ h => h) (Or.inl ⟨by rfl, fun w hSw => by (try dsimp only at hSw); go_simp⟩) (by assumption) ?_
        simp only [Act.put, List.setIfInBounds_toArray, List.set_cons_zero, List.set_cons_succ]
        refine take_at 1 34 (.slice (some ⟨b, off, none⟩) n ca) rfl rfl (by kernel_rfl) (by kernel_rfl) (by kernel_rfl) (fun _ _ _ h => h) (Or.inl ⟨by rfl, fun w hSw => by (try dsimp only at hSw); go_simp⟩) (by assumption) ?_
        simp only [Act.put, List.setIfInBounds_toArray, List.set_cons_zero, List.set_cons_succ]
        refine take_at 2 35 (.int .i64 k) rfl rfl (by kernel_rfl) (by kernel_rfl) (by kernel_rfl) (fun _ _ _ h => h) (Or.inl ⟨by rfl, fun w hSw => by (try dsimp only at hSw); go_simp⟩) (by assumption) ?_
        simp only [Act.put, List.setIfInBounds_toArray, List.set_cons_zero, List.set_cons_succ]
        refine take_at 3 36 (.pointer (some ⟨b, off + k, none⟩)) rfl rfl (by kernel_rfl) (by kernel_rfl) (by kernel_rfl) (fun _ _ _ h => h) (Or.inl ⟨by rfl, fun w hSw => by (try dsimp only at hSw); go_simp⟩) (by assumption) ?_
        simp only [Act.put, List.setIfInBounds_toArray, List.set_cons_zero, List.set_cons_succ]
        refine take_at 4 37 (.float .f64 x) rfl rfl (by kernel_rfl) (by kernel_rfl) (by kernel_rfl) (fun _ _ _ h => h) (Or.inl ⟨by rfl, fun w hSw => by (try dsimp only at hSw); go_simp⟩) (by assumption) ?_
        simp only [Act.put, List.setIfInBounds_toArray, List.set_cons_zero, List.set_cons_succ]
        refine take_at 5 38 (.pointer (some ⟨w.heap.size + 1, 2, none⟩)) rfl rfl (by kernel_rfl) (by kernel_rfl) (by kernel_rfl) (fun _ _ _ h => h) (Or.inl ⟨by rfl, fun w hSw => by (try dsimp only at hSw); go_simp⟩) (by assumption) ?_
        simp only [Act.put, List.setIfInBounds_toArray, List.set_cons_zero, List.set_cons_succ]
        refine take_at 6 39 (.slice (some ⟨b2, off2, none⟩) n cb) rfl rfl (by kernel_rfl) (by kernel_rfl) (by kernel_rfl) (fun _ _ _ h => h) (Or.inl ⟨by rfl, fun w hSw => by (try dsimp only at hSw); go_simp⟩) (by assumption) ?_
        simp only [Act.put, List.setIfInBounds_toArray, List.set_cons_zero, List.set_cons_succ]
        refine take_at 7 40 (.int .i64 k) rfl rfl (by kernel_rfl) (by kernel_rfl) (by kernel_rfl) (fun _ _ _ h => h) (Or.inl ⟨by rfl, fun w hSw => by (try dsimp only at hSw); go_simp⟩) (by assumption) ?_
        simp only [Act.put, List.setIfInBounds_toArray, List.set_cons_zero, List.set_cons_succ]
        refine take_at 8 41 (.pointer (some ⟨b2, off2 + k, none⟩)) rfl rfl (by kernel_rfl) (by kernel_rfl) (by kernel_rfl) (fun _ _ _ h => h) (Or.inl ⟨by rfl, fun w hSw => by (try dsimp only at hSw); go_simp⟩) (by assumption) ?_
        simp only [Act.put, List.setIfInBounds_toArray, List.set_cons_zero, List.set_cons_succ]
        refine take_at 9 42 (.float .f64 y) rfl rfl (by kernel_rfl) (by kernel_rfl) (by kernel_rfl) (fun _ _ _ h => h) (Or.inl ⟨by rfl, fun w hSw => by (try dsimp only at hSw); go_simp⟩) (by assumption) ?_
        simp only [Act.put, List.setIfInBounds_toArray, List.set_cons_zero, List.set_cons_succ]
        refine wpAnyH_ready (rs := [10]) (by kernel_rfl) (by simp) ?_
        refine AllReadyH.cons (o := _) rfl (fun K hK => ?_) AllReadyH.nil
        go_simp
        refine (HSM.out _).mono ?_
        rintro e u1 ⟨rfl, hb1⟩
        have HG1 := hid (HQ0.out.call hb1)
        clear hb1
        go_wp2_with fail
        refine hK.out _ _ (HKS.out _ HG1) (fun hHeld1 => ?_)
        clear hK K
        try simp only [Act.put, List.setIfInBounds_toArray, List.set_cons_zero, List.set_cons_succ]
        refine take_at 11 44 (.bool false) rfl rfl (by kernel_rfl) (by kernel_rfl) (by kernel_rfl) (fun _ _ _ h => h) (Or.inl ⟨by rfl, fun w hSw => by (try dsimp only at hSw); go_simp⟩) (by assumption) ?_
        simp only [Act.put, List.setIfInBounds_toArray, List.set_cons_zero, List.set_cons_succ]
        refine wpAnyH_done (by kernel_rfl) ?_ _
        go_wp2_with fail
        have hk1 := HK.out
        refine ⟨⟨k + 1, by omega, by go_num, HG1, fun j hj => ?_⟩, ?_⟩
        · by_cases hjk : j = k
          · rw [hjk]; exact HEQ.out
          · exact HP.out j (by omega)
        · simp [intOf]; omega
      · have HSM : Hid (∀ W, Calls Try.prog 45 #[.float .f64 (f k), .float .f64 (g k)] W fun e w' => e = .returned (.bool false) ∧ Below W.heap.size W w') := fun W => by
          have := Same_any (f k) (g k) W (q4 k hlt).2 (q8 k hlt).2
          rw [show (canonOf (f k) == canonOf (g k)) = false by simpa using heq] at this
          exact this
        obtain ⟨x, hxx⟩ : ∃ x, Hid (f k = x) := ⟨_, rfl⟩
        obtain ⟨y, hyy⟩ : ∃ y, Hid (g k = y) := ⟨_, rfl⟩
        have HEQ := hid heq
        rw [hxx.out, hyy.out] at HKS
        rw [hxx.out, hyy.out] at HSM
        have hkI : (k : Int) < (n : Int) := by omega
        have hk0 : (0 : Int) ≤ (k : Int) := by omega
        have HQ0 : Hid (Fr3 V wr.drew w.heap.size (w.heap.size + 1) (MBox r c (some ⟨b, off, none⟩) n ca) (MBox r c (some ⟨b2, off2, none⟩) n cb)) := HFW.out.drew
        have HK := hid hlt
        clear q1 q4 q5 q8 hlt heq
        go_wp2_with fail
        refine wp_region_held_drew (S := fun W => (W.cell? ⟨b, off + k, none⟩ = some (.float .f64 x) ∧ W.cell? ⟨b2, off2 + k, none⟩ = some (.float .f64 y) ∧ W.cell? ⟨w.heap.size, 2, none⟩ = some (.slice (some ⟨b, off, none⟩) n ca) ∧ W.cell? ⟨w.heap.size + 1, 2, none⟩ = some (.slice (some ⟨b2, off2, none⟩) n cb)) ∧ Hid (Fr3 V W w.heap.size (w.heap.size + 1) (MBox r c (some ⟨b, off, none⟩) n ca) (MBox r c (some ⟨b2, off2, none⟩) n cb))) (by kernel_rfl) (HKS.out _ HQ0) (fun hHeld => ?_)
        refine take_at 0 33 (.pointer (some ⟨w.heap.size, 2, none⟩)) rfl rfl (by kernel_rfl) (by kernel_rfl) (by kernel_rfl) (fun _ _ _ h => h) (Or.inl ⟨by rfl, fun w hSw => by (try dsimp only at hSw); go_simp⟩) (by assumption) ?_
        simp only [Act.put, List.setIfInBounds_toArray, List.set_cons_zero, List.set_cons_succ]
        refine take_at 1 34 (.slice (some ⟨b, off, none⟩) n ca) rfl rfl (by kernel_rfl) (by kernel_rfl) (by kernel_rfl) (fun _ _ _ h => h) (Or.inl ⟨by rfl, fun w hSw => by (try dsimp only at hSw); go_simp⟩) (by assumption) ?_
        simp only [Act.put, List.setIfInBounds_toArray, List.set_cons_zero, List.set_cons_succ]
        refine take_at 2 35 (.int .i64 k) rfl rfl (by kernel_rfl) (by kernel_rfl) (by kernel_rfl) (fun _ _ _ h => h) (Or.inl ⟨by rfl, fun w hSw => by (try dsimp only at hSw); go_simp⟩) (by assumption) ?_
        simp only [Act.put, List.setIfInBounds_toArray, List.set_cons_zero, List.set_cons_succ]
        refine take_at 3 36 (.pointer (some ⟨b, off + k, none⟩)) rfl rfl (by kernel_rfl) (by kernel_rfl) (by kernel_rfl) (fun _ _ _ h => h) (Or.inl ⟨by rfl, fun w hSw => by (try dsimp only at hSw); go_simp⟩) (by assumption) ?_
        simp only [Act.put, List.setIfInBounds_toArray, List.set_cons_zero, List.set_cons_succ]
        refine take_at 4 37 (.float .f64 x) rfl rfl (by kernel_rfl) (by kernel_rfl) (by kernel_rfl) (fun _ _ _ h => h) (Or.inl ⟨by rfl, fun w hSw => by (try dsimp only at hSw); go_simp⟩) (by assumption) ?_
        simp only [Act.put, List.setIfInBounds_toArray, List.set_cons_zero, List.set_cons_succ]
        refine take_at 5 38 (.pointer (some ⟨w.heap.size + 1, 2, none⟩)) rfl rfl (by kernel_rfl) (by kernel_rfl) (by kernel_rfl) (fun _ _ _ h => h) (Or.inl ⟨by rfl, fun w hSw => by (try dsimp only at hSw); go_simp⟩) (by assumption) ?_
        simp only [Act.put, List.setIfInBounds_toArray, List.set_cons_zero, List.set_cons_succ]
        refine take_at 6 39 (.slice (some ⟨b2, off2, none⟩) n cb) rfl rfl (by kernel_rfl) (by kernel_rfl) (by kernel_rfl) (fun _ _ _ h => h) (Or.inl ⟨by rfl, fun w hSw => by (try dsimp only at hSw); go_simp⟩) (by assumption) ?_
        simp only [Act.put, List.setIfInBounds_toArray, List.set_cons_zero, List.set_cons_succ]
        refine take_at 7 40 (.int .i64 k) rfl rfl (by kernel_rfl) (by kernel_rfl) (by kernel_rfl) (fun _ _ _ h => h) (Or.inl ⟨by rfl, fun w hSw => by (try dsimp only at hSw); go_simp⟩) (by assumption) ?_
        simp only [Act.put, List.setIfInBounds_toArray, List.set_cons_zero, List.set_cons_succ]
        refine take_at 8 41 (.pointer (some ⟨b2, off2 + k, none⟩)) rfl rfl (by kernel_rfl) (by kernel_rfl) (by kernel_rfl) (fun _ _ _ h => h) (Or.inl ⟨by rfl, fun w hSw => by (try dsimp only at hSw); go_simp⟩) (by assumption) ?_
        simp only [Act.put, List.setIfInBounds_toArray, List.set_cons_zero, List.set_cons_succ]
        refine take_at 9 42 (.float .f64 y) rfl rfl (by kernel_rfl) (by kernel_rfl) (by kernel_rfl) (fun _ _ _ h => h) (Or.inl ⟨by rfl, fun w hSw => by (try dsimp only at hSw); go_simp⟩) (by assumption) ?_
        simp only [Act.put, List.setIfInBounds_toArray, List.set_cons_zero, List.set_cons_succ]
        refine wpAnyH_ready (rs := [10]) (by kernel_rfl) (by simp) ?_
        refine AllReadyH.cons (o := _) rfl (fun K hK => ?_) AllReadyH.nil
        go_simp
        refine (HSM.out _).mono ?_
        rintro e u1 ⟨rfl, hb1⟩
        have HG1 := hid (HQ0.out.call hb1)
        clear hb1
        go_wp2_with fail
        refine hK.out _ _ (HKS.out _ HG1) (fun hHeld1 => ?_)
        clear hK K
        try simp only [Act.put, List.setIfInBounds_toArray, List.set_cons_zero, List.set_cons_succ]
        refine take_at 11 44 (.bool true) rfl rfl (by kernel_rfl) (by kernel_rfl) (by kernel_rfl) (fun _ _ _ h => h) (Or.inl ⟨by rfl, fun w hSw => by (try dsimp only at hSw); go_simp⟩) (by assumption) ?_
        simp only [Act.put, List.setIfInBounds_toArray, List.set_cons_zero, List.set_cons_succ]
        refine wpAnyH_done (by kernel_rfl) ?_ _
        go_wp2_with fail
        go_ret
        exact ⟨ret_bool (eqF_no HK.out HEQ.out).symm, HBV.out.trans (HG1.out.1.mono HBV.out.size)⟩
    · obtain rfl : k = n := by omega
      go_wp2_with fail
      go_ret
      exact ⟨ret_bool ((eqF_iff _ f g).2 HP.out).symm, HBV.out.trans (HFW.out.1.mono HBV.out.size)⟩
end Go.Proofs.Ytehgiegmdpaomaa
