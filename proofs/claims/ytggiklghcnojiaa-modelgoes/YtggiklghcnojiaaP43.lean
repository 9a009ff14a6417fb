
/- The blocks of the parts, laid in a matrix (plain). -/
import Derived.Test.YtggiklghcnojiaaP41
import Derived.Test.YtggiklghcnojiaaP42
namespace Go.Proofs.Ytggiklghcnojiaa
open Go.RowKit Go.IntWalk

def blF (k : Int) (f d : Nat) : List Nat := if k = 0 then [4607182418800017408] else if k = 1 then [4607182418800017408] else if k = 2 then [4607182418800017408, d, 0, 4607182418800017408] else if k = 3 then [4607182418800017408, d, (qd d), 0, 4607182418800017408, d, 0, 0, 4607182418800017408] else [(vfo f d)]
def blQ (k : Int) (n d : Nat) : List Nat := if k = 0 then [0] else if k = 1 then [(va n d)] else if k = 2 then [(qc n d), (qb n d), (qb n d), (va n d)] else if k = 3 then [(qg n d), (qf n d), (qe n d), (qf n d), (qc n d), (qb n d), (qe n d), (qb n d), (va n d)] else [(va n d)]
def blG (k : Int) (n d : Nat) : List Nat := if k = 0 then [0] else if k = 1 then [(vs n d)] else if k = 2 then [(g1 n d), 0, (g2 n d), (g3 n d)] else if k = 3 then [(h1 n d), 0, 0, (h2 n d), (h3 n d), 0, (h4 n d), (h5 n d), (h6 n d)] else [(vs n d)]
/-- A part's block: of F, Q, G. -/
def bl (u : Nat) (k : Int) (n f d : Nat) : List Nat := if u = 0 then blF k f d else if u = 1 then blQ k n d else blG k n d
theorem szK_cases {k : Int} (h : szK k ≠ 0) : k = 0 ∨ k = 1 ∨ k = 2 ∨ k = 3 ∨ k = 4 := by
  unfold szK at h
  split at h
  · omega
  · split at h
    · omega
    · split at h
      · omega
      · exact absurd rfl h
theorem bl_len (u : Nat) (k : Int) (n f d : Nat) (h : szK k ≠ 0) : (bl u k n f d).length = (szK k).toNat * (szK k).toNat := by
  unfold bl
  rcases szK_cases h with rfl | rfl | rfl | rfl | rfl <;> (split <;> try split) <;> rfl
/-- A number that is finite. -/
def gdW (x : Nat) : Prop := x < 18446744073709551616 ∧ (expOf x == 2047) = false
theorem gd_lt {x : Nat} (h1 : x < 18446744073709551616) (h2 : x % 9223372036854775808 < 9218868437227405312) : gdW x := by
  refine ⟨h1, ?_⟩
  rw [beq_eq_false_iff_ne]
  unfold expOf canonOf
  rw [if_neg (by omega)]
  omega
theorem up_gd {x a : Nat} (h : Up x a) (ha : a ≤ 2046) : gdW x := gd_lt (h.fin ha).1 (h.fin ha).2
theorem gdz : gdW 0 := gd_lt (by decide) (by decide)
theorem gdn : gdW 4607182418800017408 := gd_lt (by decide) (by decide)
theorem all1 {p : Nat → Prop} {a : Nat} (h : p a) : ∀ x ∈ [a], p x := List.forall_mem_cons.2 ⟨h, fun _ h => absurd h List.not_mem_nil⟩
theorem all4 {p : Nat → Prop} {a b c d : Nat} (h1 : p a) (h2 : p b) (h3 : p c) (h4 : p d) : ∀ x ∈ [a, b, c, d], p x := List.forall_mem_cons.2 ⟨h1, List.forall_mem_cons.2 ⟨h2, List.forall_mem_cons.2 ⟨h3, all1 h4⟩⟩⟩
theorem all9 {p : Nat → Prop} {a b c d e f g h i : Nat} (h1 : p a) (h2 : p b) (h3 : p c) (h4 : p d) (h5 : p e) (h6 : p f) (h7 : p g) (h8 : p h) (h9 : p i) : ∀ x ∈ [a, b, c, d, e, f, g, h, i], p x := List.forall_mem_cons.2 ⟨h1, List.forall_mem_cons.2 ⟨h2, List.forall_mem_cons.2 ⟨h3, List.forall_mem_cons.2 ⟨h4, List.forall_mem_cons.2 ⟨h5, all4 h6 h7 h8 h9⟩⟩⟩⟩⟩
theorem bl_gd (u : Nat) (k : Int) (n f d : Nat) (hn : Up n 1123) (hf : Up f 1123) (hd : Up d 1073) (d0 : d < 9223372036854775808) : ∀ x ∈ bl u k n f d, gdW x := by
  have b0 := gdz
  have b1 := gdn
  have b2 := up_gd hd (by decide)
  have b3 := up_gd (is_qd hd d0).2 (by decide)
  have b4 := up_gd (is_vfo hf hd d0).2 (by decide)
  have c1 := up_gd (is_va hn hd d0).2 (by decide)
  have c2 := up_gd (is_qb hn hd d0).2 (by decide)
  have c3 := up_gd (is_qc hn hd d0).2 (by decide)
  have c4 := up_gd (is_qe hn hd d0).2 (by decide)
  have c5 := up_gd (is_qf hn hd d0).2 (by decide)
  have c6 := up_gd (is_qg hn hd d0).2 (by decide)
  have e0 := up_gd (is_vs hn hd d0).2 (by decide)
  have e1 := up_gd (is_g1 hn hd d0).2 (by decide)
  have e2 := up_gd (is_g2 hn hd d0).2 (by decide)
  have e3 := up_gd (is_g3 hn hd d0).2 (by decide)
  have f1 := up_gd (is_h1 hn hd d0).2 (by decide)
  have f2 := up_gd (is_h2 hn hd d0).2 (by decide)
  have f3 := up_gd (is_h3 hn hd d0).2 (by decide)
  have f4 := up_gd (is_h4 hn hd d0).2 (by decide)
  have f5 := up_gd (is_h5 hn hd d0).2 (by decide)
  have f6 := up_gd (is_h6 hn hd d0).2 (by decide)
  clear hn hf hd d0
  unfold bl
  split
  · unfold blF
    split
    · exact all1 b1
    · split
      · exact all1 b1
      · split
        · exact all4 b1 b2 b0 b1
        · split
          · exact all9 b1 b2 b3 b0 b1 b2 b0 b0 b1
          · exact all1 b4
  · split
    · unfold blQ
      split
      · exact all1 b0
      · split
        · exact all1 c1
        · split
          · exact all4 c3 c2 c2 c1
          · split
            · exact all9 c6 c5 c4 c5 c3 c2 c4 c2 c1
            · exact all1 c1
    · unfold blG
      split
      · exact all1 b0
      · split
        · exact all1 e0
        · split
          · exact all4 e1 b0 e2 e3
          · split
            · exact all9 f1 b0 b0 f2 f3 b0 f4 f5 f6
            · exact all1 e0
theorem flt_up {x : Nat} (hx : x < 18446744073709551616) (hf : (expOf x == 2047) = false) (h : ¬ fltB x = true) : Up x 1123 := by
  have hn : ¬ 9218868437227405312 < x % 9223372036854775808 := fun h => by
    unfold expOf canonOf at hf
    rw [if_pos h] at hf
    exact absurd hf (by decide)
  rw [flt_iff] at h
  rw [order_eq x 0 hx (by decide) (by omega) (by decide), order_eq x 5057542381537067008 hx (by decide) (by omega) (by decide)] at h
  have h1 : ¬ sv x < sv 0 := fun c => h (Or.inl (by congr 1; exact cmp_lt c))
  have h2 : ¬ sv 5057542381537067008 < sv x := fun c => h (Or.inr (by congr 1; exact cmp_gt c))
  have e0 : sv 0 = 0 := by decide
  have e1 : sv 5057542381537067008 = (nv 5057542381537067008 : Int) := svE_mag _ (by decide)
  rw [e0] at h1
  rw [e1] at h2
  by_cases hs : 9223372036854775808 ≤ x
  · have h3 : sv x = -(nv (x % 9223372036854775808) : Int) := by unfold sv; rw [if_pos hs]
    rw [h3] at h1
    have h4 : nv (x % 9223372036854775808) = 0 := by omega
    have h5 : x % 9223372036854775808 = 0 := by
      by_cases h6 : x % 9223372036854775808 = 0
      · exact h6
      · have := nv_lt (r := 0) (s := x % 9223372036854775808) (by omega)
        omega
    exact ⟨hx, by rw [h5]; exact Nat.zero_le _, Or.inr (by omega)⟩
  · have h3 : sv x = (nv x : Int) := svE_mag _ (by omega)
    rw [h3] at h2
    have h4 : x ≤ 5057542381537067008 := by
      by_cases h6 : x ≤ 5057542381537067008
      · exact h6
      · have := nv_lt (r := 5057542381537067008) (s := x) (by omega)
        omega
    refine ⟨hx, ?_, Or.inl (by omega)⟩
    rw [Nat.mod_eq_of_lt (by omega), twoW_h]
    exact h4
theorem pt_up {k a : Int} {n f : Nat} (hN : n < 18446744073709551616) (hF : f < 18446744073709551616) (h : ptE k a n f = 0) : Up n 1123 ∧ Up f 1123 := by
  unfold ptE at h
  split at h
  · exact absurd h (by decide)
  · split at h
    · exact absurd h (by decide)
    · split at h
      · exact absurd h (by decide)
      · rename_i h3
        split at h
        · exact absurd h (by decide)
        · rename_i h4
          rw [fin_two] at h3
          have h5 : (!(expOf n == 2047) && !(expOf f == 2047)) = true := by simpa using h3
          rw [Bool.and_eq_true] at h5
          exact ⟨flt_up hN (by simpa using h5.1) (fun c => h4 (Or.inl c)), flt_up hF (by simpa using h5.2) (fun c => h4 (Or.inr c))⟩
/-- A matrix with the first q numbers of a block laid over it. -/
def pU (M : Nat → Nat → Nat) (f z : Nat) (l : List Nat) (q r c : Nat) : Nat := if f ≤ r ∧ r < f + z ∧ f ≤ c ∧ c < f + z ∧ (r - f) * z + (c - f) < q then l.getD ((r - f) * z + (c - f)) 0 else M r c
theorem pU_zero (M : Nat → Nat → Nat) (f z : Nat) (l : List Nat) : pU M f z l 0 = M := by
  funext r c
  unfold pU
  rw [if_neg (fun h => Nat.not_lt_zero _ h.2.2.2.2)]
theorem pU_gd {M : Nat → Nat → Nat} {f z q : Nat} {l : List Nat} (hM : ∀ r c, gdW (M r c)) (hl : ∀ x ∈ l, gdW x) (r c : Nat) : gdW (pU M f z l q r c) := by
  unfold pU
  split
  · rw [List.getD_eq_getElem?_getD]
    cases h : l[(r - f) * z + (c - f)]? with
    | none => exact gdz
    | some x => exact hl x (List.mem_of_getElem? h)
  · exact hM r c
/-- One number more. -/
theorem pU_one {M : Nat → Nat → Nat} {f z D i j : Nat} {l : List Nat} {o : Nat → Nat} (hfz : f + z ≤ D) (hi : i < z) (hj : j < z) (ho : ∀ r c, r < D → c < D → o (r * D + c) = pU M f z l (i * z + j) r c) : ∀ r c, r < D → c < D → (fun t => if t = (f + i) * D + (f + j) then l.getD (i * z + j) 0 else o t) (r * D + c) = pU M f z l (i * z + j + 1) r c := by
  intro r c hr hc
  show (if r * D + c = (f + i) * D + (f + j) then _ else _) = _
  by_cases h : r * D + c = (f + i) * D + (f + j)
  · obtain ⟨e1, e2⟩ := place_ne hc (show f + j < D by omega) h
    rw [if_pos h]
    unfold pU
    subst e1 e2
    rw [if_pos ⟨by omega, by omega, by omega, by omega, by rw [Nat.add_sub_cancel_left, Nat.add_sub_cancel_left]; omega⟩, Nat.add_sub_cancel_left, Nat.add_sub_cancel_left]
  · rw [if_neg h, ho r c hr hc]
    unfold pU
    by_cases hin : f ≤ r ∧ r < f + z ∧ f ≤ c ∧ c < f + z
    · obtain ⟨a1, a2, a3, a4⟩ := hin
      have hne : (r - f) * z + (c - f) ≠ i * z + j := fun e => by
        obtain ⟨e1, e2⟩ := place_ne (show c - f < z by omega) hj e
        exact h (by rw [show r = f + i by omega, show c = f + j by omega])
      by_cases hq : (r - f) * z + (c - f) < i * z + j
      · rw [if_pos ⟨a1, a2, a3, a4, hq⟩, if_pos ⟨a1, a2, a3, a4, by omega⟩]
      · rw [if_neg (fun e => hq e.2.2.2.2), if_neg (fun e => by have := e.2.2.2.2; omega)]
    · rw [if_neg (fun e => hin ⟨e.1, e.2.1, e.2.2.1, e.2.2.2.1⟩), if_neg (fun e => hin ⟨e.1, e.2.1, e.2.2.1, e.2.2.2.1⟩)]
/-- A row more. -/
theorem pU_row {M : Nat → Nat → Nat} {f z D i : Nat} {l : List Nat} {o : Nat → Nat} (hfz : f + z ≤ D) (hi : i < z) (ho : ∀ r c, r < D → c < D → o (r * D + c) = pU M f z l (i * z) r c) : ∀ r c, r < D → c < D → (fun t => if (f + i) * D + f ≤ t ∧ t < (f + i) * D + f + z then l.getD (i * z + (t - ((f + i) * D + f))) 0 else o t) (r * D + c) = pU M f z l ((i + 1) * z) r c := by
  intro r c hr hc
  show (if (f + i) * D + f ≤ r * D + c ∧ r * D + c < (f + i) * D + f + z then _ else _) = _
  by_cases h : (f + i) * D + f ≤ r * D + c ∧ r * D + c < (f + i) * D + f + z
  · obtain ⟨s, hs⟩ : ∃ s, r * D + c = (f + i) * D + (f + s) := ⟨r * D + c - ((f + i) * D + f), by omega⟩
    have hsz : s < z := by omega
    obtain ⟨e1, e2⟩ := place_ne hc (show f + s < D by omega) hs
    rw [if_pos h]
    unfold pU
    subst e1 e2
    rw [if_pos ⟨by omega, by omega, by omega, by omega, by rw [Nat.add_sub_cancel_left, Nat.add_sub_cancel_left, Nat.add_mul]; omega⟩, Nat.add_sub_cancel_left, Nat.add_sub_cancel_left, show (f + i) * D + (f + s) - ((f + i) * D + f) = s by omega]
  · rw [if_neg h, ho r c hr hc]
    unfold pU
    by_cases hin : f ≤ r ∧ r < f + z ∧ f ≤ c ∧ c < f + z
    · obtain ⟨a1, a2, a3, a4⟩ := hin
      have hne : r - f ≠ i := fun e => h (by
        have : r = f + i := by omega
        subst this
        omega)
      by_cases hq : r - f < i
      · have h1 : (r - f + 1) * z ≤ i * z := Nat.mul_le_mul_right _ hq
        have h2 : i * z ≤ (i + 1) * z := Nat.mul_le_mul_right _ (by omega)
        rw [Nat.add_mul] at h1
        rw [if_pos ⟨a1, a2, a3, a4, by omega⟩, if_pos ⟨a1, a2, a3, a4, by omega⟩]
      · have h1 : (i + 1) * z ≤ (r - f) * z := Nat.mul_le_mul_right _ (by omega)
        have h2 : i * z ≤ (i + 1) * z := Nat.mul_le_mul_right _ (by omega)
        rw [if_neg (fun e => by have := e.2.2.2.2; omega), if_neg (fun e => by have := e.2.2.2.2; omega)]
    · rw [if_neg (fun e => hin ⟨e.1, e.2.1, e.2.2.1, e.2.2.2.1⟩), if_neg (fun e => hin ⟨e.1, e.2.1, e.2.2.1, e.2.2.2.1⟩)]
def fsT (K A : Nat → Int) (e : Nat × Nat) : Nat := (uS (ptS K A) e.1 + (e.2 : Int) * szK (K e.1)).toNat
/-- The blocks of these axes, laid. -/
def mtF (B : Nat → List Nat) (K A : Nat → Int) (M : Nat → Nat → Nat) (e : Nat × Nat) : Nat → Nat → Nat := pU M (fsT K A e) (szK (K e.1)).toNat (B e.1) ((szK (K e.1)).toNat * (szK (K e.1)).toNat)
def mtV (B : Nat → List Nat) (K A : Nat → Int) (L : List (Nat × Nat)) : Nat → Nat → Nat := L.foldl (mtF B K A) (fun _ _ => 0)
theorem mt_snoc (B : Nat → List Nat) (K A : Nat → Int) (L : List (Nat × Nat)) (e : Nat × Nat) : mtV B K A (L ++ [e]) = mtF B K A (mtV B K A L) e := by
  unfold mtV
  rw [List.foldl_append]
  rfl
theorem mt_take (B : Nat → List Nat) (K A : Nat → Int) (L : List (Nat × Nat)) (t : Nat) (ht : t < L.length) : mtV B K A (L.take (t + 1)) = mtF B K A (mtV B K A (L.take t)) L[t] := by
  rw [← mt_snoc, List.take_add_one, List.getElem?_eq_getElem ht]
  rfl
theorem mt_gd {B : Nat → List Nat} {K A : Nat → Int} {L : List (Nat × Nat)} (hB : ∀ e ∈ L, ∀ x ∈ B e.1, gdW x) (r c : Nat) : gdW (mtV B K A L r c) := by
  have key : ∀ (L : List (Nat × Nat)) (M : Nat → Nat → Nat), (∀ r c, gdW (M r c)) → (∀ e ∈ L, ∀ x ∈ B e.1, gdW x) → ∀ r c, gdW (L.foldl (mtF B K A) M r c) := by
    intro L
    induction L with
    | nil => intro M hM _ r c; exact hM r c
    | cons e L ih =>
      intro M hM h r c
      exact ih (mtF B K A M e) (fun r c => pU_gd hM (h e (List.mem_cons_self ..)) r c) (fun e' he => h e' (List.mem_cons_of_mem _ he)) r c
  exact key L _ (fun _ _ => gdz) hB r c
/-- What is handed back. -/
theorem mt_res {D g Q : Nat} {M : Nat → Nat → Nat} {W : World} {o : Nat → Nat} (hD : D ≤ 12) (hQ : D * D = Q) (hr : W.rowIs g 38 Q (fun k => .float .f64 (o k))) (ho : ∀ i j, i < D → j < D → o (i * D + j) = M i j) (hg : ∀ r c, gdW (M r c)) : ResM 0 D D (fun i j => canonOf (M i j)) W D D (some ⟨g, 0, none⟩) Q Q := by
  subst hQ
  have hN : D * D ≤ 12 * 12 := Nat.mul_le_mul hD hD
  refine Or.inl ⟨rfl, rfl, rfl, rfl, rfl, g, o, rfl, row_fn hr (fun k hk => ?_) (by omega), fun i j hi hj => ?_, finF_of (fun k hk => ?_)⟩
  · obtain ⟨q1, q2, q3⟩ := split_k hk
    rw [← q3, ho _ _ q1 q2]; exact (hg _ _).1
  · show canonOf (o (i * D + j)) = canonOf (M i j)
    rw [ho i j hi hj]
  · obtain ⟨q1, q2, q3⟩ := split_k hk
    rw [← q3, ho _ _ q1 q2]; exact (hg _ _).2
/-- Where an axis' numbers lie. -/
theorem fst_in {K A : Nat → Int} {N F : Nat → Nat} {n : Nat} (h : dmE n K A N F = 0) {e : Nat × Nat} (he : e ∈ axP A n) : (uS (ptS K A) e.1 + (e.2 : Int) * szK (K e.1) = ((fsT K A e : Nat) : Int)) ∧ szK (K e.1) = (((szK (K e.1)).toNat : Nat) : Int) ∧ 1 ≤ (szK (K e.1)).toNat ∧ (szK (K e.1)).toNat ≤ 3 ∧ fsT K A e + (szK (K e.1)).toNat ≤ (dmV n K A N F).toNat := by
  obtain ⟨_, y1, y2, y3, y4, _⟩ := dm_zero h
  obtain ⟨h1, h2⟩ := axP_mem.1 he
  obtain ⟨_, _, z0, z1, z2⟩ := ptS_in (scE_all y1 _ h1)
  obtain ⟨a1, a2, a3⟩ := y4 e.1 (by omega)
  obtain ⟨b1, b2, b3⟩ := y4 (e.1 + 1) (by omega)
  have c1 : uS (ptS K A) (e.1 + 1) = uS (ptS K A) e.1 + A e.1 * szK (K e.1) := rfl
  have c2 : ((e.2 : Int) + 1) * szK (K e.1) ≤ A e.1 * szK (K e.1) := Int.mul_le_mul_of_nonneg_right (by omega) (by omega)
  have c3 : 0 ≤ (e.2 : Int) * szK (K e.1) := Int.mul_nonneg (by omega) (by omega)
  rw [Int.add_mul, Int.one_mul] at c2
  have c4 : ∀ k, e.1 + 1 ≤ k → k ≤ n → uS (ptS K A) (e.1 + 1) ≤ uS (ptS K A) k := by
    intro k hk hkn
    induction k with
    | zero => omega
    | succ k ih =>
      by_cases hh : e.1 + 1 = k + 1
      · rw [hh]; exact Int.le_refl _
      · have i1 := ih (by omega) (by omega)
        have i2 := (ptS_in (scE_all y1 k (by omega))).1
        show _ ≤ uS (ptS K A) k + ptS K A k
        omega
  have c5 := c4 n (by omega) (Nat.le_refl _)
  have c6 := (y4 n (Nat.le_refl _)).1
  unfold fsT
  rw [y3]
  omega
end Go.Proofs.Ytggiklghcnojiaa
