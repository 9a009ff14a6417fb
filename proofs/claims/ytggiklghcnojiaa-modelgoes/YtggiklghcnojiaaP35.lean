
/- The document's: Check and Dim of any motion. -/
import Derived.Test.YtggiklghcnojiaaP34
import Derived.Test.YtggiklghcnojiaaP10
namespace Go.Proofs.Ytggiklghcnojiaa
open Go.RowKit Go.IntWalk

theorem ptE_is (k a : Int) (n f : Nat) : (szK k = 0 → ptE k a n f = 140) ∧ (szK k ≠ 0 → (a < 1 ∨ 12 < a) → ptE k a n f = 1) ∧ (szK k ≠ 0 → ¬ (a < 1 ∨ 12 < a) → finM [n, f] = false → ptE k a n f = 4) ∧ (szK k ≠ 0 → ¬ (a < 1 ∨ 12 < a) → finM [n, f] = true → (fltB n = true ∨ fltB f = true) → ptE k a n f = 141) ∧ (szK k ≠ 0 → ¬ (a < 1 ∨ 12 < a) → finM [n, f] = true → ¬ (fltB n = true ∨ fltB f = true) → ptE k a n f = 0) := by
  unfold ptE
  refine ⟨fun h0 => ?_, fun h0 h1 => ?_, fun h0 h1 h2 => ?_, fun h0 h1 h2 h3 => ?_, fun h0 h1 h2 h3 => ?_⟩
  · rw [if_pos h0]
  · rw [if_neg h0, if_pos h1]
  · rw [if_neg h0, if_neg h1, if_pos h2]
  · rw [if_neg h0, if_neg h1, if_neg (by rw [h2]; decide), if_pos h3]
  · rw [if_neg h0, if_neg h1, if_neg (by rw [h2]; decide), if_neg h3]
theorem dm_errc {n k : Nat} {K A : Nat → Int} {N F : Nat → Nat} (h0 : scE (ptEs K A N F) k = 0) (hk : k < n) {E : Int} (h1 : E ≠ 0) (h : ptEs K A N F k = E) : Ending.returned (.int .i64 E) = .returned (.int .i64 (dmE n K A N F)) := by
  rw [(dm_err h0 (by rw [h]; exact h1) hk).1, h]
theorem ret_dmE {a c : Int} (h1 : a = c) : Ending.returned (.int .i64 a) = .returned (.int .i64 c) := by rw [h1]
end Go.Proofs.Ytggiklghcnojiaa

namespace Go.Proofs.Ytggiklghcnojiaa
open Go.RowKit Go.IntWalk

theorem zerosm_any (r c : Nat) (hr : r ≤ 100) (hc : c ≤ 100) (w : World) : Calls Try.prog 34 #[.int .i64 r, .int .i64 c] w fun e w' => e = .returned (MV r c (some ⟨w.heap.size + 1, 0, none⟩) (r * c) (r * c)) ∧ w'.rowIs (w.heap.size + 1) 38 (r * c) (fun _ => .float .f64 0) ∧ Below w.heap.size w w' := by
  have hp : r * c ≤ 10000 := Nat.mul_le_mul hr hc
  have e1 : (r : Int) * (c : Int) = ((r * c : Nat) : Int) := by simp
  obtain ⟨N, hN⟩ : ∃ p, Hid (r * c = p) := ⟨_, rfl⟩
  rw [hN.out] at e1 hp ⊢
  have hmk := run_make_row' (P := Try.prog) 32 38 (.float .f64 0) 8 Try.underlying32 info_fM rfl .i64 .i64 N (by omega) (by omega)
  have e3 := wrapM N (by omega)
  unfold MV
  clear hr hc
  go_enter Try.func34, Try.ntmps34
  go_wp2_with fail
  refine bodyPost_ret (v := .agg #[.int .i64 r, .int .i64 c, .slice (some ⟨w.heap.size + 1, 0, none⟩) N N]) (by simp [results, Try.results34, go_sem]) rfl ⟨rfl, ?_, ((Below.refl _ _).alloc (Nat.le_refl _) _).alloc (by simp) _⟩
  have := World.rowIs_made (w.alloc (MBox r c (some ⟨w.heap.size + 1, 0, none⟩) N N)) (.float .f64 0) N 38
  rw [World.size_alloc] at this
  exact this
end Go.Proofs.Ytggiklghcnojiaa

namespace Go.Proofs.Ytggiklghcnojiaa
open Go.RowKit Go.IntWalk

/-- Are the first places numbers of the state? -/
def pkB (D : Int) (xs : List Int) : Nat → Bool
  | 0 => true
  | k + 1 => pkB D xs k && (decide (0 ≤ xs.getD k 0) && decide (xs.getD k 0 < D))
def pkE (E D : Int) (m : Nat) (xs : List Int) : Int := if E ≠ 0 then E else if m = 0 ∨ 6 < m then 1 else if pkB D xs m = true then 0 else 1
def pkV (xs : List Int) (i j : Nat) : Nat := if xs.getD i 0 = (j : Int) then 4607182418800017408 else 0
theorem pk_stop {D : Int} {xs : List Int} {k m : Nat} (hk : k < m) (h : ¬ (0 ≤ xs.getD k 0 ∧ xs.getD k 0 < D)) : pkB D xs m = false := by
  induction m with
  | zero => omega
  | succ m ih =>
    show (pkB D xs m && (decide (0 ≤ xs.getD m 0) && decide (xs.getD m 0 < D))) = false
    by_cases hkm : k = m
    · subst hkm
      by_cases h1 : 0 ≤ xs.getD k 0
      · rw [decide_eq_false (p := xs.getD k 0 < D) (fun h2 => h ⟨h1, h2⟩)]; simp
      · rw [decide_eq_false h1]; simp
    · rw [ih (by omega)]; rfl
theorem pk_next {D : Int} {xs : List Int} {k : Nat} (h : pkB D xs k = true) (h1 : 0 ≤ xs.getD k 0) (h2 : xs.getD k 0 < D) : pkB D xs (k + 1) = true := by
  show (pkB D xs k && (decide (0 ≤ xs.getD k 0) && decide (xs.getD k 0 < D))) = true
  rw [h, decide_eq_true h1, decide_eq_true h2]; rfl
theorem pkE_err {E D : Int} {m : Nat} {xs : List Int} (h : E ≠ 0) : pkE E D m xs = E := by unfold pkE; rw [if_pos h]
theorem pkE_len {D : Int} {m : Nat} {xs : List Int} (h : m = 0 ∨ 6 < m) : pkE 0 D m xs = 1 := by unfold pkE; rw [if_neg (by simp), if_pos h]
theorem pkE_bad {D : Int} {m : Nat} {xs : List Int} (h : ¬ (m = 0 ∨ 6 < m)) (hb : pkB D xs m = false) : pkE 0 D m xs = 1 := by unfold pkE; rw [if_neg (by simp), if_neg h, if_neg (by rw [hb]; decide)]
theorem pkE_good {D : Int} {m : Nat} {xs : List Int} (h : ¬ (m = 0 ∨ 6 < m)) (hb : pkB D xs m = true) : pkE 0 D m xs = 0 := by unfold pkE; rw [if_neg (by simp), if_neg h, if_pos hb]
/-- What is handed back beside an error. -/
theorem pk_no {E : Int} {r c : Nat} {v : Nat → Nat → Nat} {W : World} (h : E ≠ 0) : ResM E r c v W 0 0 none 0 0 := Or.inr ⟨h, rfl, rfl, rfl, rfl, rfl⟩
def pkO (xs : List Int) (k i j : Nat) : Nat := if i < k ∧ xs.getD i 0 = (j : Int) then 4607182418800017408 else 0
theorem pkO_lt (xs : List Int) (k i j : Nat) : pkO xs k i j < 18446744073709551616 ∧ canonOf (pkO xs k i j) = pkO xs k i j ∧ (expOf (pkO xs k i j) == 2047) = false := by
  unfold pkO
  split
  · decide
  · decide
theorem pkO_all (xs : List Int) {m i : Nat} (j : Nat) (hi : i < m) : pkO xs m i j = pkV xs i j := by
  unfold pkO pkV
  by_cases h : xs.getD i 0 = (j : Int)
  · rw [if_pos ⟨hi, h⟩, if_pos h]
  · rw [if_neg (fun c => h c.2), if_neg h]
theorem pk_yes {m D g : Nat} {xs : List Int} {W : World} {o : Nat → Nat} (hN : m * D ≤ 1000) (hr : W.rowIs g 38 (m * D) (fun k => .float .f64 (o k))) (ho : ∀ i j, i < m → j < D → o (i * D + j) = pkO xs m i j) : ResM 0 m D (pkV xs) W m D (some ⟨g, 0, none⟩) (m * D) (m * D) := by
  refine Or.inl ⟨rfl, rfl, rfl, rfl, rfl, g, o, rfl, row_fn hr (fun k hk => ?_) (by omega), fun i j hi hj => ?_, finF_of (fun k hk => ?_)⟩
  · obtain ⟨q1, q2, q3⟩ := split_k hk
    rw [← q3, ho _ _ q1 q2]; exact (pkO_lt xs m _ _).1
  · rw [ho i j hi hj, (pkO_lt xs m _ _).2.1, pkO_all xs j hi]
  · obtain ⟨q1, q2, q3⟩ := split_k hk
    rw [← q3, ho _ _ q1 q2]; exact (pkO_lt xs m _ _).2.2
theorem pk_step {m D k p : Nat} {xs : List Int} {o : Nat → Nat} (hp : xs.getD k 0 = (p : Int)) (hpD : p < D) (ho : ∀ i j, i < m → j < D → o (i * D + j) = pkO xs k i j) : ∀ i j, i < m → j < D → (fun t => if t = k * D + p then 4607182418800017408 else o t) (i * D + j) = pkO xs (k + 1) i j := by
  intro i j hi hj
  show (if i * D + j = k * D + p then 4607182418800017408 else o (i * D + j)) = _
  unfold pkO
  by_cases h : i * D + j = k * D + p
  · obtain ⟨e1, e2⟩ := place_ne hj hpD h
    subst e1 e2
    rw [if_pos rfl, if_pos ⟨by omega, hp⟩]
  · rw [if_neg h, ho i j hi hj]
    unfold pkO
    by_cases hx : xs.getD i 0 = (j : Int)
    · by_cases hik : i < k
      · rw [if_pos ⟨hik, hx⟩, if_pos ⟨by omega, hx⟩]
      · rw [if_neg (fun c => hik c.1), if_neg (fun c => ?_)]
        have : i = k := by omega
        subst this
        rw [hx] at hp
        exact h (by have : j = p := by omega
                    rw [this])
    · rw [if_neg (fun c => hx c.2), if_neg (fun c => hx c.2)]
theorem pk_zero {m D : Nat} (xs : List Int) : ∀ i j, i < m → j < D → (fun _ => (0 : Nat)) (i * D + j) = pkO xs 0 i j := fun i j _ _ => by
  unfold pkO
  rw [if_neg (fun c => absurd c.1 (Nat.not_lt_zero _))]
theorem pk_place {w W : World} {b off m : Nat} {xs : List Int} (hbl : b < w.heap.size) (hcl : ∀ i, i < m → w.cell? ⟨b, off + i, none⟩ = some (.int .i64 (xs.getD i 0))) (hb : Below w.heap.size w W) (i : Nat) (hi : i < m) : W.cell? ⟨b, off + i, none⟩ = some (.int .i64 (xs.getD i 0)) := by
  rw [hb.cell (p := ⟨b, off + i, none⟩) hbl]
  exact hcl i hi
theorem pk_idx {k D p : Nat} (hk : k < 6) (hD : D ≤ 12) (hp : p < D) : (k : Int) * (D : Int) = ((k * D : Nat) : Int) ∧ ((k * D : Nat) : Int) + (p : Int) = ((k * D + p : Nat) : Int) ∧ IntKind.i64.wrap ((k * D : Nat) : Int) = ((k * D : Nat) : Int) ∧ IntKind.i64.wrap ((k * D + p : Nat) : Int) = ((k * D + p : Nat) : Int) ∧ k * D ≤ 72 := by
  have h : k * D ≤ 6 * 12 := Nat.mul_le_mul (by omega) hD
  exact ⟨by simp, by simp, wrapM _ (by omega), wrapM _ (by omega), by omega⟩
end Go.Proofs.Ytggiklghcnojiaa
