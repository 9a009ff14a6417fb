
/- Place: model's, and the document's. -/
import Derived.Test.YtggiklghcnojiaaP40
namespace Go.Proofs.Ytggiklghcnojiaa
open Go.RowKit Go.IntWalk

/-- Is there such a number? -/
def PlOk (n : Nat) (K A : Nat → Int) (part axis order : Int) : Prop := 0 ≤ part ∧ part < (n : Int) ∧ 0 ≤ axis ∧ axis < A part.toNat ∧ 0 ≤ order ∧ order < szK (K part.toNat)
instance (n : Nat) (K A : Nat → Int) (part axis order : Int) : Decidable (PlOk n K A part axis order) := by unfold PlOk; infer_instance
def plE (n : Nat) (K A : Nat → Int) (N F : Nat → Nat) (part axis order : Int) : Int := if dmE n K A N F ≠ 0 then dmE n K A N F else if PlOk n K A part axis order then 0 else 1
def plV (n : Nat) (K A : Nat → Int) (N F : Nat → Nat) (part axis order : Int) : Int := if plE n K A N F part axis order = 0 then uS (ptS K A) part.toNat + axis * szK (K part.toNat) + order else 0
theorem pl_err {n : Nat} {K A : Nat → Int} {N F : Nat → Nat} {part axis order : Int} (h : dmE n K A N F ≠ 0) : plE n K A N F part axis order = dmE n K A N F ∧ plV n K A N F part axis order = 0 := by
  have e : plE n K A N F part axis order = dmE n K A N F := by unfold plE; rw [if_pos h]
  exact ⟨e, by unfold plV; rw [e, if_neg h]⟩
theorem pl_no {n : Nat} {K A : Nat → Int} {N F : Nat → Nat} {part axis order : Int} (h : dmE n K A N F = 0) (hp : ¬ PlOk n K A part axis order) : plE n K A N F part axis order = 1 ∧ plV n K A N F part axis order = 0 := by
  have e : plE n K A N F part axis order = 1 := by unfold plE; rw [if_neg (fun q => q h), if_neg hp]
  exact ⟨e, by unfold plV; rw [e, if_neg (by decide)]⟩
theorem pl_yes {n : Nat} {K A : Nat → Int} {N F : Nat → Nat} {part axis order : Int} (h : dmE n K A N F = 0) (hp : PlOk n K A part axis order) : plE n K A N F part axis order = 0 ∧ plV n K A N F part axis order = uS (ptS K A) part.toNat + axis * szK (K part.toNat) + order := by
  have e : plE n K A N F part axis order = 0 := by unfold plE; rw [if_neg (fun q => q h), if_pos hp]
  exact ⟨e, by unfold plV; rw [if_pos e]⟩
/-- Is it this axis? -/
def Mat7 (K : Nat → Int) (part axis order : Int) (e : Nat × Nat) : Prop := (e.1 : Int) = part ∧ (e.2 : Int) = axis ∧ 0 ≤ order ∧ order < szK (K e.1)
theorem mat_ok {n : Nat} {K A : Nat → Int} {part axis order : Int} {e : Nat × Nat} (he : e ∈ axP A n) (hm : Mat7 K part axis order e) : PlOk n K A part axis order ∧ part.toNat = e.1 ∧ axis = (e.2 : Int) := by
  obtain ⟨h1, h2⟩ := axP_mem.1 he
  obtain ⟨m1, m2, m3, m4⟩ := hm
  have hp : part.toNat = e.1 := by omega
  refine ⟨⟨by omega, by omega, by omega, ?_, m3, ?_⟩, hp, m2.symm⟩
  · rw [hp]; omega
  · rw [hp]; exact m4
theorem mat_no {n : Nat} {K A : Nat → Int} {part axis order : Int} (h : ∀ t (ht : t < (axP A n).length), ¬ Mat7 K part axis order (axP A n)[t]) : ¬ PlOk n K A part axis order := by
  rintro ⟨p1, p2, p3, p4, p5, p6⟩
  have hm : (part.toNat, axis.toNat) ∈ axP A n := axP_mem.2 ⟨by show part.toNat < n; omega, by show (axis.toNat : Int) < A part.toNat; omega⟩
  obtain ⟨t, ht, e⟩ := List.getElem_of_mem hm
  refine h t ht ?_
  rw [e]
  exact ⟨by show (part.toNat : Int) = part; omega, by show (axis.toNat : Int) = axis; omega, p5, p6⟩
def AxB (i j : Nat) (f z : Int) (p q g : Nat) : Obj := .cells #[.int .i64 (i : Int), .int .i64 (j : Int), .int .i64 f, .int .i64 z, .func (.func p) #[] #[], .func (.func q) #[] #[], .func (.func g) #[] #[]] 62
def AxD (W : World) (b o i j : Nat) (f z : Int) (p q g : Nat) : Prop := W.cell? ⟨b, o, none⟩ = some (.int .i64 (i : Int)) ∧ W.cell? ⟨b, o + 1, none⟩ = some (.int .i64 (j : Int)) ∧ W.cell? ⟨b, o + 2, none⟩ = some (.int .i64 f) ∧ W.cell? ⟨b, o + 3, none⟩ = some (.int .i64 z) ∧ W.cell? ⟨b, o + 4, none⟩ = some (.func (.func p) #[] #[]) ∧ W.cell? ⟨b, o + 5, none⟩ = some (.func (.func q) #[] #[]) ∧ W.cell? ⟨b, o + 6, none⟩ = some (.func (.func g) #[] #[])
theorem axb_cells {W : World} {b i j : Nat} {f z : Int} {p q g : Nat} (h : W.heap[b]? = some (AxB i j f z p q g)) : AxD W b 0 i j f z p q g := by
  unfold AxB at h
  refine ⟨?_, ?_, ?_, ?_, ?_, ?_, ?_⟩ <;> simp [World.cell?, h]
theorem ax_at {W : World} {base b cap : Nat} {K A : Nat → Int} {L : List (Nat × Nat)} (h : W.ownsRow base 62 7 (.slice (some ⟨b, 0, none⟩) L.length cap) L.length (L.flatMap (axC K A))) (t : Nat) (ht : t < L.length) : AxD W b (t * 7) L[t].1 L[t].2 (uS (ptS K A) L[t].1 + (L[t].2 : Int) * szK (K L[t].1)) (szK (K L[t].1)) (fnF (K L[t].1)) (fnQ (K L[t].1)) (fnG (K L[t].1)) := by
  have hc := h.cells (g := b) rfl
  have key : ∀ c u, c < 7 → (axC K A L[t])[c]? = some u → W.cell? ⟨b, t * 7 + c, none⟩ = some u := fun c u hc7 hu => by
    have := hc (t * 7 + c) u (by rw [axC_get K A L t c hc7 ht]; exact hu)
    rw [Go.WideShapes.add_plain, Nat.zero_add] at this
    exact this
  exact ⟨key 0 _ (by decide) rfl, key 1 _ (by decide) rfl, key 2 _ (by decide) rfl, key 3 _ (by decide) rfl, key 4 _ (by decide) rfl, key 5 _ (by decide) rfl, key 6 _ (by decide) rfl⟩
theorem AxD.below {W W' : World} {b o i j : Nat} {f z : Int} {p q g : Nat} (h : AxD W b o i j f z p q g) (hl : b < W.heap.size) (hb : Below W.heap.size W W') : AxD W' b o i j f z p q g := by
  unfold AxD
  rw [hb.cell (p := ⟨b, o, none⟩) hl, hb.cell (p := ⟨b, o + 1, none⟩) hl, hb.cell (p := ⟨b, o + 2, none⟩) hl, hb.cell (p := ⟨b, o + 3, none⟩) hl, hb.cell (p := ⟨b, o + 4, none⟩) hl, hb.cell (p := ⟨b, o + 5, none⟩) hl, hb.cell (p := ⟨b, o + 6, none⟩) hl]
  exact h
end Go.Proofs.Ytggiklghcnojiaa

namespace Go.Proofs.Ytggiklghcnojiaa
open Go.RowKit Go.IntWalk

theorem pl_wraps {S z p x : Int} (hS : 0 ≤ S) (hp : 0 ≤ p) (hz : 1 ≤ z ∧ z ≤ 3) (ht : S + p * z + z ≤ 12) (hx : 0 ≤ x ∧ x < z) : wrap64 (p * z) = p * z ∧ wrap64 (S + p * z) = S + p * z ∧ wrap64 (S + p * z + x) = S + p * z + x := by
  have h0 : 0 ≤ p * z := Int.mul_nonneg hp (by omega)
  exact ⟨wrap64_in _ (by omega), wrap64_in _ (by omega), wrap64_in _ (by omega)⟩
end Go.Proofs.Ytggiklghcnojiaa

namespace Go.Proofs.Ytggiklghcnojiaa
open Go.RowKit Go.IntWalk

/-- A number below 12 as a text. -/
def sI : Nat → ByteArray
  | 0 => ⟨#[48]⟩
  | 1 => ⟨#[49]⟩
  | 2 => ⟨#[50]⟩
  | 3 => ⟨#[51]⟩
  | 4 => ⟨#[52]⟩
  | 5 => ⟨#[53]⟩
  | 6 => ⟨#[54]⟩
  | 7 => ⟨#[55]⟩
  | 8 => ⟨#[56]⟩
  | 9 => ⟨#[57]⟩
  | 10 => ⟨#[49, 48]⟩
  | _ => ⟨#[49, 49]⟩
theorem sI_size (i : Nat) : (sI i).size ≤ 2 := by
  unfold sI
  split <;> decide
def pvaS : Nat → ByteArray
  | 0 => ⟨#[112]⟩
  | 1 => ⟨#[118]⟩
  | _ => ⟨#[97]⟩
/-- The name of a number: order o, part i, axis j. -/
def nmS (o i j : Nat) : ByteArray := pvaS o ++ sI i ++ ⟨#[46]⟩ ++ sI j
def nmL (K : Nat → Int) (L : List (Nat × Nat)) : List ByteArray := L.flatMap (fun e => (List.range (szK (K e.1)).toNat).map (fun o => nmS o e.1 e.2))
def stL (l : List ByteArray) : List Value := l.map Value.string
theorem info_st0 : (Try.prog.info? 9).map (fun i => (i.zero, i.size, i.bytes)) = some (some (.string ⟨#[]⟩), 1, 16) := by kernel_rfl
theorem info_st : ∃ i, Try.prog.info? 9 = some i ∧ i.zero = some (.string ⟨#[]⟩) ∧ i.size = 1 ∧ i.bytes = 16 := by
  have h := info_st0
  cases hi : Try.prog.info? 9 with
  | none => rw [hi] at h; cases h
  | some i =>
    rw [hi] at h
    simp only [Option.map_some, Option.some.injEq, Prod.mk.injEq] at h
    exact ⟨i, rfl, h.1, h.2.1, h.2.2⟩
theorem one_st {W : World} {b : Nat} {s : ByteArray} (h : W.heap[b]? = some (.cells #[.string s] 9)) : W.cell? ⟨b, 0, none⟩ = some (.string s) := by simp [World.cell?, h]
end Go.Proofs.Ytggiklghcnojiaa

namespace Go.Proofs.Ytggiklghcnojiaa
open Go.RowKit Go.IntWalk

theorem st_add (a b : ByteArray) (ha : a.size ≤ 100) (hb : b.size ≤ 100) (w : World) : (binOp .add 9 (.string a) (.string b)).run Try.prog w = .ok (.string (a ++ b)) w := by
  have := run_string_add (P := Try.prog) w a b (by omega) (by omega)
  simp [binOp, this]
theorem pva_size (o : Nat) : (pvaS o).size ≤ 1 := by
  unfold pvaS
  split <;> decide
theorem nm_adds (o i j : Nat) (w : World) : ((binOp .add 9 (.string (pvaS o)) (.string (sI i))).run Try.prog w = .ok (.string (pvaS o ++ sI i)) w) ∧ ((binOp .add 9 (.string (pvaS o ++ sI i)) (.string ⟨#[46]⟩)).run Try.prog w = .ok (.string (pvaS o ++ sI i ++ ⟨#[46]⟩)) w) ∧ ((binOp .add 9 (.string (pvaS o ++ sI i ++ ⟨#[46]⟩)) (.string (sI j))).run Try.prog w = .ok (.string (nmS o i j)) w) := by
  have h1 := pva_size o
  have h2 := sI_size i
  have h3 := sI_size j
  have e1 : (pvaS o ++ sI i).size = (pvaS o).size + (sI i).size := ByteArray.size_append
  have e2 : (pvaS o ++ sI i ++ ⟨#[46]⟩ : ByteArray).size = (pvaS o ++ sI i).size + 1 := ByteArray.size_append
  exact ⟨st_add _ _ (by omega) (by omega) w, st_add _ _ (by omega) (by decide) w, st_add _ _ (by omega) (by omega) w⟩
/-- A block of axes is none of texts. -/
theorem st_keep {W W' : World} {base n kb : Nat} {v : Value} {xs : List Value} {cur : Array Value} {fr : Nat × Nat} (hO : W.ownsRow base 9 1 v n xs) (hK : W.heap[kb]? = some (.cells cur 62 fr)) (hg : W.grownBy W' v.ownBlock) : W'.heap[kb]? = some (.cells cur 62 fr) := by
  refine (hg.block kb (Array.getElem?_eq_some_iff.1 hK).1 ?_).trans hK
  intro hc
  rcases hO.2 with ⟨rfl, _⟩ | ⟨g', cap, cur', rfl, _, e3, _⟩
  · cases hc
  · simp only [Value.ownBlock, Option.some.injEq] at hc
    rw [← hc, hK] at e3
    simp at e3
theorem nm_step (l : List ByteArray) (o i j : Nat) : (l ++ (List.range o).map (fun q => nmS q i j)) ++ [nmS o i j] = l ++ (List.range (o + 1)).map (fun q => nmS q i j) := by
  rw [List.range_succ, List.map_append, List.append_assoc]
  rfl
theorem nm_take (K : Nat → Int) (L : List (Nat × Nat)) (t : Nat) (ht : t < L.length) : nmL K (L.take t) ++ (List.range (szK (K L[t].1)).toNat).map (fun q => nmS q L[t].1 L[t].2) = nmL K (L.take (t + 1)) := by
  unfold nmL
  rw [List.take_add_one, List.getElem?_eq_getElem ht, List.flatMap_append]
  simp
theorem nm_len (K : Nat → Int) : ∀ L : List (Nat × Nat), L.length ≤ 12 → (nmL K L).length ≤ 36 := by
  intro L hL
  have key : ∀ L : List (Nat × Nat), (nmL K L).length ≤ L.length * 3 := by
    intro L
    induction L with
    | nil => exact Nat.le_refl _
    | cons e L ih =>
      unfold nmL at ih ⊢
      rw [List.flatMap_cons, List.length_append, List.length_map, List.length_range, List.length_cons]
      have := szK_in (K e.1)
      omega
  have := key L
  omega
theorem small_part {K A : Nat → Int} {N F : Nat → Nat} {n : Nat} (h : dmE n K A N F = 0) {e : Nat × Nat} (he : e ∈ axP A n) : e.1 < 12 ∧ e.2 < 12 ∧ 1 ≤ szK (K e.1) ∧ szK (K e.1) ≤ 3 := by
  obtain ⟨_, y1, _, _, y4, _⟩ := dm_zero h
  obtain ⟨h1, h2⟩ := axP_mem.1 he
  obtain ⟨_, _, a1, a2, a3⟩ := ptS_in (scE_all y1 _ h1)
  have key : ∀ k, k ≤ n → (k : Int) ≤ uS (ptS K A) k := by
    intro k
    induction k with
    | zero => intro _; exact Int.le_refl _
    | succ k ih =>
      intro hk
      have b := ih (by omega)
      have c := (ptS_in (scE_all y1 k (by omega))).1
      show ((k + 1 : Nat) : Int) ≤ uS (ptS K A) k + ptS K A k
      omega
  have c1 := key n (Nat.le_refl _)
  have c2 := y4 n (Nat.le_refl _)
  exact ⟨by omega, by omega, a2, a3⟩
theorem pva_slice : True := trivial
end Go.Proofs.Ytggiklghcnojiaa
