
/- Lists of lists of bits that come in: their rows, and that they are not too many. -/
import Derived.Test.YtokeialkeadanaaP10
import Derived.Deep.Matrix
namespace Go.Proofs.Ytokeialkeadanaa
open Go.ChangeShapes Go.WideShapes Go.ChangeAt Go.RowKit

/-- Lists of bits that come in: their rows. -/
def RwIn (W : World) (ra : Option Addr) (N : Nat) (RA : Nat → Option Addr) (M RC : Nat → Nat) (X : Nat → List Nat) : Prop := (∀ i, i < N → U64At W (RA i) (M i) (X i)) ∧ (N ≠ 0 → ∃ b off, ra = some ⟨b, off, none⟩ ∧ b < W.heap.size ∧ ∀ i, i < N → W.cell? ⟨b, off + i, none⟩ = some (.slice (RA i) (M i) (RC i)))
theorem weights_all {H : Type} {P : Program} {e : TypeId} : ∀ {es : List (DataW H)} {i : Nat} {d : DataW H}, es[i]? = some d → ∀ n ∈ d.weights P e, n ∈ DataW.weightsAll P e es
  | [], _, _, h, _, _ => by simp at h
  | d0 :: es, 0, d, h, n, hn => by
    simp only [List.getElem?_cons_zero, Option.some.injEq] at h
    subst h
    simp only [DataW.weightsAll, List.mem_append]
    exact Or.inl hn
  | d0 :: es, i + 1, d, h, n, hn => by
    simp only [List.getElem?_cons_succ] at h
    simp only [DataW.weightsAll, List.mem_append]
    exact Or.inr (weights_all h n hn)
theorem sized_rows {H : Type} {P : Program} {ts : List TypeId} {ds : List (DataW H)} (h : (DataW.weightsEach P ts ds).all (· ≤ reachBytes) = true) {j i : Nat} {t e q : TypeId} {es sp es' sp' : List (DataW H)} (ht : ts[j]? = some t) (hd : ds[j]? = some (.slice es sp)) (hu : P.underlying t = some (.slice e)) (hv : P.underlying e = some (.slice q)) (hi : es[i]? = some (.slice es' sp')) :
    (es'.length + sp'.length) * P.bytesOf q ≤ reachBytes := by
  have h1 : (es'.length + sp'.length) * P.bytesOf q ∈ (DataW.slice es' sp' : DataW H).weights P e := by simp [DataW.weights, hv]
  have h2 := weights_all hi _ h1
  have := List.all_eq_true.1 h _ (DataW.weights_mem_each ht hd ((es'.length + sp'.length) * P.bytesOf q) (by simp only [DataW.weights, hu]; exact List.mem_cons_of_mem _ (List.mem_append_left _ h2)))
  simpa using this
theorem open_rows64 {H : Type} {enc : TypeId × Value → H} {P : Program} {W : World} {base : Nat} {t e q : TypeId} {v : Value} {d : DataW H} {p : List MemPlace} (ht : P.underlying t = some (.slice e)) (he : P.underlying e = some (.slice q)) (hq : P.underlying q = some (.int .u64)) (ce : P.cellsOf e = 1) (cq : P.cellsOf q = 1) (hv : Value.okWide P W .any base t v) (h : DataW.Trod enc P W 0 (fun _ => true) true t v d p) (hlt : ∀ x ∈ p, x.block < W.heap.size) :
    ∃ ra N rc RA M RC X, v = .slice ra N rc ∧ RwIn W ra N RA M RC X ∧ N ≤ rc ∧ rc ≤ maxLen ∧ (N ≠ 0 → ∃ es sp, d = .slice es sp ∧ es.length = N ∧ ∀ i, i < N → M i ≠ 0 → ∃ es' sp', es[i]? = some (.slice es' sp') ∧ es'.length = M i) := by
  obtain ⟨a0, len, cap, rfl⟩ := okWide_slice ht hv
  obtain ⟨fuel, hf⟩ := h
  rcases Deep.open_int_rows ht he hq ce cq hf with ⟨hcs, hx⟩ | ⟨a, len', cap', A, L, C, Z, hcs, _, hl, hm, hx, hall⟩
  · simp [Value.cells] at hcs
    obtain ⟨rfl, rfl, rfl⟩ := hcs
    exact ⟨none, 0, 0, fun _ => none, fun _ => 0, fun _ => 0, fun _ => [], rfl, ⟨fun i hi => absurd hi (Nat.not_lt_zero i), fun hn => absurd rfl hn⟩, Nat.le_refl _, Nat.zero_le _, fun hn => absurd rfl hn⟩
  · simp [Value.cells] at hcs
    obtain ⟨rfl, rfl, rfl⟩ := hcs
    simp only [Prod.mk.injEq] at hx
    obtain ⟨rfl, rfl⟩ := hx
    refine ⟨some a, len, cap, A, L, C, fun i => ((Z i).take (L i)).map Int.toNat, rfl, ⟨fun i hi => ?_, fun hn => ?_⟩, hl, hm, fun _ => ⟨_, _, rfl, by simp, fun i hi hM => ?_⟩⟩
    · obtain ⟨_, h2, h3, h4, h5, h6, h7⟩ := hall i (by omega)
      refine ⟨by simp; omega, ?_, fun hn => ?_⟩
      · intro x hx
        simp only [List.mem_map] at hx
        obtain ⟨y, hy, rfl⟩ := hx
        have := u64_wf (h5 y (List.mem_of_mem_take hy))
        omega
      · obtain ⟨a', ha'⟩ : ∃ a', A i = some a' := by
          cases hA : A i with
          | none => have := h6 hA; omega
          | some a' => exact ⟨a', rfl⟩
        obtain ⟨_, hc⟩ := h7 a' ha'
        obtain ⟨b, off, spot⟩ := a'
        have hspot : spot = none := by simpa [Addr.add] using World.cell?_spot (hc 0 (by omega))
        subst hspot
        refine ⟨b, off, ha', hlt (.cell b off) (List.mem_append_right _ (List.mem_flatMap.2 ⟨i, List.mem_range.2 (by omega), ?_⟩)), fun k hk => ?_⟩
        · rw [ha']
          exact MemPlace.mem_row.2 ⟨0, by omega, by simp⟩
        · have hck := hc k (by omega)
          have hmem : (Z i).getD k 0 ∈ Z i := by
            have hi2 : k < (Z i).length := by omega
            rw [List.getD_eq_getElem?_getD, List.getElem?_eq_getElem hi2]
            exact List.getElem_mem hi2
          have hw := u64_wf (h5 _ hmem)
          have e : ((((Z i).take (L i)).map Int.toNat).getD k 0 : Int) = (Z i).getD k 0 := by
            have hi2 : k < (Z i).length := by omega
            simp only [List.getD_eq_getElem?_getD, List.getElem?_map, List.getElem?_take, if_pos hk, List.getElem?_eq_getElem hi2, Option.map_some, Option.getD_some] at hw ⊢
            omega
          rw [e]
          rw [← add_plain]
          exact hck
    · obtain ⟨b, off, spot⟩ := a
      have h0 := (hall 0 (by omega)).1
      have hspot : spot = none := by simpa [Addr.add] using World.cell?_spot h0
      subst hspot
      refine ⟨b, off, rfl, hlt (.cell b off) (List.mem_append_left _ (MemPlace.mem_row.2 ⟨0, by omega, by simp⟩)), fun i hi => ?_⟩
      rw [← add_plain]
      exact (hall i (by omega)).1
    · obtain ⟨_, h2, h3, h4, _, h6, _⟩ := hall i (by omega)
      cases hA : A i with
      | none => have := h6 hA; omega
      | some a' =>
        refine ⟨lits .u64 ((Z i).take (L i)), lits .u64 ((Z i).drop (L i)), ?_, by simp [lits]; omega⟩
        rw [List.getElem?_map, List.getElem?_range hi]
        simp [Deep.intRow, hA]
end Go.Proofs.Ytokeialkeadanaa
