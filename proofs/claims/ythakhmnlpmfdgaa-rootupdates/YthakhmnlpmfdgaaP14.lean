
/- A matrix of bits that comes in (a struct of two ints and a list of uint64): its sides, its numbers, and that they are not too many. -/
import Derived.Test.YthakhmnlpmfdgaaP10
import Derived.Lib.SmallJoins
namespace Go.Proofs.Ythakhmnlpmfdgaa
open Go.ChangeShapes Go.WideShapes Go.ChangeAt Go.RowKit

theorem open_u64f {H : Type} {enc : TypeId × Value → H} {P : Program} {W : World} {t e : TypeId} {v : Value} {y : DataW H × List MemPlace} {fuel : Nat} (ht : P.underlying t = some (.slice e)) (he : P.underlying e = some (.int .u64)) (hc : P.cellsOf e = 1) (hf : DataW.trod enc P W 0 (fun _ => true) true fuel t [v] = some y) (hlt : ∀ x ∈ y.2, x.block < W.heap.size) :
    ∃ sa n cap xs, v = .slice sa n cap ∧ U64At W sa n xs ∧ n ≤ cap ∧ cap ≤ maxLen ∧ (n ≠ 0 → ∃ es sp, y.1 = .slice es sp ∧ es.length = n) := by
  rcases open_ints ht he hc hf with ⟨hcs, hx⟩ | ⟨a, len', cap', zs, hcs, _, hl, hm, hz, hx, hcell, hwz⟩
  · simp at hcs
    subst hcs
    exact ⟨none, 0, 0, [], rfl, ⟨rfl, fun x hx => (by cases hx), fun hn => absurd rfl hn⟩, Nat.le_refl _, Nat.zero_le _, fun hn => absurd rfl hn⟩
  · simp at hcs
    subst hcs
    subst hx
    simp only [if_true] at hz
    refine ⟨some a, len', cap', (zs.take len').map Int.toNat, rfl, ⟨by simp; omega, ?_, fun hn => ?_⟩, hl, hm, fun _ => ⟨_, _, rfl, by simp [lits]; omega⟩⟩
    · intro x hx
      simp only [List.mem_map] at hx
      obtain ⟨y, hy, rfl⟩ := hx
      have := u64_wf (hwz y (List.mem_of_mem_take hy))
      omega
    · obtain ⟨b, off, spot⟩ := a
      have hspot : spot = none := by simpa [Addr.add] using World.cell?_spot (hcell 0 (by omega))
      subst hspot
      refine ⟨b, off, rfl, hlt (.cell b off) (MemPlace.mem_row.2 ⟨0, by omega, by simp⟩), fun i hi => ?_⟩
      have hci := hcell i (by omega)
      have hmem : zs.getD i 0 ∈ zs := by
        have hi2 : i < zs.length := by omega
        rw [List.getD_eq_getElem?_getD, List.getElem?_eq_getElem hi2]
        exact List.getElem_mem hi2
      have hw := u64_wf (hwz _ hmem)
      have e : (((zs.take len').map Int.toNat).getD i 0 : Int) = zs.getD i 0 := by
        have hi2 : i < zs.length := by omega
        simp only [List.getD_eq_getElem?_getD, List.getElem?_map, List.getElem?_take, if_pos hi, List.getElem?_eq_getElem hi2, Option.map_some, Option.getD_some] at hw ⊢
        omega
      rw [e]
      rw [← add_plain]
      exact hci
theorem open_mat {H : Type} {enc : TypeId × Value → H} {P : Program} {W : World} {base : Nat} {t e : TypeId} {f0 f1 f2 : Field} {v : Value} {d : DataW H} {p : List MemPlace} (ht : P.underlying t = some (.struct #[f0, f1, f2])) (hone : Deep.oneCellFields P #[f0, f1, f2] = true) (hC : P.cellsOf t = 3)
    (h0 : P.underlying f0.type = some (.int .i64)) (h1 : P.underlying f1.type = some (.int .i64)) (h2 : P.underlying f2.type = some (.slice e)) (he : P.underlying e = some (.int .u64)) (hc : P.cellsOf e = 1)
    (hv : Value.okWide P W .any base t v) (h : DataW.Trod enc P W 0 (fun _ => true) true t v d p) (hlt : ∀ x ∈ p, x.block < W.heap.size) :
    ∃ (rows cols : Int) (sa : Option Addr) (n cap : Nat) (xs : List Nat), v = .agg #[.int .i64 rows, .int .i64 cols, .slice sa n cap] ∧ (-9223372036854775808 ≤ rows ∧ rows < 9223372036854775808) ∧ (-9223372036854775808 ≤ cols ∧ cols < 9223372036854775808) ∧ U64At W sa n xs ∧ n ≤ cap ∧ cap ≤ maxLen ∧ (n ≠ 0 → ∃ d0 d1 es sp, d = .agg [d0, d1, .slice es sp] ∧ es.length = n) := by
  obtain ⟨v0, v1, v2, y0, y1, y2, m, rfl, rfl, rfl, t0, t1, t2⟩ := Joins.open_agg3 ht hone hC hv h
  obtain ⟨r0, e0, rfl, w0⟩ := DataW.trod_int h0 t0
  obtain ⟨r1, e1, rfl, w1⟩ := DataW.trod_int h1 t1
  simp only [List.cons.injEq, and_true] at e0 e1
  subst e0 e1
  obtain ⟨sa, n, cap, xs, rfl, hu, hn, hm, hd⟩ := open_u64f h2 he hc t2 (fun x hx => hlt x (by simp [hx]))
  refine ⟨r0, r1, sa, n, cap, xs, rfl, (by have := bounds_i64 w0; omega), (by have := bounds_i64 w1; omega), hu, hn, hm, fun hn0 => ?_⟩
  obtain ⟨es, sp, q1, q2⟩ := hd hn0
  exact ⟨_, _, es, sp, by rw [q1], q2⟩
theorem sized_mat {H : Type} {P : Program} {ts : List TypeId} {ds : List (DataW H)} (h : (DataW.weightsEach P ts ds).all (· ≤ reachBytes) = true) {j : Nat} {t e : TypeId} {f0 f1 f2 : Field} {d0 d1 : DataW H} {es sp : List (DataW H)} (ht : ts[j]? = some t) (hd : ds[j]? = some (.agg [d0, d1, .slice es sp])) (hu : P.underlying t = some (.struct #[f0, f1, f2])) (h2 : P.underlying f2.type = some (.slice e)) :
    (es.length + sp.length) * P.bytesOf e ≤ reachBytes := by
  have := List.all_eq_true.1 h _ (DataW.weights_mem_each ht hd ((es.length + sp.length) * P.bytesOf e) (by simp [DataW.weights, hu, DataW.weightsEach, h2]))
  simpa using this
end Go.Proofs.Ythakhmnlpmfdgaa
