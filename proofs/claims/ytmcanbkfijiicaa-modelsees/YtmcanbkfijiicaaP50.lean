
/- Proved: for every sensor (any number, any sides, any lists of numbers for its matrix and its variances, any gate), every int as the number of numbers and every list of numbers the law ModelSees answers true: model.CheckSensor answers the document's error, and model.Sees answers the document's error, or the document's numbers bit by bit (NaNs are one); chapter 14's first examples hold. No condition. -/
import Derived.Test.YtmcanbkfijiicaaP49
import Derived.Test.YtmcanbkfijiicaaRows
import Derived.ProofKit
import Derived.OpenShut
import Derived.ChangeSlices
import Derived.WideShapes
import Derived.Stop.Joined
import Derived.SizedLaws
import Derived.Carry
import Derived.Deep.SlicePairs
import Derived.Lib.SmallJoins
namespace Go.Proofs.Ytmcanbkfijiicaa
open Go.ChangeShapes Go.WideShapes Go.ChangeAt Go.RowKit Go.IntWalk

theorem open_sensor {H : Type} {enc : TypeId × Value → H} {P : Program} {W : World} {base : Nat} {t e : TypeId} {f0 f1 f2 f3 f4 f5 : Field} {v : Value} {d : DataW H} {p : List MemPlace} (ht : P.underlying t = some (.struct #[f0, f1, f2, f3, f4, f5])) (o0 : f0.offset = 0) (o1 : f1.offset = 1) (o2 : f2.offset = 2) (o3 : f3.offset = 3) (o4 : f4.offset = 4) (o5 : f5.offset = 5) (c0 : P.cellsOf f0.type = 1 ∧ P.cellsOf f1.type = 1) (c1 : P.cellsOf f2.type = 1 ∧ P.cellsOf f3.type = 1) (c2 : P.cellsOf f4.type = 1 ∧ P.cellsOf f5.type = 1) (hC : P.cellsOf t = 6)
    (h0 : P.underlying f0.type = some (.int .i64)) (h1 : P.underlying f1.type = some (.int .i64)) (h2 : P.underlying f2.type = some (.int .i64)) (h3 : P.underlying f3.type = some (.slice e)) (h4 : P.underlying f4.type = some (.slice e)) (h5 : P.underlying f5.type = some (.int .u64)) (he : P.underlying e = some (.int .u64)) (hc : P.cellsOf e = 1)
    (hv : Value.okWide P W .any base t v) (h : DataW.Trod enc P W 0 (fun _ => true) true t v d p) (hlt : ∀ x ∈ p, x.block < W.heap.size) :
    ∃ (id r c : Int) (sa : Option Addr) (n ka : Nat) (xs : List Nat) (sr : Option Addr) (m kr : Nat) (ys : List Nat) (g : Nat), v = .agg #[.int .i64 id, .int .i64 r, .int .i64 c, .slice sa n ka, .slice sr m kr, .int .u64 (g : Int)] ∧ (-9223372036854775808 ≤ id ∧ id ≤ 9223372036854775807) ∧ U64At W sa n xs ∧ U64At W sr m ys ∧ g < 18446744073709551616 ∧ (n ≠ 0 → ∃ d0 d1 d2 d3 d4 es sp, d = .agg [d0, d1, d2, .slice es sp, d3, d4] ∧ es.length = n) ∧ (m ≠ 0 → ∃ d0 d1 d2 d3 d4 es sp, d = .agg [d0, d1, d2, d3, .slice es sp, d4] ∧ es.length = m) := by
  obtain ⟨cs, rfl, hsz⟩ := okWide_struct ht hv
  rw [hC] at hsz
  obtain ⟨fuel, hf⟩ := h
  obtain ⟨ys, k, hk, hxy, _, hxl, hfl⟩ := DataW.trod_struct ht hf
  obtain ⟨cl⟩ := cs
  match ys, hxl, cl, hsz with
  | [y0, y1, y2, y3, y4, y5], _, [v0, v1, v2, v3, v4, v5], _ =>
    have g0 := hfl 0 f0 rfl
    have g1 := hfl 1 f1 rfl
    have g2 := hfl 2 f2 rfl
    have g3 := hfl 3 f3 rfl
    have g4 := hfl 4 f4 rfl
    have g5 := hfl 5 f5 rfl
    simp [Value.cells, o0, o1, o2, o3, o4, o5, c0.1, c0.2, c1.1, c1.2, c2.1, c2.2] at g0 g1 g2 g3 g4 g5
    simp only [Prod.mk.injEq] at hxy
    have hd : d = .agg [y0.1, y1.1, y2.1, y3.1, y4.1, y5.1] := by simpa using hxy.1
    have hp : p = y0.2 ++ (y1.2 ++ (y2.2 ++ (y3.2 ++ (y4.2 ++ y5.2)))) := by simpa using hxy.2
    subst hd hp
    obtain ⟨x0, e0, _, w0⟩ := DataW.trod_int h0 g0
    obtain ⟨x1, e1, _, w1⟩ := DataW.trod_int h1 g1
    obtain ⟨x2, e2, _, w2⟩ := DataW.trod_int h2 g2
    obtain ⟨x5, e5, _, w5⟩ := DataW.trod_int h5 g5
    simp only [List.cons.injEq, and_true] at e0 e1 e2 e5
    subst e0 e1 e2 e5
    obtain ⟨sa, n, ka, xs, rfl, hu, _, _, hd3⟩ := open_u64f h3 he hc g3 (fun x hx => hlt x (by simp [hx]))
    obtain ⟨sr, m, kr, zs, rfl, hz, _, _, hd4⟩ := open_u64f h4 he hc g4 (fun x hx => hlt x (by simp [hx]))
    have b5 := bounds_u64 w5
    obtain ⟨g, rfl⟩ := Int.eq_ofNat_of_zero_le b5.1
    refine ⟨x0, x1, x2, sa, n, ka, xs, sr, m, kr, zs, g, rfl, bounds_i64 w0, hu, hz, by have := b5.2; omega, fun hn => ?_, fun hm => ?_⟩
    · obtain ⟨es, sp, q1, q2⟩ := hd3 hn
      exact ⟨_, _, _, _, _, es, sp, by rw [q1], q2⟩
    · obtain ⟨es, sp, q1, q2⟩ := hd4 hm
      exact ⟨_, _, _, _, _, es, sp, by rw [q1], q2⟩
theorem sized_sn3 {H : Type} {P : Program} {ts : List TypeId} {ds : List (DataW H)} (h : (DataW.weightsEach P ts ds).all (· ≤ reachBytes) = true) {j : Nat} {t e : TypeId} {f0 f1 f2 f3 f4 f5 : Field} {d0 d1 d2 d3 d4 : DataW H} {es sp : List (DataW H)} (ht : ts[j]? = some t) (hd : ds[j]? = some (.agg [d0, d1, d2, .slice es sp, d3, d4])) (hu : P.underlying t = some (.struct #[f0, f1, f2, f3, f4, f5])) (h2 : P.underlying f3.type = some (.slice e)) :
    (es.length + sp.length) * P.bytesOf e ≤ reachBytes := by
  have := List.all_eq_true.1 h _ (DataW.weights_mem_each ht hd ((es.length + sp.length) * P.bytesOf e) (by simp [DataW.weights, hu, DataW.weightsEach, h2]))
  simpa using this
theorem sized_sn4 {H : Type} {P : Program} {ts : List TypeId} {ds : List (DataW H)} (h : (DataW.weightsEach P ts ds).all (· ≤ reachBytes) = true) {j : Nat} {t e : TypeId} {f0 f1 f2 f3 f4 f5 : Field} {d0 d1 d2 d3 d4 : DataW H} {es sp : List (DataW H)} (ht : ts[j]? = some t) (hd : ds[j]? = some (.agg [d0, d1, d2, d3, .slice es sp, d4])) (hu : P.underlying t = some (.struct #[f0, f1, f2, f3, f4, f5])) (h2 : P.underlying f4.type = some (.slice e)) :
    (es.length + sp.length) * P.bytesOf e ≤ reachBytes := by
  have := List.all_eq_true.1 h _ (DataW.weights_mem_each ht hd ((es.length + sp.length) * P.bytesOf e) (by simp [DataW.weights, hu, DataW.weightsEach, h2]))
  simpa using this

theorem own : ownKnob Try.prog.godebug = none := by kernel_rfl
set_option maxRecDepth 100000 in
theorem modelSees_lifted (os : Os) (started : os.Started) (H : Type) (enc : TypeId × Value → H) :
    ReturnsInHanded {} Try.checked os 3 .any (Rows.modelSeesSpec.pre6 enc Try.prog Try.f3 Rows.modelSeesRow.domain false) (Rows.modelSeesSpec.post enc Try.prog Try.f3 false true false false) := by
  refine returnsInHanded_of_change_sized (C := Try.checked) own started (by kernel_rfl) Try.func3
    (ChangeSpec.witness6 (enc := enc) (C := Try.checked) false ⟨#[], #[.agg #[.int .i64 0, .int .i64 0, .int .i64 0, .slice none 0 0, .slice none 0 0, .int .u64 0], .int .i64 0, .slice none 0 0], []⟩ 8 (by kernel_rfl) (by kernel_rfl) (by kernel_rfl) (by kernel_rfl)) ?_
  intro W base args ds gs before hval0 hW _ hsz0 _
  have hsz : (DataW.weightsEach Try.prog (Try.f3.params.toList ++ Rows.modelSeesSpec.plain.varTypes Try.prog) (ds ++ gs)).all (· ≤ reachBytes) = true := hsz0
  have hval : ∀ (j : Nat) t v, Try.f3.params[j]? = some t → args[j]? = some v → Value.okWide Try.prog W .any base t v := hval0
  have hW' := hW
  obtain ⟨p, q, hA0, hV, rfl, hfz, hnd⟩ := hW
  have hA : DataW.TrodAll enc Try.prog W 0 (fun _ => true) true Try.f3.params.toList args.toList ds p := hA0
  rw [Try.params3] at hA hval hsz
  obtain ⟨v0, vs0, d0, ds0, p0, q0, hargs, rfl, rfl, h0, r0⟩ := trodAll_cons hA
  obtain ⟨v1, vs1, d1, ds1, p1, q1, rfl, rfl, rfl, h1, r1⟩ := trodAll_cons r0
  obtain ⟨v2, vs2, d2, ds2, p2, q2, rfl, rfl, rfl, h2, r2⟩ := trodAll_cons r1
  obtain ⟨rfl, rfl, rfl⟩ := trodAll_nil r2
  obtain rfl : args = #[v0, v1, v2] := by cases args; simp_all
  obtain ⟨rfl, rfl⟩ := trodVars_none hV
  have hlt0 : ∀ x ∈ p0, x.block < W.heap.size := fun x hx => by
    have := hW'.lt x (by simp [hx])
    simpa using this
  obtain ⟨id0, rr0, rc0, sa0, sn0, sc0, xs0, ta0, tn0, tc0, ys0, gt0, rfl, hi0, hu0, hy0, hg0, hd0, he0⟩ := open_sensor Try.underlying25 rfl rfl rfl rfl rfl rfl ⟨by kernel_rfl, by kernel_rfl⟩ ⟨by kernel_rfl, by kernel_rfl⟩ ⟨by kernel_rfl, by kernel_rfl⟩ (show Try.prog.cellsOf 25 = 6 by kernel_rfl) Try.underlying3 Try.underlying3 Try.underlying3 Try.underlying22 Try.underlying22 Try.underlying23 Try.underlying23 (show Try.prog.cellsOf 23 = 1 by kernel_rfl) (hval 0 25 v0 rfl rfl) h0 hlt0
  have hbsn0 : sn0 ≤ 17592186043904 := by
    by_cases c : sn0 = 0
    · omega
    · obtain ⟨d0, d1, d2, d3, d4, es, sp, e1, e2⟩ := hd0 c
      subst e1
      have := sized_sn3 hsz (j := 0) (t := 25) (e := 23) rfl rfl Try.underlying25 Try.underlying22
      rw [show Try.prog.bytesOf 23 = 8 by kernel_rfl] at this
      simp only [reachBytes] at this
      omega
  have hbtn0 : tn0 ≤ 17592186043904 := by
    by_cases c : tn0 = 0
    · omega
    · obtain ⟨d0, d1, d2, d3, d4, es, sp, e1, e2⟩ := he0 c
      subst e1
      have := sized_sn4 hsz (j := 0) (t := 25) (e := 23) rfl rfl Try.underlying25 Try.underlying22
      rw [show Try.prog.bytesOf 23 = 8 by kernel_rfl] at this
      simp only [reachBytes] at this
      omega
  obtain ⟨a1, rfl, rfl, rfl, w1⟩ := open_int Try.underlying3 (hval 1 3 v1 rfl rfl) h1
  have hlt2 : ∀ x ∈ p2, x.block < W.heap.size := fun x hx => by
    have := hW'.lt x (by simp [hx])
    simpa using this
  obtain ⟨sa2, sn2, sc2, xs2, rfl, hu2, _, _, hd2⟩ := open_u64s Try.underlying22 Try.underlying23 (show Try.prog.cellsOf 23 = 1 by kernel_rfl) (hval 2 22 v2 rfl rfl) h2 hlt2
  have hb2 : sn2 ≤ 17592186043904 := by
    by_cases c : sn2 = 0
    · omega
    · obtain ⟨es, sp, e1, e2⟩ := hd2 c
      subst e1
      have := sized_slice hsz (j := 2) (t := 22) (e := 23) rfl rfl Try.underlying22
      rw [show Try.prog.bytesOf 23 = 8 by kernel_rfl] at this
      simp only [reachBytes] at this
      omega
  clear hA0 hval0
  simp only [List.append_nil] at hW'
  refine (sees_walk id0 rr0 rc0 sa0 sn0 sc0 xs0 ta0 tn0 tc0 ys0 gt0 a1 sa2 sn2 sc2 xs2 W hi0 hu0 hbsn0 hy0 hbtn0 hg0 (bounds_i64 w1) hu2 hb2).mono fun e W' ⟨he, bel⟩ => ?_
  subst he
  exact ⟨_, rfl, _, _, _, [], p0 ++ ([] ++ (p2 ++ ([]))), [], hW', trodAll_mk1 (shut_bool Try.underlying4 _), (trodAll_cons_mk (Below.trod (show laidOutB Try.prog = true by kernel_rfl) (by kernel_rfl) (of_decide_eq_true (by kernel_rfl)) h0 bel hlt0) (trodAll_cons_mk (shut_int Try.underlying3 w1) (trodAll_cons_mk (Below.trod (show laidOutB Try.prog = true by kernel_rfl) (by kernel_rfl) (of_decide_eq_true (by kernel_rfl)) h2 bel hlt2) trodAll_mk0))), rfl, bel.frame _, fun h => by cases h⟩

theorem modelSees_row : Rows.ModelSeesSaid :=
  OpenClaim.holds_of_wide 3 Try.f3 rfl rfl rfl rfl rfl rfl rfl ⟨rfl, rfl, rfl, rfl, rfl⟩ rfl rfl rfl rfl rfl (by kernel_rfl) Try.func3 (by kernel_rfl)
    (of_decide_eq_true (by kernel_rfl)) (by unfold Func.isWrapper; first | (rw [if_pos (by decide +kernel)]; kernel_rfl) | (rw [if_neg (by decide +kernel)]; exact ⟨rfl, rfl⟩))
    (fun os started H enc _ => modelSees_lifted os started H enc)

#print axioms modelSees_row
end Go.Proofs.Ytmcanbkfijiicaa
