
/- Proved: for all bits of a list of numbers and of a matrix (each list of at most 17592186043904 numbers, as many as the model lets a list of numbers have; any ints for rows and columns, good or not) and of a row (any list, its variance and its value, finite or not), the law RootUpdates answers true: root.Foresee and root.Update tell what the document's steps tell, errors in their order, numbers bit by bit (NaNs are one). No condition beyond the statement's own. -/
import Derived.Test.YthakhmnlpmfdgaaP49
import Derived.Test.YthakhmnlpmfdgaaRows
import Derived.ProofKit
import Derived.OpenShut
import Derived.Stop.Joined
import Derived.SizedLaws
import Derived.Carry
import Derived.Lib.SmallJoins
namespace Go.Proofs.Ythakhmnlpmfdgaa
open Go.ChangeShapes Go.WideShapes Go.ChangeAt Go.RowKit Go.IntWalk

theorem open_row16 {H : Type} {enc : TypeId × Value → H} {P : Program} {W : World} {base : Nat} {t e : TypeId} {f0 f1 f2 : Field} {v : Value} {d : DataW H} {p : List MemPlace} (ht : P.underlying t = some (.struct #[f0, f1, f2])) (o0 : f0.offset = 0) (o1 : f1.offset = 1) (o2 : f2.offset = 2) (c0 : P.cellsOf f0.type = 1 ∧ P.cellsOf f1.type = 1 ∧ P.cellsOf f2.type = 1) (hC : P.cellsOf t = 3)
    (h0 : P.underlying f0.type = some (.slice e)) (h1 : P.underlying f1.type = some (.int .u64)) (h2 : P.underlying f2.type = some (.int .u64)) (he : P.underlying e = some (.int .u64)) (hc : P.cellsOf e = 1)
    (hv : Value.okWide P W .any base t v) (h : DataW.Trod enc P W 0 (fun _ => true) true t v d p) (hlt : ∀ x ∈ p, x.block < W.heap.size) :
    ∃ (sa : Option Addr) (n ka : Nat) (xs : List Nat) (R Z : Nat), v = .agg #[.slice sa n ka, .int .u64 (R : Int), .int .u64 (Z : Int)] ∧ U64At W sa n xs ∧ R < 18446744073709551616 ∧ Z < 18446744073709551616 ∧ (n ≠ 0 → ∃ d1 d2 es sp, d = .agg [.slice es sp, d1, d2] ∧ es.length = n) := by
  obtain ⟨cs, rfl, hsz⟩ := okWide_struct ht hv
  rw [hC] at hsz
  obtain ⟨fuel, hf⟩ := h
  obtain ⟨ys, k, hk, hxy, _, hxl, hfl⟩ := DataW.trod_struct ht hf
  obtain ⟨cl⟩ := cs
  match ys, hxl, cl, hsz with
  | [y0, y1, y2], _, [v0, v1, v2], _ =>
    have g0 := hfl 0 f0 rfl
    have g1 := hfl 1 f1 rfl
    have g2 := hfl 2 f2 rfl
    simp [Value.cells, o0, o1, o2, c0.1, c0.2.1, c0.2.2] at g0 g1 g2
    simp only [Prod.mk.injEq] at hxy
    have hd : d = .agg [y0.1, y1.1, y2.1] := by simpa using hxy.1
    have hp : p = y0.2 ++ (y1.2 ++ y2.2) := by simpa using hxy.2
    subst hd hp
    obtain ⟨x1, e1, _, w1⟩ := DataW.trod_int h1 g1
    obtain ⟨x2, e2, _, w2⟩ := DataW.trod_int h2 g2
    simp only [List.cons.injEq, and_true] at e1 e2
    subst e1 e2
    obtain ⟨sa, n, ka, xs, rfl, hu, _, _, hd3⟩ := open_u64f h0 he hc g0 (fun x hx => hlt x (by simp [hx]))
    have b1 := bounds_u64 w1
    have b2 := bounds_u64 w2
    obtain ⟨R, rfl⟩ := Int.eq_ofNat_of_zero_le b1.1
    obtain ⟨Z, rfl⟩ := Int.eq_ofNat_of_zero_le b2.1
    refine ⟨sa, n, ka, xs, R, Z, rfl, hu, by have := b1.2; omega, by have := b2.2; omega, fun hn => ?_⟩
    obtain ⟨es, sp, q1, q2⟩ := hd3 hn
    exact ⟨_, _, es, sp, by rw [q1], q2⟩
theorem sized_row16 {H : Type} {P : Program} {ts : List TypeId} {ds : List (DataW H)} (h : (DataW.weightsEach P ts ds).all (· ≤ reachBytes) = true) {j : Nat} {t e : TypeId} {f0 f1 f2 : Field} {d1 d2 : DataW H} {es sp : List (DataW H)} (ht : ts[j]? = some t) (hd : ds[j]? = some (.agg [.slice es sp, d1, d2])) (hu : P.underlying t = some (.struct #[f0, f1, f2])) (h2 : P.underlying f0.type = some (.slice e)) :
    (es.length + sp.length) * P.bytesOf e ≤ reachBytes := by
  have := List.all_eq_true.1 h _ (DataW.weights_mem_each ht hd ((es.length + sp.length) * P.bytesOf e) (by simp [DataW.weights, hu, DataW.weightsEach, h2]))
  simpa using this
theorem rupdates_row (sx : Option Addr) (n kx : Nat) (zs : List Nat) (r c : Int) (sm : Option Addr) (m km : Nat) (xs : List Nat) (wh : Option Addr) (q wk : Nat) (hs : List Nat) (R Z : Nat) (w : World) (hu : U64At w sx n zs) (hn : n ≤ 17592186043904) (_h1 : -9223372036854775808 ≤ r ∧ r < 9223372036854775808) (_h2 : -9223372036854775808 ≤ c ∧ c < 9223372036854775808) (hv : U64At w sm m xs) (hm : m ≤ 17592186043904) (hw : U64At w wh q hs) (hq : q ≤ 17592186043904) (hR : R < 18446744073709551616) (hZ : Z < 18446744073709551616) :
    Calls Try.prog 3 #[.slice sx n kx, .agg #[.int .i64 r, .int .i64 c, .slice sm m km], .agg #[.slice wh q wk, .int .u64 (R : Int), .int .u64 (Z : Int)]] w fun e w' => e = .returned (.bool true) ∧ Below w.heap.size w w' := rupdates_walk sx n kx zs r c sm m km xs wh q wk hs R Z w hu hn hv hm hw hq hR hZ

theorem own : ownKnob Try.prog.godebug = none := by kernel_rfl
set_option maxRecDepth 100000 in
theorem rootUpdates_lifted (os : Os) (started : os.Started) (H : Type) (enc : TypeId × Value → H) :
    ReturnsInHanded {} Try.checked os 3 .any (Rows.rootUpdatesSpec.pre6 enc Try.prog Try.f3 Rows.rootUpdatesRow.domain false) (Rows.rootUpdatesSpec.post enc Try.prog Try.f3 false true false false) := by
  refine returnsInHanded_of_change_sized (C := Try.checked) own started (by kernel_rfl) Try.func3
    (ChangeSpec.witness6 (enc := enc) (C := Try.checked) false ⟨#[], #[.slice none 0 0, .agg #[.int .i64 0, .int .i64 0, .slice none 0 0], .agg #[.slice none 0 0, .int .u64 0, .int .u64 0]], []⟩ 8 (by kernel_rfl) (by kernel_rfl) (by kernel_rfl) (by kernel_rfl)) ?_
  intro W base args ds gs before hval0 hW _ hsz0 _
  have hsz : (DataW.weightsEach Try.prog (Try.f3.params.toList ++ Rows.rootUpdatesSpec.plain.varTypes Try.prog) (ds ++ gs)).all (· ≤ reachBytes) = true := hsz0
  have hval : ∀ (j : Nat) t v, Try.f3.params[j]? = some t → args[j]? = some v → Value.okWide Try.prog W .any base t v := hval0
  have hW' := hW
  obtain ⟨p, q, hA0, hV, rfl, hfz, hnd⟩ := hW
  have hA : DataW.TrodAll enc Try.prog W 0 (fun _ => true) true Try.f3.params.toList args.toList ds p := hA0
  rw [Try.params3] at hA hval hsz
  obtain ⟨v0, vs0, d0, ds0, p0, q0, hargs, rfl, rfl, h0, r0⟩ := trodAll_cons hA
  obtain ⟨v1, vs1, d1, ds1, p1, q1, rfl, rfl, rfl, h1, r1⟩ := trodAll_cons r0
  obtain ⟨v2, vs2, d2, ds2, p2, q2, rfl, rfl, rfl, h2, r2⟩ := trodAll_cons r1
  obtain ⟨rfl, rfl, rfl⟩ := trodAll_nil r2
  obtain rfl : args = #[v0, v1, v2] := by cases args; simp_all
  obtain ⟨rfl, rfl⟩ := trodVars_none hV
  have hlt0 : ∀ x ∈ p0, x.block < W.heap.size := fun x hx => by
    have := hW'.lt x (by simp [hx])
    simpa using this
  obtain ⟨sa0, sn0, sc0, xs0, rfl, hu0, _, _, hd0⟩ := open_u64s Try.underlying22 Try.underlying25 (show Try.prog.cellsOf 25 = 1 by kernel_rfl) (hval 0 22 v0 rfl rfl) h0 hlt0
  have hb0 : sn0 ≤ 17592186043904 := by
    by_cases c : sn0 = 0
    · omega
    · obtain ⟨es, sp, e1, e2⟩ := hd0 c
      subst e1
      have := sized_slice hsz (j := 0) (t := 22) (e := 25) rfl rfl Try.underlying22
      rw [show Try.prog.bytesOf 25 = 8 by kernel_rfl] at this
      simp only [reachBytes] at this
      omega
  have hlt1 : ∀ x ∈ p1, x.block < W.heap.size := fun x hx => by
    have := hW'.lt x (by simp [hx])
    simpa using this
  obtain ⟨rw1, cl1, sa1, sn1, sc1, xs1, rfl, hr1, hk1, hu1, _, _, hd1⟩ := open_mat Try.underlying24 (by kernel_rfl) (show Try.prog.cellsOf 24 = 3 by kernel_rfl) Try.underlying3 Try.underlying3 Try.underlying22 Try.underlying25 (show Try.prog.cellsOf 25 = 1 by kernel_rfl) (hval 1 24 v1 rfl rfl) h1 hlt1
  have hb1 : sn1 ≤ 17592186043904 := by
    by_cases c : sn1 = 0
    · omega
    · obtain ⟨d0, d1, es, sp, e1, e2⟩ := hd1 c
      subst e1
      have := sized_mat hsz (j := 1) (t := 24) (e := 25) rfl rfl Try.underlying24 Try.underlying22
      rw [show Try.prog.bytesOf 25 = 8 by kernel_rfl] at this
      simp only [reachBytes] at this
      omega
  have hlt2 : ∀ x ∈ p2, x.block < W.heap.size := fun x hx => by
    have := hW'.lt x (by simp [hx])
    simpa using this
  obtain ⟨sa2, sn2, sc2, xs2, rr2, rz2, rfl, hu2, hr2, hz2, hd2⟩ := open_row16 Try.underlying27 rfl rfl rfl ⟨by kernel_rfl, by kernel_rfl, by kernel_rfl⟩ (show Try.prog.cellsOf 27 = 3 by kernel_rfl) Try.underlying22 Try.underlying25 Try.underlying25 Try.underlying25 (show Try.prog.cellsOf 25 = 1 by kernel_rfl) (hval 2 27 v2 rfl rfl) h2 hlt2
  have hb2 : sn2 ≤ 17592186043904 := by
    by_cases c : sn2 = 0
    · omega
    · obtain ⟨d1, d2, es, sp, e1, e2⟩ := hd2 c
      subst e1
      have := sized_row16 hsz (j := 2) (t := 27) (e := 25) rfl rfl Try.underlying27 Try.underlying22
      rw [show Try.prog.bytesOf 25 = 8 by kernel_rfl] at this
      simp only [reachBytes] at this
      omega
  clear hA0 hval0
  simp only [List.append_nil] at hW'
  refine (rupdates_row sa0 sn0 sc0 xs0 rw1 cl1 sa1 sn1 sc1 xs1 sa2 sn2 sc2 xs2 rr2 rz2 W hu0 hb0 hr1 hk1 hu1 hb1 hu2 hb2 hr2 hz2).mono fun e W' ⟨he, bel⟩ => ?_
  subst he
  exact ⟨_, rfl, _, _, _, [], p0 ++ (p1 ++ (p2 ++ ([]))), [], hW', trodAll_mk1 (shut_bool Try.underlying4 _), (trodAll_cons_mk (Below.trod (show laidOutB Try.prog = true by kernel_rfl) (by kernel_rfl) (of_decide_eq_true (by kernel_rfl)) h0 bel hlt0) (trodAll_cons_mk (Below.trod (show laidOutB Try.prog = true by kernel_rfl) (by kernel_rfl) (of_decide_eq_true (by kernel_rfl)) h1 bel hlt1) (trodAll_cons_mk (Below.trod (show laidOutB Try.prog = true by kernel_rfl) (by kernel_rfl) (of_decide_eq_true (by kernel_rfl)) h2 bel hlt2) trodAll_mk0))), rfl, bel.frame _, fun h => by cases h⟩

theorem rootUpdates_row : Rows.RootUpdatesSaid :=
  OpenClaim.holds_of_wide 3 Try.f3 rfl rfl rfl rfl rfl rfl rfl ⟨rfl, rfl, rfl, rfl, rfl⟩ rfl rfl rfl rfl rfl (by kernel_rfl) Try.func3 (by kernel_rfl)
    (of_decide_eq_true (by kernel_rfl)) (by unfold Func.isWrapper; first | (rw [if_pos (by decide +kernel)]; kernel_rfl) | (rw [if_neg (by decide +kernel)]; exact ⟨rfl, rfl⟩))
    (fun os started H enc _ => rootUpdates_lifted os started H enc)

#print axioms rootUpdates_row
end Go.Proofs.Ythakhmnlpmfdgaa
