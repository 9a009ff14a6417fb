
/- Proved: for all bits of a matrix (of at most 17592186043904 numbers, as many as the model lets a list of numbers have; any ints for rows and columns, good or not), any two ints, any bits of a list and any bits of a list of lists (each as long as the model lets one be) the law MatrixMakes answers true: Check, Zero, Eye, Diag and Of answer what the document's Check, Zero, Eye, Diag and Of say, bit by bit, with the same errors in the same order and nothing beside an error; chapter 8's first examples hold. No condition. -/
import Derived.Test.YtokeialkeadanaaP49
import Derived.Test.YtokeialkeadanaaP16
import Derived.Test.YtokeialkeadanaaRows
import Derived.ProofKit
import Derived.OpenShut
import Derived.Stop.Joined
import Derived.SizedLaws
import Derived.Carry
import Derived.Lib.SmallJoins
namespace Go.Proofs.Ytokeialkeadanaa
open Go.ChangeShapes Go.WideShapes Go.ChangeAt Go.RowKit Go.IntWalk

theorem mmake_row (rx cx : Int) (sa : Option Addr) (n ka : Nat) (xs : List Nat) (r0 c0 : Int) (sd : Option Addr) (q kd : Nat) (ds : List Nat) (ra : Option Addr) (N rc : Nat) (RA : Nat → Option Addr) (M RC : Nat → Nat) (X : Nat → List Nat) (w : World) (_h1 : -9223372036854775808 ≤ rx ∧ rx < 9223372036854775808) (_h2 : -9223372036854775808 ≤ cx ∧ cx < 9223372036854775808) (hu : U64At w sa n xs) (hn : n ≤ 17592186043904) (_h3 : -9223372036854775808 ≤ r0 ∧ r0 ≤ 9223372036854775807) (_h4 : -9223372036854775808 ≤ c0 ∧ c0 ≤ 9223372036854775807) (hd : U64At w sd q ds) (hq : q ≤ 17592186043904) (hr : RwIn w ra N RA M RC X) (hN : N ≤ 5864062014805) (hM : ∀ i, i < N → M i ≤ 17592186043904) :
    Calls Try.prog 3 #[.agg #[.int .i64 rx, .int .i64 cx, .slice sa n ka], .int .i64 r0, .int .i64 c0, .slice sd q kd, .slice ra N rc] w fun e w' => e = .returned (.bool true) ∧ Below w.heap.size w w' := mmake_walk rx cx sa n ka xs r0 c0 sd q kd ds ra N rc RA M RC X w hu hn hd hq ⟨fun i hi => ⟨hr.1 i hi, hM i hi⟩, hr.2⟩ hN

theorem own : ownKnob Try.prog.godebug = none := by kernel_rfl
set_option maxRecDepth 100000 in
theorem matrixMakes_lifted (os : Os) (started : os.Started) (H : Type) (enc : TypeId × Value → H) :
    ReturnsInHanded {} Try.checked os 3 .any (Rows.matrixMakesSpec.pre6 enc Try.prog Try.f3 Rows.matrixMakesRow.domain false) (Rows.matrixMakesSpec.post enc Try.prog Try.f3 false true false false) := by
  refine returnsInHanded_of_change_sized (C := Try.checked) own started (by kernel_rfl) Try.func3
    (ChangeSpec.witness6 (enc := enc) (C := Try.checked) false ⟨#[], #[.agg #[.int .i64 0, .int .i64 0, .slice none 0 0], .int .i64 0, .int .i64 0, .slice none 0 0, .slice none 0 0], []⟩ 8 (by kernel_rfl) (by kernel_rfl) (by kernel_rfl) (by kernel_rfl)) ?_
  intro W base args ds gs before hval0 hW _ hsz0 _
  have hsz : (DataW.weightsEach Try.prog (Try.f3.params.toList ++ Rows.matrixMakesSpec.plain.varTypes Try.prog) (ds ++ gs)).all (· ≤ reachBytes) = true := hsz0
  have hval : ∀ (j : Nat) t v, Try.f3.params[j]? = some t → args[j]? = some v → Value.okWide Try.prog W .any base t v := hval0
  have hW' := hW
  obtain ⟨p, q, hA0, hV, rfl, hfz, hnd⟩ := hW
  have hA : DataW.TrodAll enc Try.prog W 0 (fun _ => true) true Try.f3.params.toList args.toList ds p := hA0
  rw [Try.params3] at hA hval hsz
  obtain ⟨v0, vs0, d0, ds0, p0, q0, hargs, rfl, rfl, h0, r0⟩ := trodAll_cons hA
  obtain ⟨v1, vs1, d1, ds1, p1, q1, rfl, rfl, rfl, h1, r1⟩ := trodAll_cons r0
  obtain ⟨v2, vs2, d2, ds2, p2, q2, rfl, rfl, rfl, h2, r2⟩ := trodAll_cons r1
  obtain ⟨v3, vs3, d3, ds3, p3, q3, rfl, rfl, rfl, h3, r3⟩ := trodAll_cons r2
  obtain ⟨v4, vs4, d4, ds4, p4, q4, rfl, rfl, rfl, h4, r4⟩ := trodAll_cons r3
  obtain ⟨rfl, rfl, rfl⟩ := trodAll_nil r4
  obtain rfl : args = #[v0, v1, v2, v3, v4] := by cases args; simp_all
  obtain ⟨rfl, rfl⟩ := trodVars_none hV
  have hlt0 : ∀ x ∈ p0, x.block < W.heap.size := fun x hx => by
    have := hW'.lt x (by simp [hx])
    simpa using this
  obtain ⟨rw0, cl0, sa0, sn0, sc0, xs0, rfl, hr0, hk0, hu0, _, _, hd0⟩ := open_mat Try.underlying24 (by kernel_rfl) (show Try.prog.cellsOf 24 = 3 by kernel_rfl) Try.underlying3 Try.underlying3 Try.underlying22 Try.underlying74 (show Try.prog.cellsOf 74 = 1 by kernel_rfl) (hval 0 24 v0 rfl rfl) h0 hlt0
  have hb0 : sn0 ≤ 17592186043904 := by
    by_cases c : sn0 = 0
    · omega
    · obtain ⟨d0, d1, es, sp, e1, e2⟩ := hd0 c
      subst e1
      have := sized_mat hsz (j := 0) (t := 24) (e := 74) rfl rfl Try.underlying24 Try.underlying22
      rw [show Try.prog.bytesOf 74 = 8 by kernel_rfl] at this
      simp only [reachBytes] at this
      omega
  obtain ⟨a1, rfl, rfl, rfl, w1⟩ := open_int Try.underlying3 (hval 1 3 v1 rfl rfl) h1
  obtain ⟨a2, rfl, rfl, rfl, w2⟩ := open_int Try.underlying3 (hval 2 3 v2 rfl rfl) h2
  have hlt3 : ∀ x ∈ p3, x.block < W.heap.size := fun x hx => by
    have := hW'.lt x (by simp [hx])
    simpa using this
  obtain ⟨sa3, sn3, sc3, xs3, rfl, hu3, _, _, hd3⟩ := open_u64s Try.underlying22 Try.underlying74 (show Try.prog.cellsOf 74 = 1 by kernel_rfl) (hval 3 22 v3 rfl rfl) h3 hlt3
  have hb3 : sn3 ≤ 17592186043904 := by
    by_cases c : sn3 = 0
    · omega
    · obtain ⟨es, sp, e1, e2⟩ := hd3 c
      subst e1
      have := sized_slice hsz (j := 3) (t := 22) (e := 74) rfl rfl Try.underlying22
      rw [show Try.prog.bytesOf 74 = 8 by kernel_rfl] at this
      simp only [reachBytes] at this
      omega
  have hlt4 : ∀ x ∈ p4, x.block < W.heap.size := fun x hx => by
    have := hW'.lt x (by simp [hx])
    simpa using this
  obtain ⟨sa4, sn4, sc4, fa4, fm4, fc4, fx4, rfl, hu4, _, _, hd4⟩ := open_rows64 Try.underlying25 Try.underlying22 Try.underlying74 (show Try.prog.cellsOf 22 = 1 by kernel_rfl) (show Try.prog.cellsOf 74 = 1 by kernel_rfl) (hval 4 25 v4 rfl rfl) h4 hlt4
  have hb4 : sn4 ≤ 5864062014805 := by
    by_cases c : sn4 = 0
    · omega
    · obtain ⟨es, sp, e1, e2, _⟩ := hd4 c
      subst e1
      have := sized_slice hsz (j := 4) (t := 25) (e := 22) rfl rfl Try.underlying25
      rw [show Try.prog.bytesOf 22 = 24 by kernel_rfl] at this
      simp only [reachBytes] at this
      omega
  have hm4 : ∀ i, i < sn4 → fm4 i ≤ 17592186043904 := fun i hi => by
    by_cases c : fm4 i = 0
    · omega
    · obtain ⟨es, sp, e1, e2, hrow⟩ := hd4 (by omega)
      obtain ⟨es', sp', e3, e4⟩ := hrow i hi c
      subst e1
      have := sized_rows hsz (j := 4) (t := 25) (e := 22) (q := 74) rfl rfl Try.underlying25 Try.underlying22 e3
      rw [show Try.prog.bytesOf 74 = 8 by kernel_rfl] at this
      simp only [reachBytes] at this
      omega
  clear hA0 hval0
  simp only [List.append_nil] at hW'
  refine (mmake_row rw0 cl0 sa0 sn0 sc0 xs0 a1 a2 sa3 sn3 sc3 xs3 sa4 sn4 sc4 fa4 fm4 fc4 fx4 W hr0 hk0 hu0 hb0 (bounds_i64 w1) (bounds_i64 w2) hu3 hb3 hu4 hb4 hm4).mono fun e W' ⟨he, bel⟩ => ?_
  subst he
  exact ⟨_, rfl, _, _, _, [], p0 ++ ([] ++ ([] ++ (p3 ++ (p4 ++ ([]))))), [], hW', trodAll_mk1 (shut_bool Try.underlying4 _), (trodAll_cons_mk (Below.trod (show laidOutB Try.prog = true by kernel_rfl) (by kernel_rfl) (of_decide_eq_true (by kernel_rfl)) h0 bel hlt0) (trodAll_cons_mk (shut_int Try.underlying3 w1) (trodAll_cons_mk (shut_int Try.underlying3 w2) (trodAll_cons_mk (Below.trod (show laidOutB Try.prog = true by kernel_rfl) (by kernel_rfl) (of_decide_eq_true (by kernel_rfl)) h3 bel hlt3) (trodAll_cons_mk (Below.trod (show laidOutB Try.prog = true by kernel_rfl) (by kernel_rfl) (of_decide_eq_true (by kernel_rfl)) h4 bel hlt4) trodAll_mk0))))), rfl, bel.frame _, fun h => by cases h⟩

theorem matrixMakes_row : Rows.MatrixMakesSaid :=
  OpenClaim.holds_of_wide 3 Try.f3 rfl rfl rfl rfl rfl rfl rfl ⟨rfl, rfl, rfl, rfl, rfl⟩ rfl rfl rfl rfl rfl (by kernel_rfl) Try.func3 (by kernel_rfl)
    (of_decide_eq_true (by kernel_rfl)) (by unfold Func.isWrapper; first | (rw [if_pos (by decide +kernel)]; kernel_rfl) | (rw [if_neg (by decide +kernel)]; exact ⟨rfl, rfl⟩))
    (fun os started H enc _ => matrixMakes_lifted os started H enc)

#print axioms matrixMakes_row
end Go.Proofs.Ytokeialkeadanaa
