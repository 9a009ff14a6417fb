
/- Proved: for all bits of a matrix (of at most 17592186043904 numbers, as many as the model lets a list of numbers have; any ints for rows and columns, good or not), every two ints for a place and every bits of a number the law MatrixPlaces answers true: Get, With, Row and Col answer what the document's Check, At, Put, Row and Col say, bit by bit, with the same errors in the same order and nothing beside an error; chapter 8's first examples hold. No condition. -/
import Derived.Test.YtfkpdjieiifldaaP49
import Derived.Test.YtfkpdjieiifldaaRows
import Derived.ProofKit
import Derived.OpenShut
import Derived.Stop.Joined
import Derived.SizedLaws
import Derived.Carry
import Derived.Lib.SmallJoins
namespace Go.Proofs.Ytfkpdjieiifldaa
open Go.ChangeShapes Go.WideShapes Go.ChangeAt Go.RowKit Go.IntWalk

theorem mplace_row (rx cx : Int) (sa : Option Addr) (n ka : Nat) (xs : List Nat) (i j : Int) (x : Nat) (w : World) (_h1 : -9223372036854775808 ≤ rx ∧ rx < 9223372036854775808) (_h2 : -9223372036854775808 ≤ cx ∧ cx < 9223372036854775808) (hu : U64At w sa n xs) (hn : n ≤ 17592186043904) (_h3 : -9223372036854775808 ≤ i ∧ i ≤ 9223372036854775807) (_h4 : -9223372036854775808 ≤ j ∧ j ≤ 9223372036854775807) (hx : x < 18446744073709551616) :
    Calls Try.prog 4 #[.agg #[.int .i64 rx, .int .i64 cx, .slice sa n ka], .int .i64 i, .int .i64 j, .int .u64 x] w fun e w' => e = .returned (.bool true) ∧ Below w.heap.size w w' := mplace_walk rx cx sa n ka xs i j x w hu hn hx

theorem own : ownKnob Try.prog.godebug = none := by kernel_rfl
set_option maxRecDepth 100000 in
theorem matrixPlaces_lifted (os : Os) (started : os.Started) (H : Type) (enc : TypeId × Value → H) :
    ReturnsInHanded {} Try.checked os 4 .any (Rows.matrixPlacesSpec.pre6 enc Try.prog Try.f4 Rows.matrixPlacesRow.domain false) (Rows.matrixPlacesSpec.post enc Try.prog Try.f4 false true false false) := by
  refine returnsInHanded_of_change_sized (C := Try.checked) own started (by kernel_rfl) Try.func4
    (ChangeSpec.witness6 (enc := enc) (C := Try.checked) false ⟨#[], #[.agg #[.int .i64 0, .int .i64 0, .slice none 0 0], .int .i64 0, .int .i64 0, .int .u64 0], []⟩ 8 (by kernel_rfl) (by kernel_rfl) (by kernel_rfl) (by kernel_rfl)) ?_
  intro W base args ds gs before hval0 hW _ hsz0 _
  have hsz : (DataW.weightsEach Try.prog (Try.f4.params.toList ++ Rows.matrixPlacesSpec.plain.varTypes Try.prog) (ds ++ gs)).all (· ≤ reachBytes) = true := hsz0
  have hval : ∀ (j : Nat) t v, Try.f4.params[j]? = some t → args[j]? = some v → Value.okWide Try.prog W .any base t v := hval0
  have hW' := hW
  obtain ⟨p, q, hA0, hV, rfl, hfz, hnd⟩ := hW
  have hA : DataW.TrodAll enc Try.prog W 0 (fun _ => true) true Try.f4.params.toList args.toList ds p := hA0
  rw [Try.params4] at hA hval hsz
  obtain ⟨v0, vs0, d0, ds0, p0, q0, hargs, rfl, rfl, h0, r0⟩ := trodAll_cons hA
  obtain ⟨v1, vs1, d1, ds1, p1, q1, rfl, rfl, rfl, h1, r1⟩ := trodAll_cons r0
  obtain ⟨v2, vs2, d2, ds2, p2, q2, rfl, rfl, rfl, h2, r2⟩ := trodAll_cons r1
  obtain ⟨v3, vs3, d3, ds3, p3, q3, rfl, rfl, rfl, h3, r3⟩ := trodAll_cons r2
  obtain ⟨rfl, rfl, rfl⟩ := trodAll_nil r3
  obtain rfl : args = #[v0, v1, v2, v3] := by cases args; simp_all
  obtain ⟨rfl, rfl⟩ := trodVars_none hV
  have hlt0 : ∀ x ∈ p0, x.block < W.heap.size := fun x hx => by
    have := hW'.lt x (by simp [hx])
    simpa using this
  obtain ⟨rw0, cl0, sa0, sn0, sc0, xs0, rfl, hr0, hk0, hu0, _, _, hd0⟩ := open_mat Try.underlying24 (by kernel_rfl) (show Try.prog.cellsOf 24 = 3 by kernel_rfl) Try.underlying3 Try.underlying3 Try.underlying22 Try.underlying48 (show Try.prog.cellsOf 48 = 1 by kernel_rfl) (hval 0 24 v0 rfl rfl) h0 hlt0
  have hb0 : sn0 ≤ 17592186043904 := by
    by_cases c : sn0 = 0
    · omega
    · obtain ⟨d0, d1, es, sp, e1, e2⟩ := hd0 c
      subst e1
      have := sized_mat hsz (j := 0) (t := 24) (e := 48) rfl rfl Try.underlying24 Try.underlying22
      rw [show Try.prog.bytesOf 48 = 8 by kernel_rfl] at this
      simp only [reachBytes] at this
      omega
  obtain ⟨a1, rfl, rfl, rfl, w1⟩ := open_int Try.underlying3 (hval 1 3 v1 rfl rfl) h1
  obtain ⟨a2, rfl, rfl, rfl, w2⟩ := open_int Try.underlying3 (hval 2 3 v2 rfl rfl) h2
  obtain ⟨a3, rfl, rfl, rfl, w3⟩ := open_int Try.underlying48 (hval 3 48 v3 rfl rfl) h3
  obtain ⟨n3, rfl⟩ := Int.eq_ofNat_of_zero_le (bounds_u64 w3).1
  have l3 : n3 < 18446744073709551616 := by have := (bounds_u64 w3).2; omega
  clear hA0 hval0
  simp only [List.append_nil] at hW'
  refine (mplace_row rw0 cl0 sa0 sn0 sc0 xs0 a1 a2 n3 W hr0 hk0 hu0 hb0 (bounds_i64 w1) (bounds_i64 w2) l3).mono fun e W' ⟨he, bel⟩ => ?_
  subst he
  exact ⟨_, rfl, _, _, _, [], p0 ++ ([]), [], hW', trodAll_mk1 (shut_bool Try.underlying4 _), (trodAll_cons_mk (Below.trod (show laidOutB Try.prog = true by kernel_rfl) (by kernel_rfl) (of_decide_eq_true (by kernel_rfl)) h0 bel hlt0) (trodAll_cons_mk (shut_int Try.underlying3 w1) (trodAll_cons_mk (shut_int Try.underlying3 w2) (trodAll_cons_mk (shut_int Try.underlying48 w3) trodAll_mk0)))), rfl, bel.frame _, fun h => by cases h⟩

theorem matrixPlaces_row : Rows.MatrixPlacesSaid :=
  OpenClaim.holds_of_wide 4 Try.f4 rfl rfl rfl rfl rfl rfl rfl ⟨rfl, rfl, rfl, rfl, rfl⟩ rfl rfl rfl rfl rfl (by kernel_rfl) Try.func4 (by kernel_rfl)
    (of_decide_eq_true (by kernel_rfl)) (by unfold Func.isWrapper; first | (rw [if_pos (by decide +kernel)]; kernel_rfl) | (rw [if_neg (by decide +kernel)]; exact ⟨rfl, rfl⟩))
    (fun os started H enc _ => matrixPlaces_lifted os started H enc)

#print axioms matrixPlaces_row
end Go.Proofs.Ytfkpdjieiifldaa
