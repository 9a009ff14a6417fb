
/- Proved: for all bits of two matrices (each of at most 17592186043904 numbers, as many as the model lets a list of numbers have; any ints for rows and columns, good or not) the law MatrixKinds answers true: Symmetric, Lower, Equal, Mirror, Mean, Trace and Norms answer what the document's do, bit by bit, with the same errors in the same order and nothing beside an error; every matrix is Equal to itself; chapter 8's first examples hold. No condition. -/
import Derived.Test.YthnblidkbcficaaP49
import Derived.Test.YthnblidkbcficaaRows
import Derived.ProofKit
import Derived.OpenShut
import Derived.Stop.Joined
import Derived.SizedLaws
import Derived.Carry
import Derived.Lib.SmallJoins
namespace Go.Proofs.Ythnblidkbcficaa
open Go.ChangeShapes Go.WideShapes Go.ChangeAt Go.RowKit Go.IntWalk

theorem mkind_row (rx cx : Int) (sa : Option Addr) (n ka : Nat) (xs : List Nat) (ry cy : Int) (sb : Option Addr) (m kb : Nat) (ys : List Nat) (w : World) (_h1 : -9223372036854775808 ≤ rx ∧ rx < 9223372036854775808) (_h2 : -9223372036854775808 ≤ cx ∧ cx < 9223372036854775808) (hu : U64At w sa n xs) (hn : n ≤ 17592186043904) (_h3 : -9223372036854775808 ≤ ry ∧ ry < 9223372036854775808) (_h4 : -9223372036854775808 ≤ cy ∧ cy < 9223372036854775808) (hv : U64At w sb m ys) (hm : m ≤ 17592186043904) :
    Calls Try.prog 8 #[.agg #[.int .i64 rx, .int .i64 cx, .slice sa n ka], .agg #[.int .i64 ry, .int .i64 cy, .slice sb m kb]] w fun e w' => e = .returned (.bool true) ∧ Below w.heap.size w w' := mkind_walk rx cx sa n ka xs ry cy sb m kb ys w hu hn hv hm

theorem own : ownKnob Try.prog.godebug = none := by kernel_rfl
set_option maxRecDepth 100000 in
theorem matrixKinds_lifted (os : Os) (started : os.Started) (H : Type) (enc : TypeId × Value → H) :
    ReturnsInHanded {} Try.checked os 8 .any (Rows.matrixKindsSpec.pre6 enc Try.prog Try.f8 Rows.matrixKindsRow.domain false) (Rows.matrixKindsSpec.post enc Try.prog Try.f8 false true false false) := by
  refine returnsInHanded_of_change_sized (C := Try.checked) own started (by kernel_rfl) Try.func8
    (ChangeSpec.witness6 (enc := enc) (C := Try.checked) false ⟨#[], #[.agg #[.int .i64 0, .int .i64 0, .slice none 0 0], .agg #[.int .i64 0, .int .i64 0, .slice none 0 0]], []⟩ 8 (by kernel_rfl) (by kernel_rfl) (by kernel_rfl) (by kernel_rfl)) ?_
  intro W base args ds gs before hval0 hW _ hsz0 _
  have hsz : (DataW.weightsEach Try.prog (Try.f8.params.toList ++ Rows.matrixKindsSpec.plain.varTypes Try.prog) (ds ++ gs)).all (· ≤ reachBytes) = true := hsz0
  have hval : ∀ (j : Nat) t v, Try.f8.params[j]? = some t → args[j]? = some v → Value.okWide Try.prog W .any base t v := hval0
  have hW' := hW
  obtain ⟨p, q, hA0, hV, rfl, hfz, hnd⟩ := hW
  have hA : DataW.TrodAll enc Try.prog W 0 (fun _ => true) true Try.f8.params.toList args.toList ds p := hA0
  rw [Try.params8] at hA hval hsz
  obtain ⟨v0, vs0, d0, ds0, p0, q0, hargs, rfl, rfl, h0, r0⟩ := trodAll_cons hA
  obtain ⟨v1, vs1, d1, ds1, p1, q1, rfl, rfl, rfl, h1, r1⟩ := trodAll_cons r0
  obtain ⟨rfl, rfl, rfl⟩ := trodAll_nil r1
  obtain rfl : args = #[v0, v1] := by cases args; simp_all
  obtain ⟨rfl, rfl⟩ := trodVars_none hV
  have hlt0 : ∀ x ∈ p0, x.block < W.heap.size := fun x hx => by
    have := hW'.lt x (by simp [hx])
    simpa using this
  obtain ⟨rw0, cl0, sa0, sn0, sc0, xs0, rfl, hr0, hk0, hu0, _, _, hd0⟩ := open_mat Try.underlying24 (by kernel_rfl) (show Try.prog.cellsOf 24 = 3 by kernel_rfl) Try.underlying3 Try.underlying3 Try.underlying22 Try.underlying48 (show Try.prog.cellsOf 48 = 1 by kernel_rfl) (hval 0 24 v0 rfl rfl) h0 hlt0
  have hb0 : sn0 ≤ 17592186043904 := by
    by_cases c : sn0 = 0
    · omega
    · obtain ⟨d0, d1, es, sp, e1, e2⟩ := hd0 c
      subst e1
      have := sized_mat hsz (j := 0) (t := 24) (e := 48) rfl rfl Try.underlying24 Try.underlying22
      rw [show Try.prog.bytesOf 48 = 8 by kernel_rfl] at this
      simp only [reachBytes] at this
      omega
  have hlt1 : ∀ x ∈ p1, x.block < W.heap.size := fun x hx => by
    have := hW'.lt x (by simp [hx])
    simpa using this
  obtain ⟨rw1, cl1, sa1, sn1, sc1, xs1, rfl, hr1, hk1, hu1, _, _, hd1⟩ := open_mat Try.underlying24 (by kernel_rfl) (show Try.prog.cellsOf 24 = 3 by kernel_rfl) Try.underlying3 Try.underlying3 Try.underlying22 Try.underlying48 (show Try.prog.cellsOf 48 = 1 by kernel_rfl) (hval 1 24 v1 rfl rfl) h1 hlt1
  have hb1 : sn1 ≤ 17592186043904 := by
    by_cases c : sn1 = 0
    · omega
    · obtain ⟨d0, d1, es, sp, e1, e2⟩ := hd1 c
      subst e1
      have := sized_mat hsz (j := 1) (t := 24) (e := 48) rfl rfl Try.underlying24 Try.underlying22
      rw [show Try.prog.bytesOf 48 = 8 by kernel_rfl] at this
      simp only [reachBytes] at this
      omega
  clear hA0 hval0
  simp only [List.append_nil] at hW'
  refine (mkind_row rw0 cl0 sa0 sn0 sc0 xs0 rw1 cl1 sa1 sn1 sc1 xs1 W hr0 hk0 hu0 hb0 hr1 hk1 hu1 hb1).mono fun e W' ⟨he, bel⟩ => ?_
  subst he
  exact ⟨_, rfl, _, _, _, [], p0 ++ (p1 ++ ([])), [], hW', trodAll_mk1 (shut_bool Try.underlying4 _), (trodAll_cons_mk (Below.trod (show laidOutB Try.prog = true by kernel_rfl) (by kernel_rfl) (of_decide_eq_true (by kernel_rfl)) h0 bel hlt0) (trodAll_cons_mk (Below.trod (show laidOutB Try.prog = true by kernel_rfl) (by kernel_rfl) (of_decide_eq_true (by kernel_rfl)) h1 bel hlt1) trodAll_mk0)), rfl, bel.frame _, fun h => by cases h⟩

theorem matrixKinds_row : Rows.MatrixKindsSaid :=
  OpenClaim.holds_of_wide 8 Try.f8 rfl rfl rfl rfl rfl rfl rfl ⟨rfl, rfl, rfl, rfl, rfl⟩ rfl rfl rfl rfl rfl (by kernel_rfl) Try.func8 (by kernel_rfl)
    (of_decide_eq_true (by kernel_rfl)) (by unfold Func.isWrapper; first | (rw [if_pos (by decide +kernel)]; kernel_rfl) | (rw [if_neg (by decide +kernel)]; exact ⟨rfl, rfl⟩))
    (fun os started H enc _ => matrixKinds_lifted os started H enc)

#print axioms matrixKinds_row
end Go.Proofs.Ythnblidkbcficaa
