
/- Proved: for every list of parts (any kinds, axes, noises and fadings, as many as the model lets a list have) and every number of ticks the law ModelMoves answers true: model.Seconds answers the document's number bit by bit and its error; model.F, model.Q and model.G of that motion and those ticks answer the document's error, or the document's matrix number by number; chapter 14's first examples hold. No condition. -/
import Derived.Test.YtcaelnpddipmhaaP49
import Derived.Test.YtcaelnpddipmhaaP33
import Derived.Test.YtcaelnpddipmhaaRows
import Derived.ProofKit
import Derived.OpenShut
import Derived.ChangeSlices
import Derived.WideShapes
import Derived.Stop.Joined
import Derived.SizedLaws
import Derived.Carry
import Derived.Deep.SlicePairs
import Derived.Lib.SmallJoins
namespace Go.Proofs.Ytcaelnpddipmhaa
open Go.ChangeShapes Go.WideShapes Go.ChangeAt Go.RowKit Go.IntWalk

theorem own : ownKnob Try.prog.godebug = none := by kernel_rfl
set_option maxRecDepth 100000 in
theorem modelMoves_lifted (os : Os) (started : os.Started) (H : Type) (enc : TypeId × Value → H) :
    ReturnsInHanded {} Try.checked os 3 .any (Rows.modelMovesSpec.pre6 enc Try.prog Try.f3 Rows.modelMovesRow.domain false) (Rows.modelMovesSpec.post enc Try.prog Try.f3 false true false false) := by
  refine returnsInHanded_of_change_sized (C := Try.checked) own started (by kernel_rfl) Try.func3
    (ChangeSpec.witness6 (enc := enc) (C := Try.checked) false ⟨#[], #[.slice none 0 0, .int .i64 0], []⟩ 8 (by kernel_rfl) (by kernel_rfl) (by kernel_rfl) (by kernel_rfl)) ?_
  intro W base args ds gs before hval0 hW _ hsz0 _
  have hsz : (DataW.weightsEach Try.prog (Try.f3.params.toList ++ Rows.modelMovesSpec.plain.varTypes Try.prog) (ds ++ gs)).all (· ≤ reachBytes) = true := hsz0
  have hval : ∀ (j : Nat) t v, Try.f3.params[j]? = some t → args[j]? = some v → Value.okWide Try.prog W .any base t v := hval0
  have hW' := hW
  obtain ⟨p, q, hA0, hV, rfl, hfz, hnd⟩ := hW
  have hA : DataW.TrodAll enc Try.prog W 0 (fun _ => true) true Try.f3.params.toList args.toList ds p := hA0
  rw [Try.params3] at hA hval hsz
  obtain ⟨v0, vs0, d0, ds0, p0, q0, hargs, rfl, rfl, h0, r0⟩ := trodAll_cons hA
  obtain ⟨v1, vs1, d1, ds1, p1, q1, rfl, rfl, rfl, h1, r1⟩ := trodAll_cons r0
  obtain ⟨rfl, rfl, rfl⟩ := trodAll_nil r1
  obtain rfl : args = #[v0, v1] := by cases args; simp_all
  obtain ⟨rfl, rfl⟩ := trodVars_none hV
  have hlt0 : ∀ x ∈ p0, x.block < W.heap.size := fun x hx => by
    have := hW'.lt x (by simp [hx])
    simpa using this
  obtain ⟨sa0, sn0, sc0, fk0, fa0, fn0, ff0, rfl, hu0, _, _, hd0⟩ := open_mparts Try.underlying22 Try.underlying57 (show Try.prog.cellsOf 57 = 4 by kernel_rfl) rfl rfl rfl rfl (show Try.prog.cellsOf 3 = 1 by kernel_rfl) (show Try.prog.cellsOf 3 = 1 by kernel_rfl) (show Try.prog.cellsOf 29 = 1 by kernel_rfl) (show Try.prog.cellsOf 29 = 1 by kernel_rfl) Try.underlying3 Try.underlying3 Try.underlying29 Try.underlying29 (hval 0 22 v0 rfl rfl) h0 hlt0
  have hb0 : sn0 ≤ 4398046511104 := by
    by_cases c : sn0 = 0
    · omega
    · obtain ⟨es, sp, e1, e2⟩ := hd0 c
      subst e1
      have := sized_slice hsz (j := 0) (t := 22) (e := 57) rfl rfl Try.underlying22
      rw [show Try.prog.bytesOf 57 = 32 by kernel_rfl] at this
      simp only [reachBytes] at this
      omega
  obtain ⟨a1, rfl, rfl, rfl, w1⟩ := open_int Try.underlying2 (hval 1 2 v1 rfl rfl) h1
  clear hA0 hval0
  simp only [List.append_nil] at hW'
  refine (moves_walk sa0 sn0 sc0 fk0 fa0 fn0 ff0 a1 W hu0 hb0 (bounds_i64 w1)).mono fun e W' ⟨he, bel⟩ => ?_
  subst he
  exact ⟨_, rfl, _, _, _, [], p0 ++ ([]), [], hW', trodAll_mk1 (shut_bool Try.underlying4 _), (trodAll_cons_mk (Below.trod (show laidOutB Try.prog = true by kernel_rfl) (by kernel_rfl) (of_decide_eq_true (by kernel_rfl)) h0 bel hlt0) (trodAll_cons_mk (shut_int Try.underlying2 w1) trodAll_mk0)), rfl, bel.frame _, fun h => by cases h⟩

theorem modelMoves_row : Rows.ModelMovesSaid :=
  OpenClaim.holds_of_wide 3 Try.f3 rfl rfl rfl rfl rfl rfl rfl ⟨rfl, rfl, rfl, rfl, rfl⟩ rfl rfl rfl rfl rfl (by kernel_rfl) Try.func3 (by kernel_rfl)
    (of_decide_eq_true (by kernel_rfl)) (by unfold Func.isWrapper; first | (rw [if_pos (by decide +kernel)]; kernel_rfl) | (rw [if_neg (by decide +kernel)]; exact ⟨rfl, rfl⟩))
    (fun os started H enc _ => modelMoves_lifted os started H enc)

#print axioms modelMoves_row
end Go.Proofs.Ytcaelnpddipmhaa
