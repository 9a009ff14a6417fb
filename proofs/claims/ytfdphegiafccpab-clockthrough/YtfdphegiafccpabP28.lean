
/- Proved: for every list of pairs (of as many as the model lets a list have), every clock (any three int64) and every list of int64 the law ClockThrough answers true: where clock.Fit answers, its clock's Time of the first and of the last pair's count is that pair's time and the worst miss is not below 0; and Fit of the pairs that a clock makes at counts that it divides finds that clock's rate and misses nothing; chapter 13's first examples hold. No condition. -/
import Derived.Test.YtfdphegiafccpabP27
import Derived.Test.YtfdphegiafccpabRows
import Derived.ProofKit
import Derived.OpenShut
import Derived.Stop.Joined
import Derived.SizedLaws
import Derived.Carry
import Derived.Lib.SmallJoins
namespace Go.Proofs.Ytfdphegiafccpab
open Go.ChangeShapes Go.WideShapes Go.ChangeAt Go.RowKit Go.IntWalk

theorem own : ownKnob Try.prog.godebug = none := by kernel_rfl
set_option maxRecDepth 100000 in
theorem clockThrough_lifted (os : Os) (started : os.Started) (H : Type) (enc : TypeId × Value → H) :
    ReturnsInHanded {} Try.checked os 4 .any (Rows.clockThroughSpec.pre6 enc Try.prog Try.f4 Rows.clockThroughRow.domain false) (Rows.clockThroughSpec.post enc Try.prog Try.f4 false true false false) := by
  refine returnsInHanded_of_change_sized (C := Try.checked) own started (by kernel_rfl) Try.func4
    (ChangeSpec.witness6 (enc := enc) (C := Try.checked) false ⟨#[], #[.slice none 0 0, .agg #[.int .i64 0, .int .i64 0, .int .i64 0], .slice none 0 0], []⟩ 8 (by kernel_rfl) (by kernel_rfl) (by kernel_rfl) (by kernel_rfl)) ?_
  intro W base args ds gs before hval0 hW _ hsz0 _
  have hsz : (DataW.weightsEach Try.prog (Try.f4.params.toList ++ Rows.clockThroughSpec.plain.varTypes Try.prog) (ds ++ gs)).all (· ≤ reachBytes) = true := hsz0
  have hval : ∀ (j : Nat) t v, Try.f4.params[j]? = some t → args[j]? = some v → Value.okWide Try.prog W .any base t v := hval0
  have hW' := hW
  obtain ⟨p, q, hA0, hV, rfl, hfz, hnd⟩ := hW
  have hA : DataW.TrodAll enc Try.prog W 0 (fun _ => true) true Try.f4.params.toList args.toList ds p := hA0
  rw [Try.params4] at hA hval hsz
  obtain ⟨v0, vs0, d0, ds0, p0, q0, hargs, rfl, rfl, h0, r0⟩ := trodAll_cons hA
  obtain ⟨v1, vs1, d1, ds1, p1, q1, rfl, rfl, rfl, h1, r1⟩ := trodAll_cons r0
  obtain ⟨v2, vs2, d2, ds2, p2, q2, rfl, rfl, rfl, h2, r2⟩ := trodAll_cons r1
  obtain ⟨rfl, rfl, rfl⟩ := trodAll_nil r2
  obtain rfl : args = #[v0, v1, v2] := by cases args; simp_all
  obtain ⟨rfl, rfl⟩ := trodVars_none hV
  have hlt0 : ∀ x ∈ p0, x.block < W.heap.size := fun x hx => by
    have := hW'.lt x (by simp [hx])
    simpa using this
  obtain ⟨sa0, sn0, sc0, fc0, ft0, rfl, hu0, _, _, hd0⟩ := open_pairs Try.underlying29 Try.underlying36 (show Try.prog.cellsOf 36 = 2 by kernel_rfl) rfl rfl (show Try.prog.cellsOf 2 = 1 by kernel_rfl) (show Try.prog.cellsOf 2 = 1 by kernel_rfl) Try.underlying2 Try.underlying2 (hval 0 29 v0 rfl rfl) h0 hlt0
  have hb0 : sn0 ≤ 8796093022208 := by
    by_cases c : sn0 = 0
    · omega
    · obtain ⟨es, sp, e1, e2⟩ := hd0 c
      subst e1
      have := sized_slice hsz (j := 0) (t := 29) (e := 36) rfl rfl Try.underlying29
      rw [show Try.prog.bytesOf 36 = 16 by kernel_rfl] at this
      simp only [reachBytes] at this
      omega
  obtain ⟨c1a, c1b, c1c, y1a, y1b, y1c, m1, rfl, rfl, rfl, t1a, t1b, t1c⟩ := Joins.open_agg3 Try.underlying31 (by kernel_rfl) (show Try.prog.cellsOf 31 = 3 by kernel_rfl) (hval 1 31 v1 rfl rfl) h1
  obtain ⟨x1a, e1a, rfl, wx1a⟩ := DataW.trod_int Try.underlying2 t1a
  obtain ⟨x1b, e1b, rfl, wx1b⟩ := DataW.trod_int Try.underlying2 t1b
  obtain ⟨x1c, e1c, rfl, wx1c⟩ := DataW.trod_int Try.underlying2 t1c
  simp only [List.cons.injEq, and_true] at e1a e1b e1c
  subst e1a e1b e1c
  have hlt2 : ∀ x ∈ p2, x.block < W.heap.size := fun x hx => by
    have := hW'.lt x (by simp [hx])
    simpa using this
  obtain ⟨sa2, sn2, sc2, xs2, rfl, hu2, _, _, hd2⟩ := open_i64s Try.underlying32 Try.underlying2 (show Try.prog.cellsOf 2 = 1 by kernel_rfl) (hval 2 32 v2 rfl rfl) h2 hlt2
  have hb2 : sn2 ≤ 17592186043904 := by
    by_cases c : sn2 = 0
    · omega
    · obtain ⟨es, sp, e1, e2⟩ := hd2 c
      subst e1
      have := sized_slice hsz (j := 2) (t := 32) (e := 2) rfl rfl Try.underlying32
      rw [show Try.prog.bytesOf 2 = 8 by kernel_rfl] at this
      simp only [reachBytes] at this
      omega
  clear hA0 hval0
  simp only [List.append_nil] at hW'
  refine (through_walk sa0 sn0 sc0 fc0 ft0 x1a x1b x1c sa2 sn2 sc2 xs2 W hu0 hb0 (bounds_i64 wx1a) (bounds_i64 wx1b) (bounds_i64 wx1c) hu2 hb2).mono fun e W' ⟨he, bel⟩ => ?_
  subst he
  exact ⟨_, rfl, _, _, _, [], p0 ++ ([] ++ (p2 ++ ([]))), [], hW', trodAll_mk1 (shut_bool Try.underlying4 _), (trodAll_cons_mk (Below.trod (show laidOutB Try.prog = true by kernel_rfl) (by kernel_rfl) (of_decide_eq_true (by kernel_rfl)) h0 bel hlt0) (trodAll_cons_mk (Joins.shut_agg3 (y0 := (.lit (.int .i64 x1a), [])) (y1 := (.lit (.int .i64 x1b), [])) (y2 := (.lit (.int .i64 x1c), [])) Try.underlying31 (by kernel_rfl) (show Try.prog.cellsOf 31 = 3 by kernel_rfl) ⟨1, by simp [DataW.trod, show Try.checked.prog.underlying 2 = some (.int .i64) from Try.underlying2, wx1a]⟩ ⟨1, by simp [DataW.trod, show Try.checked.prog.underlying 2 = some (.int .i64) from Try.underlying2, wx1b]⟩ ⟨1, by simp [DataW.trod, show Try.checked.prog.underlying 2 = some (.int .i64) from Try.underlying2, wx1c]⟩) (trodAll_cons_mk (Below.trod (show laidOutB Try.prog = true by kernel_rfl) (by kernel_rfl) (of_decide_eq_true (by kernel_rfl)) h2 bel hlt2) trodAll_mk0))), rfl, bel.frame _, fun h => by cases h⟩

theorem clockThrough_row : Rows.ClockThroughSaid :=
  OpenClaim.holds_of_wide 4 Try.f4 rfl rfl rfl rfl rfl rfl rfl ⟨rfl, rfl, rfl, rfl, rfl⟩ rfl rfl rfl rfl rfl (by kernel_rfl) Try.func4 (by kernel_rfl)
    (of_decide_eq_true (by kernel_rfl)) (by unfold Func.isWrapper; first | (rw [if_pos (by decide +kernel)]; kernel_rfl) | (rw [if_neg (by decide +kernel)]; exact ⟨rfl, rfl⟩))
    (fun os started H enc _ => clockThrough_lifted os started H enc)

#print axioms clockThrough_row
end Go.Proofs.Ytfdphegiafccpab
