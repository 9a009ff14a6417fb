
/- Proved: for all bits of three matrices (each list of at most 17592186043904 numbers, as many as the model lets a list of numbers have; any ints for rows and columns, good or not), any int and any list of ints for an order (of at most 17592186043904 numbers) the law MatrixBlocks answers true: a good matrix cut in two at any column, and at any row, and put together again is what it was; put into an order and back it is what it was; products go by parts. Chapter 8's first examples hold. No condition. -/
import Derived.Test.YtehgiegmdpaomaaP49
import Derived.Test.YtehgiegmdpaomaaRows
import Derived.ProofKit
import Derived.OpenShut
import Derived.Stop.Joined
import Derived.SizedLaws
import Derived.Carry
import Derived.Lib.SmallJoins
namespace Go.Proofs.Ytehgiegmdpaomaa
open Go.ChangeShapes Go.WideShapes Go.ChangeAt Go.RowKit Go.IntWalk

theorem mblk_row (rx cx : Int) (sa : Option Addr) (n ka : Nat) (xs : List Nat) (ry cy : Int) (sb : Option Addr) (m kb : Nat) (ys : List Nat) (rz cz : Int) (sc : Option Addr) (l kc : Nat) (zs : List Nat) (k0 : Int) (pa : Option Addr) (q pc : Nat) (ps : List Int) (w : World) (_h1 : -9223372036854775808 ≤ rx ∧ rx < 9223372036854775808) (_h2 : -9223372036854775808 ≤ cx ∧ cx < 9223372036854775808) (hu : U64At w sa n xs) (hn : n ≤ 17592186043904) (_h3 : -9223372036854775808 ≤ ry ∧ ry < 9223372036854775808) (_h4 : -9223372036854775808 ≤ cy ∧ cy < 9223372036854775808) (hv : U64At w sb m ys) (hm : m ≤ 17592186043904) (_h5 : -9223372036854775808 ≤ rz ∧ rz < 9223372036854775808) (_h6 : -9223372036854775808 ≤ cz ∧ cz < 9223372036854775808) (hz : U64At w sc l zs) (hl : l ≤ 17592186043904) (hk : -9223372036854775808 ≤ k0 ∧ k0 ≤ 9223372036854775807) (hp : I64At w pa q ps) (hq : q ≤ 17592186043904) :
    Calls Try.prog 3 #[.agg #[.int .i64 rx, .int .i64 cx, .slice sa n ka], .agg #[.int .i64 ry, .int .i64 cy, .slice sb m kb], .agg #[.int .i64 rz, .int .i64 cz, .slice sc l kc], .int .i64 k0, .slice pa q pc] w fun e w' => e = .returned (.bool true) ∧ Below w.heap.size w w' := mblk_walk rx cx sa n ka xs ry cy sb m kb ys rz cz sc l kc zs k0 pa q pc ps w hu hn hv hm hz hl hk hp hq

theorem own : ownKnob Try.prog.godebug = none := by kernel_rfl
set_option maxRecDepth 100000 in
theorem matrixBlocks_lifted (os : Os) (started : os.Started) (H : Type) (enc : TypeId × Value → H) :
    ReturnsInHanded {} Try.checked os 3 .any (Rows.matrixBlocksSpec.pre6 enc Try.prog Try.f3 Rows.matrixBlocksRow.domain false) (Rows.matrixBlocksSpec.post enc Try.prog Try.f3 false true false false) := by
  refine returnsInHanded_of_change_sized (C := Try.checked) own started (by kernel_rfl) Try.func3
    (ChangeSpec.witness6 (enc := enc) (C := Try.checked) false ⟨#[], #[.agg #[.int .i64 0, .int .i64 0, .slice none 0 0], .agg #[.int .i64 0, .int .i64 0, .slice none 0 0], .agg #[.int .i64 0, .int .i64 0, .slice none 0 0], .int .i64 0, .slice none 0 0], []⟩ 8 (by kernel_rfl) (by kernel_rfl) (by kernel_rfl) (by kernel_rfl)) ?_
  intro W base args ds gs before hval0 hW _ hsz0 _
  have hsz : (DataW.weightsEach Try.prog (Try.f3.params.toList ++ Rows.matrixBlocksSpec.plain.varTypes Try.prog) (ds ++ gs)).all (· ≤ reachBytes) = true := hsz0
  have hval : ∀ (j : Nat) t v, Try.f3.params[j]? = some t → args[j]? = some v → Value.okWide Try.prog W .any base t v := hval0
  have hW' := hW
  obtain ⟨p, q, hA0, hV, rfl, hfz, hnd⟩ := hW
  have hA : DataW.TrodAll enc Try.prog W 0 (fun _ => true) true Try.f3.params.toList args.toList ds p := hA0
  rw [Try.params3] at hA hval hsz
  obtain ⟨v0, vs0, d0, ds0, p0, q0, hargs, rfl, rfl, h0, r0⟩ := trodAll_cons hA
  obtain ⟨v1, vs1, d1, ds1, p1, q1, rfl, rfl, rfl, h1, r1⟩ := trodAll_cons r0
  obtain ⟨v2, vs2, d2, ds2, p2, q2, rfl, rfl, rfl, h2, r2⟩ := trodAll_cons r1
  obtain ⟨v3, vs3, d3, ds3, p3, q3, rfl, rfl, rfl, h3, r3⟩ := trodAll_cons r2
  obtain ⟨v4, vs4, d4, ds4, p4, q4, rfl, rfl, rfl, h4, r4⟩ := trodAll_cons r3
  obtain ⟨rfl, rfl, rfl⟩ := trodAll_nil r4
  obtain rfl : args = #[v0, v1, v2, v3, v4] := by cases args; simp_all
  obtain ⟨rfl, rfl⟩ := trodVars_none hV
  have hlt0 : ∀ x ∈ p0, x.block < W.heap.size := fun x hx => by
    have := hW'.lt x (by simp [hx])
    simpa using this
  obtain ⟨rw0, cl0, sa0, sn0, sc0, xs0, rfl, hr0, hk0, hu0, _, _, hd0⟩ := open_mat Try.underlying24 (by kernel_rfl) (show Try.prog.cellsOf 24 = 3 by kernel_rfl) Try.underlying3 Try.underlying3 Try.underlying22 Try.underlying64 (show Try.prog.cellsOf 64 = 1 by kernel_rfl) (hval 0 24 v0 rfl rfl) h0 hlt0
  have hb0 : sn0 ≤ 17592186043904 := by
    by_cases c : sn0 = 0
    · omega
    · obtain ⟨d0, d1, es, sp, e1, e2⟩ := hd0 c
      subst e1
      have := sized_mat hsz (j := 0) (t := 24) (e := 64) rfl rfl Try.underlying24 Try.underlying22
      rw [show Try.prog.bytesOf 64 = 8 by kernel_rfl] at this
      simp only [reachBytes] at this
      omega
  have hlt1 : ∀ x ∈ p1, x.block < W.heap.size := fun x hx => by
    have := hW'.lt x (by simp [hx])
    simpa using this
  obtain ⟨rw1, cl1, sa1, sn1, sc1, xs1, rfl, hr1, hk1, hu1, _, _, hd1⟩ := open_mat Try.underlying24 (by kernel_rfl) (show Try.prog.cellsOf 24 = 3 by kernel_rfl) Try.underlying3 Try.underlying3 Try.underlying22 Try.underlying64 (show Try.prog.cellsOf 64 = 1 by kernel_rfl) (hval 1 24 v1 rfl rfl) h1 hlt1
  have hb1 : sn1 ≤ 17592186043904 := by
    by_cases c : sn1 = 0
    · omega
    · obtain ⟨d0, d1, es, sp, e1, e2⟩ := hd1 c
      subst e1
      have := sized_mat hsz (j := 1) (t := 24) (e := 64) rfl rfl Try.underlying24 Try.underlying22
      rw [show Try.prog.bytesOf 64 = 8 by kernel_rfl] at this
      simp only [reachBytes] at this
      omega
  have hlt2 : ∀ x ∈ p2, x.block < W.heap.size := fun x hx => by
    have := hW'.lt x (by simp [hx])
    simpa using this
  obtain ⟨rw2, cl2, sa2, sn2, sc2, xs2, rfl, hr2, hk2, hu2, _, _, hd2⟩ := open_mat Try.underlying24 (by kernel_rfl) (show Try.prog.cellsOf 24 = 3 by kernel_rfl) Try.underlying3 Try.underlying3 Try.underlying22 Try.underlying64 (show Try.prog.cellsOf 64 = 1 by kernel_rfl) (hval 2 24 v2 rfl rfl) h2 hlt2
  have hb2 : sn2 ≤ 17592186043904 := by
    by_cases c : sn2 = 0
    · omega
    · obtain ⟨d0, d1, es, sp, e1, e2⟩ := hd2 c
      subst e1
      have := sized_mat hsz (j := 2) (t := 24) (e := 64) rfl rfl Try.underlying24 Try.underlying22
      rw [show Try.prog.bytesOf 64 = 8 by kernel_rfl] at this
      simp only [reachBytes] at this
      omega
  obtain ⟨a3, rfl, rfl, rfl, w3⟩ := open_int Try.underlying3 (hval 3 3 v3 rfl rfl) h3
  have hlt4 : ∀ x ∈ p4, x.block < W.heap.size := fun x hx => by
    have := hW'.lt x (by simp [hx])
    simpa using this
  obtain ⟨sa4, sn4, sc4, xs4, rfl, hu4, _, _, hd4⟩ := open_i64s Try.underlying25 Try.underlying3 (show Try.prog.cellsOf 3 = 1 by kernel_rfl) (hval 4 25 v4 rfl rfl) h4 hlt4
  have hb4 : sn4 ≤ 17592186043904 := by
    by_cases c : sn4 = 0
    · omega
    · obtain ⟨es, sp, e1, e2⟩ := hd4 c
      subst e1
      have := sized_slice hsz (j := 4) (t := 25) (e := 3) rfl rfl Try.underlying25
      rw [show Try.prog.bytesOf 3 = 8 by kernel_rfl] at this
      simp only [reachBytes] at this
      omega
  clear hA0 hval0
  simp only [List.append_nil] at hW'
  refine (mblk_row rw0 cl0 sa0 sn0 sc0 xs0 rw1 cl1 sa1 sn1 sc1 xs1 rw2 cl2 sa2 sn2 sc2 xs2 a3 sa4 sn4 sc4 xs4 W hr0 hk0 hu0 hb0 hr1 hk1 hu1 hb1 hr2 hk2 hu2 hb2 (bounds_i64 w3) hu4 hb4).mono fun e W' ⟨he, bel⟩ => ?_
  subst he
  exact ⟨_, rfl, _, _, _, [], p0 ++ (p1 ++ (p2 ++ ([] ++ (p4 ++ ([]))))), [], hW', trodAll_mk1 (shut_bool Try.underlying4 _), (trodAll_cons_mk (Below.trod (show laidOutB Try.prog = true by kernel_rfl) (by kernel_rfl) (of_decide_eq_true (by kernel_rfl)) h0 bel hlt0) (trodAll_cons_mk (Below.trod (show laidOutB Try.prog = true by kernel_rfl) (by kernel_rfl) (of_decide_eq_true (by kernel_rfl)) h1 bel hlt1) (trodAll_cons_mk (Below.trod (show laidOutB Try.prog = true by kernel_rfl) (by kernel_rfl) (of_decide_eq_true (by kernel_rfl)) h2 bel hlt2) (trodAll_cons_mk (shut_int Try.underlying3 w3) (trodAll_cons_mk (Below.trod (show laidOutB Try.prog = true by kernel_rfl) (by kernel_rfl) (of_decide_eq_true (by kernel_rfl)) h4 bel hlt4) trodAll_mk0))))), rfl, bel.frame _, fun h => by cases h⟩

theorem matrixBlocks_row : Rows.MatrixBlocksSaid :=
  OpenClaim.holds_of_wide 3 Try.f3 rfl rfl rfl rfl rfl rfl rfl ⟨rfl, rfl, rfl, rfl, rfl⟩ rfl rfl rfl rfl rfl (by kernel_rfl) Try.func3 (by kernel_rfl)
    (of_decide_eq_true (by kernel_rfl)) (by unfold Func.isWrapper; first | (rw [if_pos (by decide +kernel)]; kernel_rfl) | (rw [if_neg (by decide +kernel)]; exact ⟨rfl, rfl⟩))
    (fun os started H enc _ => matrixBlocks_lifted os started H enc)

#print axioms matrixBlocks_row
end Go.Proofs.Ytehgiegmdpaomaa
