
/- Proved: for all bits of a list of numbers and of a matrix (each list of at most 17592186043904 numbers, as many as the model lets a list of numbers have; any ints for rows and columns, good or not) and of two numbers, finite or not, the law RootBlind answers true: who sees nothing learns nothing. Where the root passes Check, the variance is above 0 and finite and the number is finite, Update by noughts either answers ErrOver with nothing beside it, or no error and then a root with as many numbers, each equal to the one handed in (a minus nought may come back as nought), and the given variance, bit by bit; where one of these fails the law asks nothing of Update. No condition. -/
import Derived.Test.YtglgjkhfoajflaaP49
import Derived.Test.YtglgjkhfoajflaaRows
import Derived.ProofKit
import Derived.OpenShut
import Derived.Stop.Joined
import Derived.SizedLaws
import Derived.Carry
import Derived.Lib.SmallJoins
namespace Go.Proofs.Ytglgjkhfoajflaa
open Go.ChangeShapes Go.WideShapes Go.ChangeAt Go.RowKit Go.IntWalk

theorem rblind_row (sx : Option Addr) (n kx : Nat) (zs : List Nat) (r c : Int) (sm : Option Addr) (m km : Nat) (xs : List Nat) (R Z : Nat) (w : World) (hu : U64At w sx n zs) (hn : n ≤ 17592186043904) (_h1 : -9223372036854775808 ≤ r ∧ r < 9223372036854775808) (_h2 : -9223372036854775808 ≤ c ∧ c < 9223372036854775808) (hv : U64At w sm m xs) (hm : m ≤ 17592186043904) (hR : R < 18446744073709551616) (hZ : Z < 18446744073709551616) :
    Calls Try.prog 4 #[.slice sx n kx, .agg #[.int .i64 r, .int .i64 c, .slice sm m km], .int .u64 (R : Int), .int .u64 (Z : Int)] w fun e w' => e = .returned (.bool true) ∧ Below w.heap.size w w' := rblind_walk sx n kx zs r c sm m km xs R Z w hu hn hv hm hR hZ

theorem own : ownKnob Try.prog.godebug = none := by kernel_rfl
set_option maxRecDepth 100000 in
theorem rootBlind_lifted (os : Os) (started : os.Started) (H : Type) (enc : TypeId × Value → H) :
    ReturnsInHanded {} Try.checked os 4 .any (Rows.rootBlindSpec.pre6 enc Try.prog Try.f4 Rows.rootBlindRow.domain false) (Rows.rootBlindSpec.post enc Try.prog Try.f4 false true false false) := by
  refine returnsInHanded_of_change_sized (C := Try.checked) own started (by kernel_rfl) Try.func4
    (ChangeSpec.witness6 (enc := enc) (C := Try.checked) false ⟨#[], #[.slice none 0 0, .agg #[.int .i64 0, .int .i64 0, .slice none 0 0], .int .u64 0, .int .u64 0], []⟩ 8 (by kernel_rfl) (by kernel_rfl) (by kernel_rfl) (by kernel_rfl)) ?_
  intro W base args ds gs before hval0 hW _ hsz0 _
  have hsz : (DataW.weightsEach Try.prog (Try.f4.params.toList ++ Rows.rootBlindSpec.plain.varTypes Try.prog) (ds ++ gs)).all (· ≤ reachBytes) = true := hsz0
  have hval : ∀ (j : Nat) t v, Try.f4.params[j]? = some t → args[j]? = some v → Value.okWide Try.prog W .any base t v := hval0
  have hW' := hW
  obtain ⟨p, q, hA0, hV, rfl, hfz, hnd⟩ := hW
  have hA : DataW.TrodAll enc Try.prog W 0 (fun _ => true) true Try.f4.params.toList args.toList ds p := hA0
  rw [Try.params4] at hA hval hsz
  obtain ⟨v0, vs0, d0, ds0, p0, q0, hargs, rfl, rfl, h0, r0⟩ := trodAll_cons hA
  obtain ⟨v1, vs1, d1, ds1, p1, q1, rfl, rfl, rfl, h1, r1⟩ := trodAll_cons r0
  obtain ⟨v2, vs2, d2, ds2, p2, q2, rfl, rfl, rfl, h2, r2⟩ := trodAll_cons r1
  obtain ⟨v3, vs3, d3, ds3, p3, q3, rfl, rfl, rfl, h3, r3⟩ := trodAll_cons r2
  obtain ⟨rfl, rfl, rfl⟩ := trodAll_nil r3
  obtain rfl : args = #[v0, v1, v2, v3] := by cases args; simp_all
  obtain ⟨rfl, rfl⟩ := trodVars_none hV
  have hlt0 : ∀ x ∈ p0, x.block < W.heap.size := fun x hx => by
    have := hW'.lt x (by simp [hx])
    simpa using this
  obtain ⟨sa0, sn0, sc0, xs0, rfl, hu0, _, _, hd0⟩ := open_u64s Try.underlying22 Try.underlying25 (show Try.prog.cellsOf 25 = 1 by kernel_rfl) (hval 0 22 v0 rfl rfl) h0 hlt0
  have hb0 : sn0 ≤ 17592186043904 := by
    by_cases c : sn0 = 0
    · omega
    · obtain ⟨es, sp, e1, e2⟩ := hd0 c
      subst e1
      have := sized_slice hsz (j := 0) (t := 22) (e := 25) rfl rfl Try.underlying22
      rw [show Try.prog.bytesOf 25 = 8 by kernel_rfl] at this
      simp only [reachBytes] at this
      omega
  have hlt1 : ∀ x ∈ p1, x.block < W.heap.size := fun x hx => by
    have := hW'.lt x (by simp [hx])
    simpa using this
  obtain ⟨rw1, cl1, sa1, sn1, sc1, xs1, rfl, hr1, hk1, hu1, _, _, hd1⟩ := open_mat Try.underlying24 (by kernel_rfl) (show Try.prog.cellsOf 24 = 3 by kernel_rfl) Try.underlying3 Try.underlying3 Try.underlying22 Try.underlying25 (show Try.prog.cellsOf 25 = 1 by kernel_rfl) (hval 1 24 v1 rfl rfl) h1 hlt1
  have hb1 : sn1 ≤ 17592186043904 := by
    by_cases c : sn1 = 0
    · omega
    · obtain ⟨d0, d1, es, sp, e1, e2⟩ := hd1 c
      subst e1
      have := sized_mat hsz (j := 1) (t := 24) (e := 25) rfl rfl Try.underlying24 Try.underlying22
      rw [show Try.prog.bytesOf 25 = 8 by kernel_rfl] at this
      simp only [reachBytes] at this
      omega
  obtain ⟨a2, rfl, rfl, rfl, w2⟩ := open_int Try.underlying25 (hval 2 25 v2 rfl rfl) h2
  obtain ⟨n2, rfl⟩ := Int.eq_ofNat_of_zero_le (bounds_u64 w2).1
  have l2 : n2 < 18446744073709551616 := by have := (bounds_u64 w2).2; omega
  obtain ⟨a3, rfl, rfl, rfl, w3⟩ := open_int Try.underlying25 (hval 3 25 v3 rfl rfl) h3
  obtain ⟨n3, rfl⟩ := Int.eq_ofNat_of_zero_le (bounds_u64 w3).1
  have l3 : n3 < 18446744073709551616 := by have := (bounds_u64 w3).2; omega
  clear hA0 hval0
  simp only [List.append_nil] at hW'
  refine (rblind_row sa0 sn0 sc0 xs0 rw1 cl1 sa1 sn1 sc1 xs1 n2 n3 W hu0 hb0 hr1 hk1 hu1 hb1 l2 l3).mono fun e W' ⟨he, bel⟩ => ?_
  subst he
  exact ⟨_, rfl, _, _, _, [], p0 ++ (p1 ++ ([])), [], hW', trodAll_mk1 (shut_bool Try.underlying4 _), (trodAll_cons_mk (Below.trod (show laidOutB Try.prog = true by kernel_rfl) (by kernel_rfl) (of_decide_eq_true (by kernel_rfl)) h0 bel hlt0) (trodAll_cons_mk (Below.trod (show laidOutB Try.prog = true by kernel_rfl) (by kernel_rfl) (of_decide_eq_true (by kernel_rfl)) h1 bel hlt1) (trodAll_cons_mk (shut_int Try.underlying25 w2) (trodAll_cons_mk (shut_int Try.underlying25 w3) trodAll_mk0)))), rfl, bel.frame _, fun h => by cases h⟩

theorem rootBlind_row : Rows.RootBlindSaid :=
  OpenClaim.holds_of_wide 4 Try.f4 rfl rfl rfl rfl rfl rfl rfl ⟨rfl, rfl, rfl, rfl, rfl⟩ rfl rfl rfl rfl rfl (by kernel_rfl) Try.func4 (by kernel_rfl)
    (of_decide_eq_true (by kernel_rfl)) (by unfold Func.isWrapper; first | (rw [if_pos (by decide +kernel)]; kernel_rfl) | (rw [if_neg (by decide +kernel)]; exact ⟨rfl, rfl⟩))
    (fun os started H enc _ => rootBlind_lifted os started H enc)

#print axioms rootBlind_row
end Go.Proofs.Ytglgjkhfoajflaa
