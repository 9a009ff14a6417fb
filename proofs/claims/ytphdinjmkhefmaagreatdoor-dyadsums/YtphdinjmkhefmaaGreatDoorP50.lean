
/- Proved: for all bits of two lists of numbers (each of at most 17592186043904, as many as the model lets a list of numbers have) the law DyadSums answers true: dyad's Sum of the first is the exact sum, its Dot of both the exact sum of products, in the one way a dyad is written; ErrShape where the lengths differ, ErrNumber where a number isn't finite; chapter 3's first examples hold. Its condition: the library's two tables of trailing zeros start as the program's text lays them, to which the card ties them. -/
import Derived.Test.YtphdinjmkhefmaaGreatDoorP49
import Derived.Test.YtphdinjmkhefmaaGreatDoorP45
import Derived.Test.YtphdinjmkhefmaaGreatDoorTie
import Derived.Test.YtphdinjmkhefmaaGreatDoorCards
import Derived.SevenTiedAt
import Derived.Lib.SmallJoins
namespace Go.Proofs.YtphdinjmkhefmaaGreatDoor
open Go.ChangeShapes Go.WideShapes Go.ChangeAt Go.RowKit Go.IntWalk

theorem dsums_walk (sa : Option Addr) (sn sc : Nat) (xs : List Nat) (ta : Option Addr) (tn tc : Nat) (ys : List Nat) (w : World) (hu : U64At w sa sn xs) (hb : sn ≤ 17592186043904) (hv : U64At w ta tn ys) (hc : tn ≤ 17592186043904) (hT : Tab w) (hg : 2 < w.heap.size) (hT3 : Tab32 w) (hs : 1 < w.heap.size) : Calls Tryz.prog 3 #[.slice sa sn sc, .slice ta tn tc] w fun r w' => r = .returned (.bool true) ∧ Below w.heap.size w w' := by
  by_cases hne : sn = tn
  · by_cases c1 : allFin xs = true
    · by_cases c2 : allFin ys = true
      · exact sums_e sa sn sc xs ta tn tc ys w hu hb hv hc hT hg hT3 hs c1 hne c2
      · exact sums_d sa sn sc xs ta tn tc ys w hu hb hv hc hT hg hT3 hs c1 hne (by revert c2; cases allFin ys <;> simp)
    · exact sums_b sa sn sc xs ta tn tc ys w hu hb hv hc hT hg hT3 hs (by revert c1; cases allFin xs <;> simp) hne
  · by_cases c1 : allFin xs = true
    · exact sums_c sa sn sc xs ta tn tc ys w hu hb hv hc hT hg hT3 hs c1 hne
    · exact sums_a sa sn sc xs ta tn tc ys w hu hb hv hc hT hg hT3 hs (by revert c1; cases allFin xs <;> simp) hne

set_option maxRecDepth 100000 in
theorem dyadSums_lifted (os : Os) (started : os.Started) (H : Type) (enc : TypeId × Value → H) :
    ReturnsInHanded {} Tryz.checked os 3 .any (fun w args => (Rows.dyadSumsSpec.pre enc Tryz.prog Tryz.f3 [] false w args ∧ laidMetH Tryz.prog [("math/bits.deBruijn32tab", Rows.laid_math_bits_deBruijn32tab), ("math/bits.deBruijn64tab", Rows.laid_math_bits_deBruijn64tab)] w) ∧ sizedMet enc Tryz.prog Tryz.f3 (OpenSpec.ofChange Rows.dyadSumsSpec) false w args)
      (Rows.dyadSumsSpec.post enc Tryz.prog Tryz.f3 false true false false) := by
  refine returnsInHanded_of_change_and (C := Tryz.checked) (X := fun w _ => laidMetH Tryz.prog [("math/bits.deBruijn32tab", Rows.laid_math_bits_deBruijn32tab), ("math/bits.deBruijn64tab", Rows.laid_math_bits_deBruijn64tab)] w) (fun _ _ _ hh h => h.of_heap hh) own started (by kernel_rfl) Tryz.func3
    (ChangeSpec.witness_shaped (enc := enc) (C := Tryz.checked) (os := os) (X := fun w _ => laidMetH Tryz.prog [("math/bits.deBruijn32tab", Rows.laid_math_bits_deBruijn32tab), ("math/bits.deBruijn64tab", Rows.laid_math_bits_deBruijn64tab)] w) false (World.doorLaid Tryz.prog 400 os) #[.slice none 0 0, .slice none 0 0] 8 rfl (World.shaped_of_RefB (by kernel_rfl) (by kernel_rfl)) (by kernel_rfl) (by kernel_rfl) (by kernel_rfl) (door_met2 os _)) ?_
  intro W base args ds gs before hval0 hW _ hsz0 hL _
  have hsz : (DataW.weightsEach Tryz.prog (Tryz.f3.params.toList ++ Rows.dyadSumsSpec.plain.varTypes Tryz.prog) (ds ++ gs)).all (· ≤ reachBytes) = true := hsz0
  have hval : ∀ (j : Nat) t v, Tryz.f3.params[j]? = some t → args[j]? = some v → Value.okWide Tryz.prog W .any base t v := hval0
  have hW' := hW
  obtain ⟨p, q, hA0, hV, rfl, hfz, hnd⟩ := hW
  have hA : DataW.TrodAll enc Tryz.prog W 0 (fun _ => true) true Tryz.f3.params.toList args.toList ds p := hA0
  rw [Tryz.params3] at hA hval hsz
  obtain ⟨v0, vs0, d0, ds0, p0, q0, hargs, rfl, rfl, h0, r0⟩ := trodAll_cons hA
  obtain ⟨v1, vs1, d1, ds1, p1, q1, rfl, rfl, rfl, h1, r1⟩ := trodAll_cons r0
  obtain ⟨rfl, rfl, rfl⟩ := trodAll_nil r1
  obtain rfl : args = #[v0, v1] := by cases args; simp_all
  obtain ⟨rfl, rfl⟩ := trodVars_none hV
  have hlt0 : ∀ x ∈ p0, x.block < W.heap.size := fun x hx => by
    have := hW'.lt x (by simp [hx])
    simpa using this
  obtain ⟨sa0, sn0, sc0, xs0, rfl, hu0, _, _, hd0⟩ := open_u64s Tryz.underlying22 Tryz.underlying42 (show Tryz.prog.cellsOf 42 = 1 by kernel_rfl) (hval 0 22 v0 rfl rfl) h0 hlt0
  have hb0 : sn0 ≤ 17592186043904 := by
    by_cases c : sn0 = 0
    · omega
    · obtain ⟨es, sp, e1, e2⟩ := hd0 c
      subst e1
      have := sized_slice hsz (j := 0) (t := 22) (e := 42) rfl rfl Tryz.underlying22
      rw [show Tryz.prog.bytesOf 42 = 8 by kernel_rfl] at this
      simp only [reachBytes] at this
      omega
  have hlt1 : ∀ x ∈ p1, x.block < W.heap.size := fun x hx => by
    have := hW'.lt x (by simp [hx])
    simpa using this
  obtain ⟨sa1, sn1, sc1, xs1, rfl, hu1, _, _, hd1⟩ := open_u64s Tryz.underlying22 Tryz.underlying42 (show Tryz.prog.cellsOf 42 = 1 by kernel_rfl) (hval 1 22 v1 rfl rfl) h1 hlt1
  have hb1 : sn1 ≤ 17592186043904 := by
    by_cases c : sn1 = 0
    · omega
    · obtain ⟨es, sp, e1, e2⟩ := hd1 c
      subst e1
      have := sized_slice hsz (j := 1) (t := 22) (e := 42) rfl rfl Tryz.underlying22
      rw [show Tryz.prog.bytesOf 42 = 8 by kernel_rfl] at this
      simp only [reachBytes] at this
      omega
  obtain ⟨⟨hT, hs⟩, hT3, hs3⟩ := tab_of_laid2 hL
  clear hA0 hval0
  simp only [List.append_nil] at hW'
  refine (dsums_walk sa0 sn0 sc0 xs0 sa1 sn1 sc1 xs1 W hu0 hb0 hu1 hb1 hT hs hT3 hs3).mono fun e W' ⟨he, bel⟩ => ?_
  subst he
  exact ⟨_, rfl, _, _, _, [], p0 ++ (p1 ++ ([])), [], hW', trodAll_mk1 (shut_bool Tryz.underlying4 _), (trodAll_cons_mk (Below.trod (show laidOutB Tryz.prog = true by kernel_rfl) (by kernel_rfl) (of_decide_eq_true (by kernel_rfl)) h0 bel hlt0) (trodAll_cons_mk (Below.trod (show laidOutB Tryz.prog = true by kernel_rfl) (by kernel_rfl) (of_decide_eq_true (by kernel_rfl)) h1 bel hlt1) trodAll_mk0)), rfl, bel.frame _, fun h => by cases h⟩

theorem dyadSums_row : Rows.DyadSumsSaid :=
  OpenClaim.holds_of_wide 3 Tryz.f3 rfl rfl rfl rfl rfl rfl rfl ⟨rfl, rfl, rfl, rfl, rfl⟩ rfl rfl rfl rfl rfl (by kernel_rfl) Tryz.func3 (by kernel_rfl)
    (of_decide_eq_true (by kernel_rfl)) (by unfold Func.isWrapper; first | (rw [if_pos (by decide +kernel)]; kernel_rfl) | (rw [if_neg (by decide +kernel)]; exact ⟨rfl, rfl⟩))
    (fun os started H enc _ => dyadSums_lifted os started H enc)

theorem dyadSums_card : Rows.DyadSumsCardSaid :=
  Claim7.holds_tied_plain_at .later [] [.data, .data] true (true, "145afce2bee57caa7daf44d38ffb787e895facf923508a119adbcba394035c54") false
    dyadSums_row (fun _ h => by cases h) (by kernel_rfl) (fun _ h => by cases h) dyadSums_row_tie rfl ⟨rfl, rfl⟩ (by kernel_rfl) rfl
    (fun f fn hf hfn => by
      obtain rfl : f = 3 := Option.some.inj ((show Tryz.prog.funcNamed "binnacle/binnaclelaw03.DyadSums" = some 3 by kernel_rfl).symm.trans hf) |>.symm
      obtain rfl : fn = Tryz.f3 := (Option.some.inj (Tryz.func3.symm.trans hfn)).symm
      exact ⟨by kernel_rfl, fun j t ht => by
        rw [Tryz.params3] at ht
        have hm : t ∈ [22, 22] := by simpa using Array.mem_of_getElem? ht
        have hall : ([22, 22].all fun u => !Tryz.prog.wantsStandIn u) = true := by kernel_rfl
        exact (show Tryz.prog.wantsStandIn t = false by simpa using List.all_eq_true.1 hall t hm)⟩)
    (by kernel_rfl)
#print axioms dyadSums_card
end Go.Proofs.YtphdinjmkhefmaaGreatDoor
