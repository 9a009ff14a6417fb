
/- eft's Grow at the first example; the first examples hold. -/
import Derived.Test.YtijadahpddmhjaaGreatDoorP48
import Derived.Test.YtijadahpddmhjaaGreatDoorP42
import Derived.Test.YtijadahpddmhjaaGreatDoorP11
import Derived.Test.YtijadahpddmhjaaGreatDoorP12
import Derived.Test.YtijadahpddmhjaaGreatDoorP29
import Derived.ProofKit
import Derived.LaidMore
import Derived.LaidSub
import Derived.OpenShut
import Derived.Stop.Joined
import Derived.Lib.LaidTab
namespace Go.Proofs.YtijadahpddmhjaaGreatDoor
open Go.RowKit Go.IntWalk

theorem can_1 : canonOf 4877398396442247168 = 4877398396442247168 ∧ canonOf 4607182418800017408 = 4607182418800017408 := by decide +kernel
theorem two_60 (w : World) : Calls Tryz.prog 6 #[.float .f64 4877398396442247168, .float .f64 4607182418800017408] w fun r w' => r = .returned (.tuple #[.float .f64 4877398396442247168, .float .f64 4607182418800017408]) ∧ Below w.heap.size w w' := by
  have := Two_at 4877398396442247168 4607182418800017408 4877398396442247168 0 4877398396442247168 0 4607182418800017408 4607182418800017408 w (by decide +kernel) (by decide +kernel) (by decide +kernel) (by decide +kernel) (by decide +kernel) (by decide +kernel) (by decide) (by decide)
  rw [can_1.1, can_1.2] at this
  exact this
theorem Owns.slice {w : World} {base : Nat} {v : Value} {xs : List Nat} (h : Owns w base v xs) (h0 : xs ≠ []) : ∃ g cap, v = .slice (some ⟨g, 0, none⟩) xs.length cap ∧ ∀ i, i < xs.length → w.cell? ⟨g, i, none⟩ = some (.float .f64 (xs.getD i 0)) := by
  have hc := fun g hg => World.ownsRow.cells h (g := g) hg
  rcases h.2 with ⟨_, hn⟩ | ⟨g, cap, cur, rfl, _⟩
  · exact absurd (List.length_eq_zero_iff.1 hn) h0
  · refine ⟨g, cap, rfl, fun i hi => ?_⟩
    have := hc g rfl i (.float .f64 (xs.getD i 0)) (by simp [hi, List.getD])
    have hadd : (⟨g, 0, none⟩ : Addr).add i = ⟨g, i, none⟩ := by unfold Addr.add; split <;> simp_all
    rwa [hadd] at this
theorem Owns.below {w w' : World} {base : Nat} {v : Value} {xs : List Nat} (h : Owns w base v xs) (hb : Below w.heap.size w w') : Owns w' base v xs := by
  refine ⟨h.1, ?_⟩
  rcases h.2 with hn | ⟨g, cap, cur, rfl, hb1, hgg, rest⟩
  · exact .inl hn
  · exact .inr ⟨g, cap, cur, rfl, hb1, by rw [hb.block g (Array.getElem?_eq_some_iff.1 hgg).1]; exact hgg, rest⟩
set_option maxRecDepth 4000 in
set_option maxHeartbeats 2000000 in
theorem Grow_ex (b : Nat) (w : World) (h : ExAt w b 1) (hT : Tab w) (hg : 2 < w.heap.size) :
    Calls Tryz.prog 41 #[.slice (some ⟨b, 0, none⟩) 1 1, .float .f64 4877398396442247168] w fun r w' => ∃ g cap, r = .returned (.tuple #[.slice (some ⟨g, 0, none⟩) 2 cap, .int .i64 0]) ∧ ExAt w' g 2 ∧ Below w.heap.size w w' := by
  have HR := hid (refusalWith_ex 1 1 b w h hT hg)
  have H := hid h
  have H2 := hid two_60
  have HL : Hid (∀ W x b v xs, x < 18446744073709551616 → x % 9223372036854775808 ≠ 0 → Hid (Owns W w.heap.size v xs) → W.cell? ⟨b, 0, none⟩ = some (.float .f64 x) → w.heap.size ≤ W.heap.size → xs.length ≤ 1000 → Calls Tryz.prog 68 #[v, .slice (some ⟨b, 0, none⟩) 1 1] W fun r w' => ∃ v', r = .returned v' ∧ Hid (Owns w' w.heap.size v' (xs ++ [x])) ∧ Below w.heap.size W w') := fun W x b v xs hx h0 ho hc hs hn => lay_one x b w.heap.size v xs W hx h0 ho.out hc hs hn
  clear h hT hg
  go_enter Tryz.func41, Tryz.ntmps41
  go_wp2_with fail
  refine HR.out.mono ?_
  rintro r w1 ⟨rfl, hb1⟩
  have HB1 := hid hb1
  clear hb1
  go_wp2_with fail
  go_loopw [7, 8, 21] (fun u q i wr => (i = .int .i64 0 ∧ u = .slice none 0 0 ∧ q = .float .f64 4877398396442247168 ∧ wr = w1) ∨ (i = .int .i64 1 ∧ q = .float .f64 4877398396442247168 ∧ Hid (Owns wr w.heap.size u [4607182418800017408]) ∧ Hid (Below w.heap.size w wr))) (fun _ _ i _ => 1 - (intOf i).toNat)
  case atStart => exact Or.inl ⟨rfl, rfl, rfl, rfl⟩
  case round =>
    rcases hrel with ⟨rfl, rfl, rfl, rfl⟩ | ⟨rfl, rfl, HO, HB⟩
    · have c0 := (H.out.below HB1.out).2.1
      go_wp2_with fail
      refine (H2.out _).mono ?_
      rintro r w2 ⟨rfl, hb2⟩
      have HB2 := hid (HB1.out.trans (hb2.mono HB1.out.size))
      clear hb2 c0
      go_wp2_with fail
      refine (HL.out _ 4607182418800017408 _ _ [] (by decide) (by decide) (World.ownsRow_nil _ _ _ _) (by simp [go_sem]) (by have := HB2.out.size; simp; omega) (by decide)).mono ?_
      rintro r w3 ⟨v', rfl, HO, hb3⟩
      have HB3 : Hid (Below w.heap.size w w3) := (HB2.out.alloc HB2.out.size _).trans hb3
      clear hb3
      go_wp2
      refine ⟨Or.inr ⟨by go_num, rfl, HO, HB3⟩, ?_⟩
      simp [intOf]
    · go_wp2_with fail
      refine (HL.out _ 4877398396442247168 _ _ [4607182418800017408] (by decide) (by decide) (World.ownsRow.alloc HO.out _) (by simp [go_sem]) (by have := HB.out.size; simp; omega) (by decide)).mono ?_
      rintro r w3 ⟨v', rfl, HO3, hb3⟩
      have HB3 : Hid (Below w.heap.size w w3) := (HB.out.alloc HB.out.size _).trans hb3
      obtain ⟨g, cap, rfl, hcell⟩ := Owns.slice HO3.out (by simp)
      have HE : Hid (ExAt w3 g 2) := ⟨Or.inr rfl, hcell 0 (by decide), fun _ => hcell 1 (by decide)⟩
      have HTD := hid (told_ex 2 cap g w3 HE.out)
      clear hb3 hcell HO HO3
      go_wp2_with fail
      refine HTD.out.mono ?_
      rintro r w4 ⟨rfl, hb4⟩
      have HE4 := hid (HE.out.below hb4)
      have HB4 := hid (HB3.out.trans (hb4.mono HB3.out.size))
      clear hb4
      go_wp2
      go_ret2
      exact ⟨g, cap, rfl, HE4.out, HB4.out⟩
theorem can_2 : canonOf 4845873199050653696 = 4845873199050653696 ∧ canonOf 4728779608739020800 = 4728779608739020800 ∧ canonOf 4850376798745133056 = 4850376798745133056 := by decide +kernel
theorem two_53 (w : World) : Calls Tryz.prog 6 #[.float .f64 4845873199050653696, .float .f64 4607182418800017408] w fun r w' => r = .returned (.tuple #[.float .f64 4845873199050653696, .float .f64 4607182418800017408]) ∧ Below w.heap.size w w' := by
  have := Two_at 4845873199050653696 4607182418800017408 4845873199050653696 0 4845873199050653696 0 4607182418800017408 4607182418800017408 w (by decide +kernel) (by decide +kernel) (by decide +kernel) (by decide +kernel) (by decide +kernel) (by decide +kernel) (by decide) (by decide)
  rw [can_2.1, can_1.2] at this
  exact this
theorem split_27 (w : World) : Calls Tryz.prog 11 #[.float .f64 4728779608772575232] w fun r w' => r = .returned (.tuple #[.float .f64 4728779608739020800, .float .f64 4607182418800017408]) ∧ Below w.heap.size w w' := by
  have := Split_at 4728779608772575232 4850376798745133056 4850376798711578624 4728779608739020800 4607182418800017408 w (by decide +kernel) (by decide +kernel) (by decide +kernel) (by decide +kernel) (by decide) (by decide)
  rw [can_2.2.1, can_1.2] at this
  exact this
theorem prod_27 (w : World) : Calls Tryz.prog 13 #[.float .f64 4728779608772575232, .float .f64 4728779608772575232] w fun r w' => r = .returned (.tuple #[.float .f64 4850376798745133056, .float .f64 4607182418800017408]) ∧ Below w.heap.size w w' := by
  have := Prod_at 4728779608772575232 4728779608772575232 4850376798745133056 4728779608739020800 4607182418800017408 4728779608739020800 4607182418800017408 4607182418800017408 4850376798678024192 4733283208366391296 4728779608739020800 4728779608739020800 4728779608739020800 0 4607182418800017408 w (by decide +kernel) split_27 split_27 (by decide +kernel) (by decide +kernel) (by decide +kernel) (by decide +kernel) (by decide +kernel) (by decide +kernel) (by decide +kernel) (by decide +kernel) (by decide) (by decide)
  rw [can_2.2.2, can_1.2] at this
  exact this
theorem det_14 : detS 4607182418800017408 4611686018427387904 4613937818241073152 4616189618054758400 = -1 ∧ detE 4607182418800017408 4611686018427387904 4613937818241073152 4616189618054758400 = 0 := by decide +kernel
theorem cmp4 : (FloatKind.f64.format.order 4845873199050653696 4845873199050653696 == some .eq) = true ∧ (FloatKind.f64.format.order 4607182418800017408 4607182418800017408 == some .eq) = true ∧ (FloatKind.f64.format.order 4728779608739020800 4728779608739020800 == some .eq) = true ∧ (FloatKind.f64.format.order 4850376798745133056 4850376798745133056 == some .eq) = true := by decide +kernel
set_option maxRecDepth 4000 in
set_option maxHeartbeats 2000000 in
theorem awake4_any (w : World) (hT : Tab w) (hg : 2 < w.heap.size) (hT3 : Tab32 w) (hs : 1 < w.heap.size) :
    Calls Tryz.prog 17 #[] w fun r w' => r = .returned (.bool true) ∧ Below w.heap.size w w' := by
  have HT : Hid (∀ W, Below w.heap.size w W → Tab W ∧ 2 < W.heap.size ∧ Tab32 W ∧ 1 < W.heap.size) := fun W hW => ⟨hT.below hg hW, Nat.lt_of_lt_of_le hg hW.size, hT3.below hs hW, Nat.lt_of_lt_of_le hs hW.size⟩
  have HD : Hid (∀ W, Below w.heap.size w W → Calls Tryz.prog 42 #[.float .f64 4607182418800017408, .float .f64 4611686018427387904, .float .f64 4613937818241073152, .float .f64 4616189618054758400] W fun r w' => r = .returned (.tuple #[.int .i64 (-1), .int .i64 0]) ∧ Below W.heap.size W w') := fun W hW => by
    have := Det_any 4607182418800017408 4611686018427387904 4613937818241073152 4616189618054758400 W (by decide) (by decide) (by decide) (by decide) (HT.out W hW).1 (HT.out W hW).2.1 (HT.out W hW).2.2.1 (HT.out W hW).2.2.2
    rw [det_14.1, det_14.2] at this
    exact this
  have HG : Hid (∀ W b, Below w.heap.size w W → W.cell? ⟨b, 0, none⟩ = some (.float .f64 4607182418800017408) → Calls Tryz.prog 41 #[.slice (some ⟨b, 0, none⟩) 1 1, .float .f64 4877398396442247168] W fun r w' => ∃ g cap, r = .returned (.tuple #[.slice (some ⟨g, 0, none⟩) 2 cap, .int .i64 0]) ∧ Hid (ExAt w' g 2) ∧ Below W.heap.size W w') := fun W b hW h0 => Grow_ex b W ⟨Or.inl rfl, h0, fun c => absurd c (by decide)⟩ (HT.out W hW).1 (HT.out W hW).2.1
  obtain ⟨o1, o2, o3, o4⟩ := cmp4
  clear hT hg hT3 hs
  go_enter Tryz.func17, Tryz.ntmps17
  go_wp2_with fail
  refine (two_53 _).mono ?_
  rintro r w1 ⟨rfl, hb1⟩
  have HB1 := hid hb1
  clear hb1
  go_wp2_with fail
  refine (split_27 _).mono ?_
  rintro r w2 ⟨rfl, hb2⟩
  have HB2 := hid (HB1.out.trans (hb2.mono HB1.out.size))
  clear hb2
  go_wp2_with fail
  refine (prod_27 _).mono ?_
  rintro r w3 ⟨rfl, hb3⟩
  have HB3 := hid (HB2.out.trans (hb3.mono HB2.out.size))
  clear hb3
  go_wp2_with fail
  refine (HG.out _ _ (HB3.out.alloc HB3.out.size _) (by simp [go_sem])).mono ?_
  rintro r w4 ⟨g, cap, rfl, HE, hb4⟩
  have HB4 := hid ((HB3.out.alloc HB3.out.size _).trans (hb4.mono (by have := HB3.out.size; simp; omega)))
  clear hb4
  go_wp2_with fail
  refine (HD.out _ HB4.out).mono ?_
  rintro r w5 ⟨rfl, hb5⟩
  have HB5 := hid (HB4.out.trans (hb5.mono HB4.out.size))
  have HE5 := hid (HE.out.below hb5)
  have c0 := HE5.out.2.1
  clear hb5
  go_wp2_with fail
  refine (Is_ex 2 cap g _ HE5.out (HT.out _ HB5.out).1 (HT.out _ HB5.out).2.1).mono ?_
  rintro r w6 ⟨rfl, hb6⟩
  have HB6 := hid (HB5.out.trans (hb6.mono HB5.out.size))
  clear hb6
  go_wp2
  go_ret
  exact ⟨rfl, HB6.out⟩
end Go.Proofs.YtijadahpddmhjaaGreatDoor

namespace Go.Proofs.YtijadahpddmhjaaGreatDoor
open Go.RowKit Go.IntWalk

/-- R at a normal end, and no other end. -/
def AtEnd (R : Act → World → Prop) : Exit → Act → World → Prop
  | .normal, a, w => R a w
  | _, _, _ => False
theorem region_merge {P : Program} {id : Nat} {ops : Array Oper} {b : Bool} {Q : Exit → Act → World → Prop} {a : Act} {w : World} (R : Act → Act → World → Prop) (h : (Code.region id ops b).wp P (AtEnd (R a)) a w) (hR : ∀ a' w', R a a' w' → Q .normal a' w') : (Code.region id ops b).wp P Q a w := by
  refine Code.wp_mono (fun e a' w' hh => ?_) h
  cases e <;> first | exact hR _ _ hh | exact (hh : False).elim
/-- What follows told by a relation, hidden from the walk. -/
theorem region_merge2 {P : Program} {id : Nat} {ops : Array Oper} {b : Bool} {Q : Exit → Act → World → Prop} {a : Act} {w : World} (R : Act → Act → World → Prop) (h : Hid (∀ a' w', R a a' w' → Q .normal a' w') → (Code.region id ops b).wp P Q a w) (hR : ∀ a' w', R a a' w' → Q .normal a' w') : (Code.region id ops b).wp P Q a w := h hR
/-- All blocks of W are in W' as they were. -/
def KeepH (W W' : World) : Prop := W.heap.size ≤ W'.heap.size ∧ ∀ (n : Nat) (o : Obj), W.heap[n]? = some o → W'.heap[n]? = some o
theorem Below.keepH {W W' : World} (h : Below W.heap.size W W') : KeepH W W' := ⟨h.size, fun _ _ hn => (h.block _ (Array.getElem?_eq_some_iff.1 hn).1).trans hn⟩
theorem keepH {W W' : World} (h : KeepH W W') {n : Nat} {o : Obj} (hn : W.heap[n]? = some o) : W'.heap[n]? = some o := h.2 n o hn
theorem new_al {W : World} {o : Obj} {n : Nat} (h : n = W.heap.size) : (W.alloc o).heap[n]? = some o := by rw [h]; exact Array.getElem?_push_size
theorem keep_al {W : World} {o o' : Obj} {n : Nat} (h : W.heap[n]? = some o) : (W.alloc o').heap[n]? = some o := keepH (Below.keepH ((Below.refl W.heap.size W).alloc (Nat.le_refl _) o')) h
theorem keep_dr {W : World} {o : Obj} {n : Nat} (h : W.heap[n]? = some o) : W.drew.heap[n]? = some o := keepH (Below.keepH (Below.refl W.heap.size W).drew) h
theorem ne_blk {W : World} {o : Obj} {n m : Nat} (h : W.heap[n]? = some o) (hm : m = W.heap.size) : n ≠ m := by
  have := (Array.getElem?_eq_some_iff.1 h).1
  omega
/-- A take by hand, its place told. -/
theorem take_at {P : Program} {md : Region.Mode} {ops : Array Oper} {Q : Exit → Act → World → Prop} {S : World → Prop} (i d : Nat) (v : Value) {oi : Oper} {fuel : Nat} {listed : Array Bool} {a : Act} {w : World} (hi : ops[i]? = some oi) (hd : oi.dst = some d)
    (hs : Region.noSelect ops = true) (hf : Region.free md ops listed i = true) (hr : (Region.ready md ops listed).contains i = true)
    (hQ : ∀ c a w, Q (.panic c) (a.put (some d) v) w → Q (.panic c) a w) (hy : YieldsIf P ops S oi v a) (hS : S w)
    (h : wpAnyH P md ops Q S fuel (listed.setIfInBounds i true) (a.put (some d) v) w) : wpAnyH P md ops Q S (fuel + 1) listed a w :=
  wpAnyH_take hi hs hf hr (by rw [hd]; exact hQ) hy hS (by rw [hd]; exact h)
end Go.Proofs.YtijadahpddmhjaaGreatDoor

namespace Go.Proofs.YtijadahpddmhjaaGreatDoor
open Go.ChangeShapes Go.WideShapes Go.ChangeAt Go.RowKit

theorem own : ownKnob Tryz.prog.godebug = none := by kernel_rfl
theorem gTab : Tryz.prog.globalNamed "math/bits.deBruijn64tab" = some 2 := by kernel_rfl
theorem tTab : (Tryz.prog.globals[2]?).map (·.type) = some 142 := by kernel_rfl
theorem laid_is : (Rows.laid_math_bits_deBruijn64tab : DataW Unit) = Lib.tabData .u8 (Lib.deBruijn64tab.map fun n : Nat => (n : Int)) := by kernel_rfl
theorem gTab32 : Tryz.prog.globalNamed "math/bits.deBruijn32tab" = some 1 := by kernel_rfl
theorem tTab32 : (Tryz.prog.globals[1]?).map (·.type) = some 114 := by kernel_rfl
theorem laid_is32 : (Rows.laid_math_bits_deBruijn32tab : DataW Unit) = Lib.tabData .u8 (Lib.deBruijn32tab.map fun n : Nat => (n : Int)) := by kernel_rfl

theorem door_met2 (os : Os) (args : Array Value) : laidMetH Tryz.prog [("math/bits.deBruijn32tab", Rows.laid_math_bits_deBruijn32tab), ("math/bits.deBruijn64tab", Rows.laid_math_bits_deBruijn64tab)] ((World.doorLaid Tryz.prog 400 os).forCall (fun _ _ => 0) ⟨#[], args, []⟩).memory :=
  laidMetH_of_parts3 (fuel := 8) (laidMet_of_run' 8 (by kernel_rfl) (by kernel_rfl)) (by kernel_rfl) (by kernel_rfl)

theorem tab_of_laid {W : World} (h : laidMetH Tryz.prog [("math/bits.deBruijn64tab", Rows.laid_math_bits_deBruijn64tab)] W) : Tab W ∧ 2 < W.heap.size := by
  rw [MakeChecks.laidMetH_plain _ _ _ (by kernel_rfl)] at h
  rw [laid_is] at h
  have ht := Lib.tabIs_of_head gTab tTab Tryz.underlying142 Tryz.underlying5 (by kernel_rfl) (by kernel_rfl) h
  have hT : Tab W := fun j hj => by
    have := Lib.TabIs.cell ht gTab j (by rw [List.length_map]; exact hj)
    rw [this]
    have e : (Lib.deBruijn64tab.map fun n : Nat => (n : Int)).getD j 0 = ((Lib.deBruijn64tab.getD j 0 : Nat) : Int) := by
      rw [List.getD_eq_getElem?_getD, List.getD_eq_getElem?_getD, List.getElem?_map]
      cases Lib.deBruijn64tab[j]? <;> rfl
    rw [e]
  exact ⟨hT, World.block_lt_of_cell? W _ (hT 0 (by decide))⟩
theorem tab_of_laid32 {W : World} (h : laidMetH Tryz.prog [("math/bits.deBruijn32tab", Rows.laid_math_bits_deBruijn32tab)] W) : Tab32 W ∧ 1 < W.heap.size := by
  rw [MakeChecks.laidMetH_plain _ _ _ (by kernel_rfl)] at h
  rw [laid_is32] at h
  have ht := Lib.tabIs_of_head gTab32 tTab32 Tryz.underlying114 Tryz.underlying5 (by kernel_rfl) (by kernel_rfl) h
  have hT : Tab32 W := fun j hj => by
    have := Lib.TabIs.cell ht gTab32 j (by rw [List.length_map]; exact hj)
    rw [this]
    have e : (Lib.deBruijn32tab.map fun n : Nat => (n : Int)).getD j 0 = ((Lib.deBruijn32tab.getD j 0 : Nat) : Int) := by
      rw [List.getD_eq_getElem?_getD, List.getD_eq_getElem?_getD, List.getElem?_map]
      cases Lib.deBruijn32tab[j]? <;> rfl
    rw [e]
  exact ⟨hT, World.block_lt_of_cell? W _ (hT 0 (by decide))⟩
theorem tab_of_laid2 {W : World} (h : laidMetH Tryz.prog [("math/bits.deBruijn32tab", Rows.laid_math_bits_deBruijn32tab), ("math/bits.deBruijn64tab", Rows.laid_math_bits_deBruijn64tab)] W) : (Tab W ∧ 2 < W.heap.size) ∧ (Tab32 W ∧ 1 < W.heap.size) :=
  ⟨tab_of_laid (h.filter fun x => x.1 == "math/bits.deBruijn64tab"), tab_of_laid32 (h.filter fun x => x.1 == "math/bits.deBruijn32tab")⟩
end Go.Proofs.YtijadahpddmhjaaGreatDoor
