
/- interval's Div at the chapter's first example. -/
import Derived.Test.YtilffgmekeeohaaDoorP48
import Derived.Test.YtilffgmekeeohaaDoorP6
import Derived.ProofKit
import Derived.LaidMore
import Derived.OpenShut
import Derived.Stop.Joined
import Derived.Lib.LaidTab
namespace Go.Proofs.YtilffgmekeeohaaDoor
open Go.RowKit Go.IntWalk

set_option maxHeartbeats 1000000 in
theorem nought_ex (w : World) : Calls Tryd.prog 39 #[IV 0 4607182418800017408] w fun r w' => r = .returned (.bool false) ∧ Below w.heap.size w w' := by
  have o1 : FloatKind.f64.format.order 0 0 = some .eq := by decide +kernel
  have o2 : (FloatKind.f64.format.order 4607182418800017408 0 == some .eq) = false := by decide +kernel
  have HB0 : Hid (Below w.heap.size w (w.alloc (IBox 0 4607182418800017408))) := (Below.refl _ _).alloc (Nat.le_refl _) _
  unfold IBox at HB0
  unfold IV
  go_enter Tryd.func39, Tryd.ntmps39
  go_wp2
  go_ret
  exact ⟨rfl, HB0.out⟩
set_option maxHeartbeats 4000000 in
theorem Div_ex (w : World) (hT : Tab w) (hs : 1 < w.heap.size) : Calls Tryd.prog 17 #[IV 4607182418800017408 4611686018427387904, IV 0 4607182418800017408] w fun r w' => r = .returned (IV 4607182418800017408 9218868437227405312) ∧ Below w.heap.size w w' := by
  obtain ⟨g1, g2, g3⟩ := iblk3 w (IBox 4607182418800017408 4611686018427387904) (IBox 0 4607182418800017408) (IBox 0 0)
  have HF : Hid (Fr3 w 4607182418800017408 4611686018427387904 0 4607182418800017408 (((w.alloc (IBox 4607182418800017408 4611686018427387904)).alloc (IBox 0 4607182418800017408)).alloc (IBox 0 0))) := ⟨(((Below.refl _ _).alloc (Nat.le_refl _) _).alloc (by simp) _).alloc (by simp; omega) _, g1, g2, g3⟩
  obtain ⟨W0, hW0⟩ : ∃ V, Hid (((w.alloc (IBox 4607182418800017408 4611686018427387904)).alloc (IBox 0 4607182418800017408)).alloc (IBox 0 0) = V) := ⟨_, rfl⟩
  rw [hW0.out] at HF
  have HT : Hid (∀ x y W, Hid (Fr3 w 4607182418800017408 4611686018427387904 0 4607182418800017408 W) → Calls Tryd.prog 22 #[IV x y] W fun r w' => r = .returned (IV (btLo x y) (btHi x y)) ∧ Cells3 w' w.heap.size 4607182418800017408 4611686018427387904 0 4607182418800017408 ∧ Hid (Fr3 w 4607182418800017408 4611686018427387904 0 4607182418800017408 w')) := fun x y W hW => by
    refine (taken_any x y W).mono ?_
    rintro r w' ⟨rfl, h⟩
    exact ⟨rfl, (hW.out.go h).cells, hW.out.go h⟩
  have HS4 : Hid (∀ W, Hid (Fr3 w 4607182418800017408 4611686018427387904 0 4607182418800017408 W) → Hid (Fr3 w 4607182418800017408 4611686018427387904 0 4607182418800017408 (Set4 W w.heap.size (.float .f64 4607182418800017408) (.float .f64 4611686018427387904) (.float .f64 0) (.float .f64 4607182418800017408)))) := fun W hW => hW.out.set4
  have HN : Hid (∀ x y W, Hid (Fr3 w 4607182418800017408 4611686018427387904 0 4607182418800017408 W) → Calls Tryd.prog 23 #[IV x y] W fun r w' => r = .returned (.bool (noneB x y)) ∧ Cells3 w' w.heap.size 4607182418800017408 4611686018427387904 0 4607182418800017408 ∧ Hid (Fr3 w 4607182418800017408 4611686018427387904 0 4607182418800017408 w')) := fun x y W hW => by
    refine (none_any x y W).mono ?_
    rintro r w' ⟨rfl, h⟩
    exact ⟨rfl, (hW.out.go h).cells, hW.out.go h⟩
  have HZ : Hid (∀ W, Hid (Fr3 w 4607182418800017408 4611686018427387904 0 4607182418800017408 W) → Calls Tryd.prog 39 #[IV 0 4607182418800017408] W fun r w' => r = .returned (.bool false) ∧ Cells3 w' w.heap.size 4607182418800017408 4611686018427387904 0 4607182418800017408 ∧ Hid (Fr3 w 4607182418800017408 4611686018427387904 0 4607182418800017408 w')) := fun W hW => by
    refine (nought_ex W).mono ?_
    rintro r w' ⟨rfl, h⟩
    exact ⟨rfl, (hW.out.go h).cells, hW.out.go h⟩
  have HD : Hid (∀ W, Hid (Fr3 w 4607182418800017408 4611686018427387904 0 4607182418800017408 W) → Calls Tryd.prog 40 #[IV 4607182418800017408 4611686018427387904, IV 0 4607182418800017408] W fun r w' => r = .returned (IV 4607182418800017408 9218868437227405312) ∧ Cells3 w' w.heap.size 4607182418800017408 4611686018427387904 0 4607182418800017408 ∧ Hid (Fr3 w 4607182418800017408 4611686018427387904 0 4607182418800017408 w')) := fun W hW => by
    refine (divided_ex W (hT.below hs hW.out.1) (Nat.lt_of_lt_of_le hs hW.out.1.size)).mono ?_
    rintro r w' ⟨rfl, h⟩
    exact ⟨rfl, (hW.out.go h).cells, hW.out.go h⟩
  have HQ0 : Hid (Fr3 w 4607182418800017408 4611686018427387904 0 4607182418800017408 W0.drew) := HF.out.go ((Below.refl _ _).drew)
  obtain ⟨⟨y0, y1⟩, ⟨y2, y3⟩, _⟩ := HF.out.cells
  have e1 : btLo 4607182418800017408 4611686018427387904 = 4607182418800017408 := by decide +kernel
  have e2 : btHi 4607182418800017408 4611686018427387904 = 4611686018427387904 := by decide +kernel
  have e3 : btLo 0 4607182418800017408 = 0 := by decide +kernel
  have e4 : btHi 0 4607182418800017408 = 4607182418800017408 := by decide +kernel
  have n1 : noneB 4607182418800017408 4611686018427387904 = false := by decide +kernel
  have n2 : noneB 0 4607182418800017408 = false := by decide +kernel
  have o1 : FloatKind.f64.format.order 4607182418800017408 0 = some .gt := by decide +kernel
  have o2 : FloatKind.f64.format.order 0 0 = some .eq := by decide +kernel
  have hst := fstore
  unfold IBox at hW0
  have hW0' := hW0.out
  unfold IV at HT HN HZ HD ⊢
  unfold Set4 at HS4
  clear g1 g2 g3 hT hs
  go_enter Tryd.func17, Tryd.ntmps17
  go_wp2_with fail
  go_region_with (first
    | (go_at_call 22; refine (HT.out _ _ _ (by assumption)).mono ?_; rintro r w1 ⟨rfl, ⟨⟨x0, x1⟩, ⟨x2, x3⟩, ⟨x4, x5⟩, f0, f1, f2⟩, HF1⟩))
  all_goals go_wp2_with fail
  all_goals refine (HN.out _ _ _ (HS4.out _ (by assumption))).mono ?_
  all_goals rintro r w2 ⟨rfl, ⟨⟨k0, k1⟩, ⟨k2, k3⟩, ⟨k4, k5⟩, h0, h1, h2⟩, HG⟩
  all_goals go_wp2_with fail
  all_goals refine (HN.out _ _ _ HG).mono ?_
  all_goals rintro r w3 ⟨rfl, ⟨⟨l0, l1⟩, ⟨l2, l3⟩, ⟨l4, l5⟩, i0, i1, i2⟩, HH⟩
  all_goals go_wp2_with fail
  all_goals refine (HZ.out _ HH).mono ?_
  all_goals rintro r w4 ⟨rfl, ⟨⟨p0, p1⟩, ⟨p2, p3⟩, ⟨p4, p5⟩, j0, j1, j2⟩, HI⟩
  all_goals go_wp2_with fail
  all_goals refine (HD.out _ HI).mono ?_
  all_goals rintro r w5 ⟨rfl, ⟨⟨a0, a1⟩, ⟨a2, a3⟩, ⟨u0, u1⟩, a4, a5, u2⟩, HL⟩
  all_goals go_wp2
  all_goals exact bodyPost_ret (v := IV 4607182418800017408 9218868437227405312) (by simp [results, Tryd.results17, go_sem, u0, u1, IV]) rfl ⟨rfl, Below.setCell (Below.setCell HL.out.1 (Nat.le_trans (Nat.le_succ _) (Nat.le_succ _)) _) (Nat.le_trans (Nat.le_succ _) (Nat.le_succ _)) _⟩
end Go.Proofs.YtilffgmekeeohaaDoor

namespace Go.Proofs.YtilffgmekeeohaaDoor
open Go.RowKit Go.IntWalk

set_option maxHeartbeats 1000000 in
theorem isinf_8 (w : World) : Calls Tryd.prog 20 #[.float .f64 4620693217682128896, .int .i64 0] w fun r w' => r = .returned (.bool false) ∧ w' = w := by
  have h1 := f64bits
  have h2 := f64fromI6
  have b1 : bits .andNot .u64 4620693217682128896 9223372036854775808 = 4620693217682128896 := by decide +kernel
  have o1 : (FloatKind.f64.format.order 4620693217682128896 9218868437227405311 == some .gt) = false := by decide +kernel
  have HA : Hid (Calls Tryd.prog 45 #[.float .f64 4620693217682128896] w fun r w' => r = .returned (.float .f64 4620693217682128896) ∧ w' = w) := by
    go_enter Tryd.func45, Tryd.ntmps45
    go_wp2
    go_ret
    exact ⟨rfl, rfl⟩
  go_enter Tryd.func20, Tryd.ntmps20
  go_wp2_with fail
  refine HA.out.mono ?_
  rintro r w1 ⟨rfl, rfl⟩
  go_wp2
  go_ret
  exact ⟨rfl, rfl⟩
set_option maxHeartbeats 2000000 in
theorem Has_ex (w : World) : Calls Tryd.prog 10 #[IV 13841813454723219456 4620693217682128896, .float .f64 4620693217682128896] w fun r w' => r = .returned (.bool true) ∧ Below w.heap.size w w' := by
  have g1 := inew w (IBox 13841813454723219456 4620693217682128896)
  have HB0 : Hid (Below w.heap.size w (w.alloc (IBox 13841813454723219456 4620693217682128896))) := (Below.refl _ _).alloc (Nat.le_refl _) _
  obtain ⟨W0, hW0⟩ : ∃ V, Hid (w.alloc (IBox 13841813454723219456 4620693217682128896) = V) := ⟨_, rfl⟩
  rw [hW0.out] at g1 HB0
  have e1 : btLo 13841813454723219456 4620693217682128896 = 13841813454723219456 := by decide +kernel
  have e2 : btHi 13841813454723219456 4620693217682128896 = 4620693217682128896 := by decide +kernel
  have HT : Hid (∀ W, Hid (Below W0.heap.size W0 W) → Calls Tryd.prog 22 #[IV 13841813454723219456 4620693217682128896] W fun r w' => r = .returned (IV 13841813454723219456 4620693217682128896) ∧ w'.cell? ⟨w.heap.size, 0, none⟩ = some (.float .f64 13841813454723219456) ∧ w'.cell? ⟨w.heap.size, 1, none⟩ = some (.float .f64 4620693217682128896) ∧ (∀ o, w'.frozen? ⟨w.heap.size, o, none⟩ = false) ∧ Hid (Below W0.heap.size W0 w')) := fun W hW => by
    have := taken_any 13841813454723219456 4620693217682128896 W
    rw [e1, e2] at this
    refine this.mono ?_
    rintro r w' ⟨rfl, h⟩
    have h' : Below W0.heap.size W0 w' := hW.out.trans (h.mono hW.out.size)
    have t1 := icells_of ((h'.block _ (Array.getElem?_eq_some_iff.1 g1).1).trans g1)
    exact ⟨rfl, t1.1, t1.2.1, t1.2.2, h'⟩
  have HQ0 : Hid (Below W0.heap.size W0 W0) := Below.refl _ _
  obtain ⟨y0, y1, y2⟩ := icells_of (show W0.heap[w.heap.size]? = some (.cells #[.float .f64 13841813454723219456, .float .f64 4620693217682128896] 28) from g1)
  have o1 : FloatKind.f64.format.order 13841813454723219456 4620693217682128896 = some .lt := by decide +kernel
  have o2 : FloatKind.f64.format.order 4620693217682128896 4620693217682128896 = some .eq := by decide +kernel
  unfold IBox at hW0
  have hW0' := hW0.out
  have hst := fstore
  unfold IV at HT ⊢
  clear g1
  go_enter Tryd.func10, Tryd.ntmps10
  go_wp2_with fail
  refine (HT.out _ HQ0).mono ?_
  rintro r w1 ⟨rfl, x0, x1, x2, HF⟩
  go_wp2_with fail
  refine (isinf_8 _).mono ?_
  rintro r w2 ⟨rfl, rfl⟩
  go_wp2
  go_ret
  exact ⟨rfl, Below.setCell (Below.setCell (HB0.out.trans (HF.out.mono HB0.out.size)) (Nat.le_refl _) _) (Nat.le_refl _) _⟩
end Go.Proofs.YtilffgmekeeohaaDoor

namespace Go.Proofs.YtilffgmekeeohaaDoor
open Go.RowKit Go.IntWalk

set_option maxHeartbeats 1000000 in
theorem isinf_inf (w : World) : Calls Tryd.prog 20 #[.float .f64 9218868437227405312, .int .i64 1] w fun r w' => r = .returned (.bool true) ∧ w' = w := by
  have o1 : FloatKind.f64.format.order 9218868437227405312 9218868437227405311 = some .gt := by decide +kernel
  go_enter Tryd.func20, Tryd.ntmps20
  go_wp2
  go_ret
  exact ⟨rfl, rfl⟩
set_option maxHeartbeats 4000000 in
theorem awake6_any (w : World) (hT : Tab w) (hs : 1 < w.heap.size) : Calls Tryd.prog 4 #[] w fun r w' => r = .returned (.bool true) ∧ Below w.heap.size w w' := by
  have HTB : Hid (∀ W, Below w.heap.size w W → Tab W ∧ 1 < W.heap.size) := fun W hW => ⟨hT.below hs hW, Nat.lt_of_lt_of_le hs hW.size⟩
  have HM := hid Mul_ex
  have HD := hid Div_ex
  have HS := hid Sqrt_ex
  have hst := fstore
  unfold IV at HM HD HS
  clear hT hs
  go_enter Tryd.func4, Tryd.ntmps4
  go_wp2_with fail
  refine (HM.out _ (HTB.out _ (Below.refl _ _)).1 (HTB.out _ (Below.refl _ _)).2).mono ?_
  rintro r w1 ⟨rfl, hb1⟩
  have HB1 := hid (hb1.alloc hb1.size (IBox 13841813454723219456 4620693217682128896))
  unfold IBox at HB1
  clear hb1
  go_wp2_with fail
  refine (HD.out _ (HTB.out _ HB1.out).1 (HTB.out _ HB1.out).2).mono ?_
  rintro r w2 ⟨rfl, hb2⟩
  have G1 := (hb2.block _ (Array.getElem?_eq_some_iff.1 (inew w1 (.cells #[.float .f64 13841813454723219456, .float .f64 4620693217682128896] 28))).1).trans (inew w1 (.cells #[.float .f64 13841813454723219456, .float .f64 4620693217682128896] 28))
  have HB2 := hid ((HB1.out.trans (hb2.mono HB1.out.size)).alloc (Nat.le_trans HB1.out.size hb2.size) (.cells #[.float .f64 4607182418800017408, .float .f64 9218868437227405312] 28))
  have HG1 := hid G1
  clear hb2 G1
  go_wp2_with fail
  refine (HS.out _ (HTB.out _ HB2.out).1 (HTB.out _ HB2.out).2).mono ?_
  rintro r w3 ⟨rfl, hb3⟩
  have hs2 : w2.heap.size < (w2.alloc (.cells #[.float .f64 4607182418800017408, .float .f64 9218868437227405312] 28)).heap.size := by simp
  have G2 := (hb3.block _ hs2).trans (inew w2 (.cells #[.float .f64 4607182418800017408, .float .f64 9218868437227405312] 28))
  have hlt := (Array.getElem?_eq_some_iff.1 HG1.out).1
  have G1 : w3.heap[w1.heap.size]? = some (.cells #[.float .f64 13841813454723219456, .float .f64 4620693217682128896] 28) := ((hb3.block _ (Nat.lt_trans hlt hs2)).trans (((Below.refl w2.heap.size w2).alloc (Nat.le_refl _) _).block _ hlt)).trans HG1.out
  have HB3 := hid ((HB2.out.trans (hb3.mono HB2.out.size)).alloc (Nat.le_trans HB2.out.size hb3.size) (.cells #[.float .f64 0, .float .f64 4611686018427387904] 28))
  have HN := hid (New_any 4611686018427387904 4607182418800017408)
  have hnv : newV 4611686018427387904 4607182418800017408 = .tuple #[IV 0 0, .int .i64 60] := if_neg (by decide +kernel)
  rw [hnv] at HN
  unfold IV at HN
  have HG := hid (And.intro G1 G2)
  clear hb3 G1 G2 hs2 hlt
  go_wp2_with fail
  refine (HN.out _).mono ?_
  rintro r w4 ⟨rfl, hb4⟩
  have a1 := (Array.getElem?_eq_some_iff.1 HG.out.1).1
  have a2 := (Array.getElem?_eq_some_iff.1 HG.out.2).1
  have hs3 : w3.heap.size < (w3.alloc (.cells #[.float .f64 0, .float .f64 4611686018427387904] 28)).heap.size := by simp
  have al := (Below.refl w3.heap.size w3).alloc (Nat.le_refl _) (.cells #[.float .f64 0, .float .f64 4611686018427387904] 28)
  have K1 := ((hb4.block _ (Nat.lt_trans a1 hs3)).trans (al.block _ a1)).trans HG.out.1
  have K2 := ((hb4.block _ (Nat.lt_trans a2 hs3)).trans (al.block _ a2)).trans HG.out.2
  have K3 := (hb4.block _ hs3).trans (inew w3 (.cells #[.float .f64 0, .float .f64 4611686018427387904] 28))
  have HB4 := hid ((HB3.out.trans (hb4.mono HB3.out.size)).alloc (Nat.le_trans HB3.out.size hb4.size) (.cells #[.float .f64 0, .float .f64 0] 28))
  have al4 := (Below.refl w4.heap.size w4).alloc (Nat.le_refl _) (.cells #[.float .f64 0, .float .f64 0] 28)
  have L1 := (al4.block _ (Array.getElem?_eq_some_iff.1 K1).1).trans K1
  obtain ⟨m0, m1, _⟩ := icells_of K1
  obtain ⟨d0, d1, _⟩ := icells_of K2
  obtain ⟨s0, s1, _⟩ := icells_of K3
  have lt1 := (Array.getElem?_eq_some_iff.1 K1).1
  have lt2 := (Array.getElem?_eq_some_iff.1 K2).1
  have lt3 := (Array.getElem?_eq_some_iff.1 K3).1
  have ne1 : ¬ w1.heap.size = w4.heap.size := by omega
  have ne2 : ¬ w2.heap.size = w4.heap.size := by omega
  have ne3 : ¬ w3.heap.size = w4.heap.size := by omega
  have HL1 := hid L1
  have HIs := hid (Is_any 13841813454723219456 4620693217682128896 (w4.alloc (.cells #[.float .f64 0, .float .f64 0] 28)))
  rw [show fullB 13841813454723219456 4620693217682128896 = true by decide +kernel, Bool.true_or] at HIs
  have HHs := hid Has_ex
  unfold IV at HIs HHs
  have o1 : FloatKind.f64.format.order 13841813454723219456 13841813454723219456 = some .eq := by decide +kernel
  have o2 : FloatKind.f64.format.order 4620693217682128896 4620693217682128896 = some .eq := by decide +kernel
  have o3 : FloatKind.f64.format.order 4607182418800017408 4607182418800017408 = some .eq := by decide +kernel
  have o4 : FloatKind.f64.format.order 0 0 = some .eq := by decide +kernel
  have o5 : FloatKind.f64.format.order 4611686018427387904 4611686018427387904 = some .eq := by decide +kernel
  clear hb4 a1 a2 hs3 al K1 K2 K3 al4 L1 HB1 HB2 HB3 HG HG1
  go_wp2_with fail
  refine (isinf_inf _).mono ?_
  rintro r w6 ⟨rfl, rfl⟩
  go_wp2_with fail
  refine HIs.out.mono ?_
  rintro r w7 ⟨rfl, hb7⟩
  have HB7 := hid (HB4.out.trans (hb7.mono HB4.out.size))
  obtain ⟨n0, n1, _⟩ := icells_of ((hb7.block _ (Array.getElem?_eq_some_iff.1 HL1.out).1).trans HL1.out)
  clear hb7
  go_wp2_with fail
  refine (HHs.out _).mono ?_
  rintro r w8 ⟨rfl, hb8⟩
  have HB8 := hid (HB7.out.trans (hb8.mono HB7.out.size))
  clear hb8
  go_wp2
  go_ret
  exact ⟨rfl, HB8.out⟩
end Go.Proofs.YtilffgmekeeohaaDoor

namespace Go.Proofs.YtilffgmekeeohaaDoor
open Go.ChangeShapes Go.WideShapes Go.ChangeAt Go.RowKit

theorem own : ownKnob Tryd.prog.godebug = none := by kernel_rfl
theorem gTab : Tryd.prog.globalNamed "math/bits.deBruijn64tab" = some 1 := by kernel_rfl
theorem tTab : (Tryd.prog.globals[1]?).map (·.type) = some 106 := by kernel_rfl
theorem laid_is : (Rows.laid_math_bits_deBruijn64tab : DataW Unit) = Lib.tabData .u8 (Lib.deBruijn64tab.map fun n : Nat => (n : Int)) := by kernel_rfl

theorem door_met (os : Os) (args : Array Value) : laidMetH Tryd.prog [("math/bits.deBruijn64tab", Rows.laid_math_bits_deBruijn64tab)] ((World.doorLaid Tryd.prog 400 os).forCall (fun _ _ => 0) ⟨#[], args, []⟩).memory :=
  laidMetH_of_parts3 (fuel := 8) (laidMet_of_run' 8 (by kernel_rfl) (by kernel_rfl)) (by kernel_rfl) (by kernel_rfl)

theorem tab_of_laid {W : World} (h : laidMetH Tryd.prog [("math/bits.deBruijn64tab", Rows.laid_math_bits_deBruijn64tab)] W) : Tab W ∧ 1 < W.heap.size := by
  rw [MakeChecks.laidMetH_plain _ _ _ (by kernel_rfl)] at h
  rw [laid_is] at h
  have ht := Lib.tabIs_of_head gTab tTab Tryd.underlying106 Tryd.underlying5 (by kernel_rfl) (by kernel_rfl) h
  have hT : Tab W := fun j hj => by
    have := Lib.TabIs.cell ht gTab j (by rw [List.length_map]; exact hj)
    rw [this]
    have e : (Lib.deBruijn64tab.map fun n : Nat => (n : Int)).getD j 0 = ((Lib.deBruijn64tab.getD j 0 : Nat) : Int) := by
      rw [List.getD_eq_getElem?_getD, List.getD_eq_getElem?_getD, List.getElem?_map]
      cases Lib.deBruijn64tab[j]? <;> rfl
    rw [e]
  exact ⟨hT, World.block_lt_of_cell? W _ (hT 0 (by decide))⟩
end Go.Proofs.YtilffgmekeeohaaDoor
