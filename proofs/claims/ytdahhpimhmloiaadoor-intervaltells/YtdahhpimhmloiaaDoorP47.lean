
/- The chapter's first examples. -/
import Derived.Test.YtdahhpimhmloiaaDoorP46
namespace Go.Proofs.YtdahhpimhmloiaaDoor
open Go.RowKit Go.IntWalk

set_option maxHeartbeats 1000000 in
theorem isinf_inf (w : World) : Calls Tryd.prog 39 #[.float .f64 9218868437227405312, .int .i64 1] w fun r w' => r = .returned (.bool true) ∧ w' = w := by
  have o1 : FloatKind.f64.format.order 9218868437227405312 9218868437227405311 = some .gt := by decide +kernel
  go_enter Tryd.func39, Tryd.ntmps39
  go_wp2
  go_ret
  exact ⟨rfl, rfl⟩
set_option maxHeartbeats 4000000 in
theorem awake6_any (w : World) (hT : Tab w) (hs : 1 < w.heap.size) : Calls Tryd.prog 6 #[] w fun r w' => r = .returned (.bool true) ∧ Below w.heap.size w w' := by
  have HTB : Hid (∀ W, Below w.heap.size w W → Tab W ∧ 1 < W.heap.size) := fun W hW => ⟨hT.below hs hW, Nat.lt_of_lt_of_le hs hW.size⟩
  have HM := hid Mul_ex
  have HD := hid Div_ex
  have HS := hid Sqrt_ex
  have hst := fstore
  unfold IV at HM HD HS
  clear hT hs
  go_enter Tryd.func6, Tryd.ntmps6
  go_wp2_with fail
  refine (HM.out _ (HTB.out _ (Below.refl _ _)).1 (HTB.out _ (Below.refl _ _)).2).mono ?_
  rintro r w1 ⟨rfl, hb1⟩
  have HB1 := hid (hb1.alloc hb1.size (IBox 13841813454723219456 4620693217682128896))
  unfold IBox at HB1
  clear hb1
  go_wp2_with fail
  refine (HD.out _ (HTB.out _ HB1.out).1 (HTB.out _ HB1.out).2).mono ?_
  rintro r w2 ⟨rfl, hb2⟩
  have G1 := (hb2.block _ (Array.getElem?_eq_some_iff.1 (inew w1 (.cells #[.float .f64 13841813454723219456, .float .f64 4620693217682128896] 28))).1).trans (inew w1 (.cells #[.float .f64 13841813454723219456, .float .f64 4620693217682128896] 28))
  have HB2 := hid ((HB1.out.trans (hb2.mono HB1.out.size)).alloc (Nat.le_trans HB1.out.size hb2.size) (.cells #[.float .f64 4607182418800017408, .float .f64 9218868437227405312] 28))
  have HG1 := hid G1
  clear hb2 G1
  go_wp2_with fail
  refine (HS.out _ (HTB.out _ HB2.out).1 (HTB.out _ HB2.out).2).mono ?_
  rintro r w3 ⟨rfl, hb3⟩
  have hs2 : w2.heap.size < (w2.alloc (.cells #[.float .f64 4607182418800017408, .float .f64 9218868437227405312] 28)).heap.size := by simp
  have G2 := (hb3.block _ hs2).trans (inew w2 (.cells #[.float .f64 4607182418800017408, .float .f64 9218868437227405312] 28))
  have hlt := (Array.getElem?_eq_some_iff.1 HG1.out).1
  have G1 : w3.heap[w1.heap.size]? = some (.cells #[.float .f64 13841813454723219456, .float .f64 4620693217682128896] 28) := ((hb3.block _ (Nat.lt_trans hlt hs2)).trans (((Below.refl w2.heap.size w2).alloc (Nat.le_refl _) _).block _ hlt)).trans HG1.out
  have HB3 := hid ((HB2.out.trans (hb3.mono HB2.out.size)).alloc (Nat.le_trans HB2.out.size hb3.size) (.cells #[.float .f64 0, .float .f64 4611686018427387904] 28))
  have HN := hid (New_any 4611686018427387904 4607182418800017408)
  have hnv : newV 4611686018427387904 4607182418800017408 = .tuple #[IV 0 0, .int .i64 60] := if_neg (by decide +kernel)
  rw [hnv] at HN
  unfold IV at HN
  have HG := hid (And.intro G1 G2)
  clear hb3 G1 G2 hs2 hlt
  go_wp2_with fail
  refine (HN.out _).mono ?_
  rintro r w4 ⟨rfl, hb4⟩
  have a1 := (Array.getElem?_eq_some_iff.1 HG.out.1).1
  have a2 := (Array.getElem?_eq_some_iff.1 HG.out.2).1
  have hs3 : w3.heap.size < (w3.alloc (.cells #[.float .f64 0, .float .f64 4611686018427387904] 28)).heap.size := by simp
  have al := (Below.refl w3.heap.size w3).alloc (Nat.le_refl _) (.cells #[.float .f64 0, .float .f64 4611686018427387904] 28)
  have K1 := ((hb4.block _ (Nat.lt_trans a1 hs3)).trans (al.block _ a1)).trans HG.out.1
  have K2 := ((hb4.block _ (Nat.lt_trans a2 hs3)).trans (al.block _ a2)).trans HG.out.2
  have K3 := (hb4.block _ hs3).trans (inew w3 (.cells #[.float .f64 0, .float .f64 4611686018427387904] 28))
  have HB4 := hid ((HB3.out.trans (hb4.mono HB3.out.size)).alloc (Nat.le_trans HB3.out.size hb4.size) (.cells #[.float .f64 0, .float .f64 0] 28))
  have al4 := (Below.refl w4.heap.size w4).alloc (Nat.le_refl _) (.cells #[.float .f64 0, .float .f64 0] 28)
  have L1 := (al4.block _ (Array.getElem?_eq_some_iff.1 K1).1).trans K1
  obtain ⟨m0, m1, _⟩ := icells_of K1
  obtain ⟨d0, d1, _⟩ := icells_of K2
  obtain ⟨s0, s1, _⟩ := icells_of K3
  have lt1 := (Array.getElem?_eq_some_iff.1 K1).1
  have lt2 := (Array.getElem?_eq_some_iff.1 K2).1
  have lt3 := (Array.getElem?_eq_some_iff.1 K3).1
  have ne1 : ¬ w1.heap.size = w4.heap.size := by omega
  have ne2 : ¬ w2.heap.size = w4.heap.size := by omega
  have ne3 : ¬ w3.heap.size = w4.heap.size := by omega
  have HL1 := hid L1
  have HIs := hid (Is_any 13841813454723219456 4620693217682128896 (w4.alloc (.cells #[.float .f64 0, .float .f64 0] 28)))
  rw [show fullB 13841813454723219456 4620693217682128896 = true by decide +kernel, Bool.true_or] at HIs
  have HHs := hid Has_ex
  unfold IV at HIs HHs
  have o1 : FloatKind.f64.format.order 13841813454723219456 13841813454723219456 = some .eq := by decide +kernel
  have o2 : FloatKind.f64.format.order 4620693217682128896 4620693217682128896 = some .eq := by decide +kernel
  have o3 : FloatKind.f64.format.order 4607182418800017408 4607182418800017408 = some .eq := by decide +kernel
  have o4 : FloatKind.f64.format.order 0 0 = some .eq := by decide +kernel
  have o5 : FloatKind.f64.format.order 4611686018427387904 4611686018427387904 = some .eq := by decide +kernel
  clear hb4 a1 a2 hs3 al K1 K2 K3 al4 L1 HB1 HB2 HB3 HG HG1
  go_wp2_with fail
  refine (isinf_inf _).mono ?_
  rintro r w6 ⟨rfl, rfl⟩
  go_wp2_with fail
  refine HIs.out.mono ?_
  rintro r w7 ⟨rfl, hb7⟩
  have HB7 := hid (HB4.out.trans (hb7.mono HB4.out.size))
  obtain ⟨n0, n1, _⟩ := icells_of ((hb7.block _ (Array.getElem?_eq_some_iff.1 HL1.out).1).trans HL1.out)
  clear hb7
  go_wp2_with fail
  refine (HHs.out _).mono ?_
  rintro r w8 ⟨rfl, hb8⟩
  have HB8 := hid (HB7.out.trans (hb8.mono HB7.out.size))
  clear hb8
  go_wp2
  go_ret
  exact ⟨rfl, HB8.out⟩
end Go.Proofs.YtdahhpimhmloiaaDoor
