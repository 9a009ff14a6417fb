
/- What eft's lay does with one number. -/
import Derived.Test.YtijadahpddmhjaaGreatDoorP11
import Derived.Test.YtijadahpddmhjaaGreatDoorP3
import Derived.WalkKit
import Derived.Test.YtijadahpddmhjaaGreatDoorP12
import Derived.Test.YtijadahpddmhjaaGreatDoorP38
namespace Go.Proofs.YtijadahpddmhjaaGreatDoor
open Go.RowKit Go.IntWalk

theorem info_f : (Tryz.prog.info? 23).map (fun i => (i.zero, i.size, i.bytes)) = some (some (.float .f64 0), 1, 8) := by kernel_rfl
/-- The numbers that a slice made here owns. -/
def Owns (w : World) (base : Nat) (v : Value) (xs : List Nat) : Prop := w.ownsRow base 23 1 v xs.length (xs.map (Value.float .f64))
set_option maxRecDepth 4000 in
set_option maxHeartbeats 1000000 in
theorem lay_one (x b base : Nat) (v : Value) (xs : List Nat) (w : World) (hx : x < 18446744073709551616) (h0 : x % 9223372036854775808 ≠ 0) (hown : Owns w base v xs) (hc : w.cell? ⟨b, 0, none⟩ = some (.float .f64 x)) (hb : base ≤ w.heap.size) (hn : xs.length ≤ 1000) :
    Calls Tryz.prog 68 #[v, .slice (some ⟨b, 0, none⟩) 1 1] w fun r w' => ∃ v', r = .returned v' ∧ Owns w' base v' (xs ++ [x]) ∧ Below base w w' := by
  have ho := order_zero x hx
  have ho2 : (FloatKind.f64.format.order x 0 != some .eq) = true := by rw [bne, ho, decide_eq_false h0]; rfl
  obtain ⟨i0, hi, hz0, hz1, hz2⟩ := info_parts info_f
  clear ho
  go_enter Tryz.func68, Tryz.ntmps68
  go_wp2_with fail
  go_loopw [0, 9] (fun u i wr => (i = .int .i64 0 ∧ u = v ∧ wr = w) ∨ (i = .int .i64 1 ∧ Hid (Owns wr base u (xs ++ [x])) ∧ Hid (Below base w wr))) (fun _ i _ => 1 - (intOf i).toNat)
  case atStart => exact Or.inl ⟨rfl, rfl, rfl⟩
  case round =>
    rcases hrel with ⟨rfl, rfl, rfl⟩ | ⟨rfl, HO, HB⟩
    · go_wp2_with (first
        | (at_builtin; (refine wpList_append_own _ rfl _ _ 47 rfl base 23 i0 (.float .f64 0) 1 8 Tryz.underlying47 hi hz0 hz1 hz2 rfl (by decide) _ _ _ rfl (hown.alloc _) ⟨wr.heap.size, 0, none⟩ 1 1 [.float .f64 x] rfl rfl ?c1 ?c2 ?c3 ?c4 ?c5 ?_)))
      case c1 =>
        intro j u hj
        match j, hj with
        | 0, hj => simp at hj; subst hj; simp [Addr.add]
      case c2 => intro u hu; simp at hu; subst hu; rfl
      case c3 => unfold maxLen; omega
      case c4 => omega
      case c5 => simp; omega
      intro v' w1 hown' hgrow _
      have HO : Hid (Owns w1 base v' (xs ++ [x])) := by
        show w1.ownsRow _ _ _ _ _ _
        rw [List.length_append, List.map_append]
        exact hown'
      have HB : Hid (Below base wr w1) := ((Below.refl base wr).alloc hb _).grown hgrow (by simp; omega) (fun k hk => (World.ownsRow.lt hown k hk).1)
      clear hown' hgrow hown hc
      go_wp2
      refine ⟨Or.inr ⟨by go_num, HO, HB⟩, ?_⟩
      simp [intOf]
    · go_wp2
      go_ret
      exact ⟨_, rfl, HO.out, HB.out⟩
end Go.Proofs.YtijadahpddmhjaaGreatDoor

namespace Go.Proofs.YtijadahpddmhjaaGreatDoor
open Go.RowKit Go.IntWalk

theorem p60 : pNeg 4877398396442247168 = false ∧ pMant 4877398396442247168 = 1 ∧ pExp 4877398396442247168 = 60 ∧ pErr 4877398396442247168 = 0 := by decide +kernel
set_option maxHeartbeats 1000000 in
theorem lastExp_60 (w : World) (hT : Tab w) (hg : 2 < w.heap.size) : Calls Tryz.prog 120 #[.float .f64 4877398396442247168] w fun r w' => r = .returned (.int .i64 60) ∧ Below w.heap.size w w' := by
  have HP := Parts_any 4877398396442247168 w (by decide) hT hg
  obtain ⟨e1, e2, e3, e4⟩ := p60
  rw [e1, e2, e3, e4] at HP
  have HP := hid HP
  clear e1 e2 e3 e4 hT hg
  go_enter Tryz.func120, Tryz.ntmps120
  go_wp2_with fail
  refine HP.out.mono ?_
  rintro r w1 ⟨rfl, hb1⟩
  have HB1 := hid hb1
  clear hb1
  go_wp2
  go_ret
  exact ⟨rfl, HB1.out.alloc HB1.out.size _⟩
set_option maxHeartbeats 1000000 in
theorem lastDigit_60 (w : World) (hT : Tab w) (hg : 2 < w.heap.size) : Calls Tryz.prog 112 #[.float .f64 4877398396442247168] w fun r w' => r = .returned (.float .f64 4877398396442247168) ∧ Below w.heap.size w w' := by
  have HP := hid (lastExp_60 w hT hg)
  clear hT hg
  go_enter Tryz.func112, Tryz.ntmps112
  go_wp2_with fail
  refine HP.out.mono ?_
  rintro r w1 ⟨rfl, hb1⟩
  have HB1 := hid hb1
  clear hb1
  go_wp2_with fail
  refine (Ldexp_60 _).mono ?_
  rintro r w2 ⟨rfl, rfl⟩
  go_wp2
  go_ret
  exact ⟨rfl, HB1.out⟩
theorem g60 : (FloatKind.f64.format.order 4607182418800017408 0 == some .eq) = false ∧ (FloatKind.f64.format.order 4877398396442247168 0 == some .eq) = false ∧ FloatKind.f64.format.order 4607182418800017408 4877398396442247168 = some .lt := by decide +kernel
set_option maxRecDepth 4000 in
set_option maxHeartbeats 1000000 in
theorem stands_two (n cap b : Nat) (w : World) (hn : n = 1 ∨ n = 2) (h0 : w.cell? ⟨b, 0, none⟩ = some (.float .f64 4607182418800017408)) (h1 : n = 2 → w.cell? ⟨b, 1, none⟩ = some (.float .f64 4877398396442247168)) (hT : Tab w) (hg : 2 < w.heap.size) :
    Calls Tryz.prog 96 #[.slice (some ⟨b, 0, none⟩) n cap] w fun r w' => r = .returned (.bool true) ∧ Below w.heap.size w w' := by
  obtain ⟨g1, g2, g3⟩ := g60
  have HL := hid (fun (W : World) hT hg => lastDigit_60 W hT hg)
  have HT := hid (And.intro hT hg)
  clear hT hg
  go_enter Tryz.func96, Tryz.ntmps96
  go_wp2_with fail
  go_loopw [6] (fun i wr => ∃ k : Nat, k ≤ n ∧ i = .int .i64 k ∧ Hid (Below w.heap.size w wr)) (fun i _ => n - (intOf i).toNat)
  case atStart => exact ⟨0, by omega, rfl, Below.refl _ _⟩
  case round =>
    obtain ⟨k, hk, rfl, HB⟩ := hrel
    have hlt0 := World.block_lt_of_cell? w _ h0
    have c0 : wr.cell? ⟨b, 0, none⟩ = some (.float .f64 4607182418800017408) := by rw [HB.out.cell (p := ⟨b, 0, none⟩) hlt0]; exact h0
    by_cases hlt : k < n
    · rcases (show k = 0 ∨ (k = 1 ∧ n = 2) by omega) with rfl | ⟨rfl, hn2⟩
      · have hnI : (1 : Int) ≤ (n : Int) := by omega
        clear hlt0
        go_wp2
        go_quiet (fail)
        go_wp2
        refine ⟨⟨1, by omega, by go_num, bl_drewN _ HB.out⟩, ?_⟩
        simp [intOf]; omega
      · have c1 : wr.cell? ⟨b, 1, none⟩ = some (.float .f64 4877398396442247168) := by rw [HB.out.cell (p := ⟨b, 1, none⟩) hlt0]; exact h1 hn2
        have HTW : Hid (∀ W, Below w.heap.size w W → Tab W ∧ 2 < W.heap.size) := fun W hW => ⟨HT.out.1.below HT.out.2 hW, Nat.lt_of_lt_of_le HT.out.2 hW.size⟩
        have HC : Hid (∀ W, Below w.heap.size w W → W.cell? ⟨b, 0, none⟩ = some (.float .f64 4607182418800017408) ∧ W.cell? ⟨b, 1, none⟩ = some (.float .f64 4877398396442247168)) := fun W hW => ⟨by rw [hW.cell (p := ⟨b, 0, none⟩) hlt0]; exact h0, by rw [hW.cell (p := ⟨b, 1, none⟩) hlt0]; exact h1 hn2⟩
        have HN2 := hid hn2
        have hnI : (2 : Int) ≤ (n : Int) := by omega
        clear h1 h0 hn2 hn hk hlt
        go_wp2_with fail
        have HK : Hid (∀ W, Hid (Below w.heap.size w W) → (W.cell? ⟨b, 0, none⟩ = some (.float .f64 4607182418800017408) ∧ W.cell? ⟨b, 1, none⟩ = some (.float .f64 4877398396442247168)) ∧ Hid (Below w.heap.size w W)) := fun W hW => ⟨HC.out W hW.out, hW⟩
        have HQ0 : Hid (Below w.heap.size w wr.drew) := HB.out.drew
        have HLD : Hid (∀ W, Hid (Below w.heap.size w W) → Calls Tryz.prog 112 #[.float .f64 4877398396442247168] W fun r w' => r = .returned (.float .f64 4877398396442247168) ∧ Hid (Below w.heap.size w w')) := fun W hW => by
          refine (HL.out W (HTW.out W hW.out).1 (HTW.out W hW.out).2).mono ?_
          rintro r w' ⟨rfl, hb⟩
          exact ⟨rfl, hW.out.trans (hb.mono hW.out.size)⟩
        have HAB := hid (fun (W : World) => abs_one W)
        have hw1 : IntKind.i64.wrap (1 - 1) = 0 := by decide +kernel
        have hw2 : IntKind.i64.wrap 0 = 0 := by decide +kernel
        have hw3 : ((1 : Int) - 1) = 0 := by decide
        have hw4 : wrap64 0 = 0 := by decide +kernel
        have hw5 : wrap64 (1 - 1) = 0 := by decide +kernel
        have hnI0 : (0 : Int) < (n : Int) := by omega
        have hnN0 : 0 < n := by omega
        have hnI1 : (1 : Int) < (n : Int) := by omega
        clear c0 c1 HL HTW HT
        go_region_held3 (fun W => (W.cell? ⟨b, 0, none⟩ = some (.float .f64 4607182418800017408) ∧ W.cell? ⟨b, 1, none⟩ = some (.float .f64 4877398396442247168)) ∧ Hid (Below w.heap.size w W))
          ((refine HK.out _ ?_; first | assumption | exact HQ0))
          (first
            | (go_at_call 44; refine (HAB.out _).mono ?_; rintro r w2 ⟨rfl, rfl⟩)
            | (go_at_call 112; refine (HLD.out _ (And.right (by assumption))).mono ?_; rintro r w3 ⟨rfl, HF3⟩))
        go_wp2
        have hn3 : 2 ≤ n := by have := HN2.out; omega
        refine ⟨⟨2, hn3, by go_num, HF3⟩, ?_⟩
        simp [intOf]; omega
    · have : k = n := by omega
      subst this
      go_wp2
      go_ret
      exact ⟨rfl, HB.out⟩
end Go.Proofs.YtijadahpddmhjaaGreatDoor

namespace Go.Proofs.YtijadahpddmhjaaGreatDoor
open Go.RowKit Go.IntWalk

def exL : List Nat := [4607182418800017408, 4877398396442247168]
theorem exL_fin (n : Nat) (hn : n = 1 ∨ n = 2) : allFin (exL.take n) = true ∧ (exL.take n).length = n := by
  rcases hn with rfl | rfl <;> decide +kernel
/-- The first n of the two numbers lie at the block. -/
def ExAt (w : World) (b n : Nat) : Prop := (n = 1 ∨ n = 2) ∧ w.cell? ⟨b, 0, none⟩ = some (.float .f64 4607182418800017408) ∧ (n = 2 → w.cell? ⟨b, 1, none⟩ = some (.float .f64 4877398396442247168))
theorem ExAt.below {w w' : World} {b n : Nat} (h : ExAt w b n) (hb : Below w.heap.size w w') : ExAt w' b n := by
  have hlt0 := World.block_lt_of_cell? w _ h.2.1
  exact ⟨h.1, by rw [hb.cell (p := ⟨b, 0, none⟩) hlt0]; exact h.2.1, fun c => by rw [hb.cell (p := ⟨b, 1, none⟩) hlt0]; exact h.2.2 c⟩
theorem ex_fin (n cap b : Nat) (w : World) (h : ExAt w b n) : Calls Tryz.prog 33 #[.slice (some ⟨b, 0, none⟩) n cap] w fun r w' => r = .returned (.bool true) ∧ Below w.heap.size w w' := by
  obtain ⟨hn, h0, h1⟩ := h
  obtain ⟨f1, f2⟩ := exL_fin n hn
  have := Finite_any (exL.take n) b 0 cap w (World.block_lt_of_cell? w _ h0) (fun i hi => by
    rw [f2] at hi
    rcases hn with rfl | rfl
    · have : i = 0 := by omega
      subst this; exact h0
    · rcases (show i = 0 ∨ i = 1 by omega) with rfl | rfl
      · exact h0
      · exact h1 rfl) (fun i hi => by
    rw [f2] at hi
    rcases hn with rfl | rfl
    · have : i = 0 := by omega
      subst this; decide
    · rcases (show i = 0 ∨ i = 1 by omega) with rfl | rfl <;> decide) (by rw [f2]; omega)
  rw [f1, f2] at this
  exact this
set_option maxHeartbeats 1000000 in
theorem refusal_ex (n cap b : Nat) (w : World) (h : ExAt w b n) (hT : Tab w) (hg : 2 < w.heap.size) :
    Calls Tryz.prog 72 #[.slice (some ⟨b, 0, none⟩) n cap] w fun r w' => r = .returned (.int .i64 0) ∧ Below w.heap.size w w' := by
  have HF := hid (ex_fin n cap b w h)
  have HS : Hid (∀ W, Below w.heap.size w W → Calls Tryz.prog 96 #[.slice (some ⟨b, 0, none⟩) n cap] W fun r w' => r = .returned (.bool true) ∧ Below W.heap.size W w') := fun W hW => by
    obtain ⟨e1, e2, e3⟩ := h.below hW
    exact stands_two n cap b W e1 e2 e3 (hT.below hg hW) (Nat.lt_of_lt_of_le hg hW.size)
  have hn : n ≤ 2 := by have := h.1; omega
  have hnI : (n : Int) ≤ 64 := by omega
  clear h hT hg hn
  go_enter Tryz.func72, Tryz.ntmps72
  go_wp2_with fail
  refine HF.out.mono ?_
  rintro r w1 ⟨rfl, hb1⟩
  have HB1 := hid hb1
  clear hb1
  go_wp2_with fail
  refine (HS.out _ HB1.out).mono ?_
  rintro r w2 ⟨rfl, hb2⟩
  have HB2 := hid (HB1.out.trans (hb2.mono HB1.out.size))
  clear hb2
  go_wp2
  go_ret
  exact ⟨rfl, HB2.out⟩
set_option maxHeartbeats 1000000 in
theorem Is_ex (n cap b : Nat) (w : World) (h : ExAt w b n) (hT : Tab w) (hg : 2 < w.heap.size) :
    Calls Tryz.prog 43 #[.slice (some ⟨b, 0, none⟩) n cap] w fun r w' => r = .returned (.bool true) ∧ Below w.heap.size w w' := by
  have HR := hid (refusal_ex n cap b w h hT hg)
  clear h hT hg
  go_enter Tryz.func43, Tryz.ntmps43
  go_wp2_with fail
  refine HR.out.mono ?_
  rintro r w1 ⟨rfl, hb1⟩
  have HB1 := hid hb1
  clear hb1
  go_wp2
  go_ret
  exact ⟨rfl, HB1.out⟩
set_option maxHeartbeats 1000000 in
theorem told_ex (n cap b : Nat) (w : World) (h : ExAt w b n) :
    Calls Tryz.prog 69 #[.slice (some ⟨b, 0, none⟩) n cap] w fun r w' => r = .returned (.tuple #[.slice (some ⟨b, 0, none⟩) n cap, .int .i64 0]) ∧ Below w.heap.size w w' := by
  have HF := hid (ex_fin n cap b w h)
  have hn : n ≤ 2 := by have := h.1; omega
  have hnI : (n : Int) ≤ 64 := by omega
  clear h hn
  go_enter Tryz.func69, Tryz.ntmps69
  go_wp2_with fail
  refine HF.out.mono ?_
  rintro r w1 ⟨rfl, hb1⟩
  have HB1 := hid hb1
  clear hb1
  go_wp2
  go_ret2
  exact ⟨rfl, HB1.out⟩
theorem fin60 : allFin [4877398396442247168] = true := by decide +kernel
set_option maxHeartbeats 1000000 in
theorem refusalWith_ex (n cap b : Nat) (w : World) (h : ExAt w b n) (hT : Tab w) (hg : 2 < w.heap.size) :
    Calls Tryz.prog 67 #[.slice (some ⟨b, 0, none⟩) n cap, .float .f64 4877398396442247168] w fun r w' => r = .returned (.int .i64 0) ∧ Below w.heap.size w w' := by
  have HR := hid (refusal_ex n cap b w h hT hg)
  have HF : Hid (∀ W b, b < W.heap.size → W.cell? ⟨b, 0, none⟩ = some (.float .f64 4877398396442247168) → Calls Tryz.prog 33 #[.slice (some ⟨b, 0, none⟩) 1 1] W fun r w' => r = .returned (.bool true) ∧ Below W.heap.size W w') := fun W b hb h0 => by
    have := Finite_any [4877398396442247168] b 0 1 W hb (fun i hi => by
      have hi2 : i < 1 := hi
      have : i = 0 := by omega
      subst this; exact h0) (fun i hi => by
      have hi2 : i < 1 := hi
      have : i = 0 := by omega
      subst this; decide) (by simp)
    rw [fin60] at this
    exact this
  clear h hT hg
  go_enter Tryz.func67, Tryz.ntmps67
  go_wp2_with fail
  refine HR.out.mono ?_
  rintro r w1 ⟨rfl, hb1⟩
  have HB1 := hid hb1
  clear hb1
  go_wp2_with fail
  refine (HF.out _ _ (by simp) (by simp [go_sem])).mono ?_
  rintro r w2 ⟨rfl, hb2⟩
  have HB2 := hid ((HB1.out.alloc HB1.out.size _).trans (hb2.mono (by have := HB1.out.size; simp; omega)))
  clear hb2
  go_wp2
  go_ret
  exact ⟨rfl, HB2.out⟩
end Go.Proofs.YtijadahpddmhjaaGreatDoor
