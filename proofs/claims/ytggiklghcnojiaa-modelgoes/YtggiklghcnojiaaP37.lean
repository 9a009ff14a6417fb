
/- model: Seconds at the chapter's examples; a motion of one axis with its speed: its blocks, its axes. -/
import Derived.Test.YtggiklghcnojiaaP36
namespace Go.Proofs.Ytggiklghcnojiaa
open Go.RowKit Go.IntWalk

/-- A reckoning whose number is known. -/
theorem arq_run (op : BinOp) (x y z : Nat) (h : floatBits op .f64 x y = some z) (hop : op = .add ∨ op = .sub ∨ op = .mul ∨ op = .quo) (w : World) : (binOp op 38 (.float .f64 x) (.float .f64 y)).run Try.prog w = .ok (.float .f64 z) w := by
  rcases hop with rfl | rfl | rfl | rfl <;> exact run_float_arith w _ _ .f64 x y z h
theorem sec_two : floatOfInt .f64 2000000 = 4701340746312056832 := by decide +kernel
theorem sec_half : floatOfInt .f64 500000 = 4692333547057315840 := by decide +kernel
set_option maxHeartbeats 1000000 in
theorem Seconds_two (w : World) : Calls Try.prog 13 #[.int .i64 2000000] w fun r w' => r = .returned (.tuple #[.float .f64 4611686018427387904, .int .i64 0]) ∧ w' = w := by
  have h1 := sec_two
  have h2 := arq_run .quo 4701340746312056832 4696837146684686336 4611686018427387904 (by decide +kernel) (by simp)
  go_enter Try.func13, Try.ntmps13
  go_wp2_with fail
  exact bodyPost_ret (v := .tuple #[.float .f64 4611686018427387904, .int .i64 0]) (by simp [results, Try.results13, go_sem]) rfl ⟨rfl, rfl⟩
set_option maxHeartbeats 1000000 in
theorem Seconds_half (w : World) : Calls Try.prog 13 #[.int .i64 500000] w fun r w' => r = .returned (.tuple #[.float .f64 4602678819172646912, .int .i64 0]) ∧ w' = w := by
  have h1 := sec_half
  have h2 := arq_run .quo 4692333547057315840 4696837146684686336 4602678819172646912 (by decide +kernel) (by simp)
  go_enter Try.func13, Try.ntmps13
  go_wp2_with fail
  exact bodyPost_ret (v := .tuple #[.float .f64 4602678819172646912, .int .i64 0]) (by simp [results, Try.results13, go_sem]) rfl ⟨rfl, rfl⟩
set_option maxHeartbeats 1000000 in
theorem speedF_two (w : World) : Calls Try.prog 27 #[.agg #[.int .i64 2, .int .i64 1, .float .f64 4613937818241073152, .float .f64 0], .float .f64 4611686018427387904] w fun r w' => r = .returned (.slice (some ⟨w.heap.size + 1, 0, none⟩) 4 4) ∧ w'.heap[w.heap.size + 1]? = some (L4 4607182418800017408 4611686018427387904 0 4607182418800017408) ∧ Below w.heap.size w w' := by
  obtain ⟨t1, t2, t3, t4⟩ := two_b w (PBox 2 1 4613937818241073152 0) (L4 4607182418800017408 4611686018427387904 0 4607182418800017408)
  obtain ⟨V, hV⟩ : ∃ V, Hid ((w.alloc (PBox 2 1 4613937818241073152 0)).alloc (L4 4607182418800017408 4611686018427387904 0 4607182418800017408) = V) := ⟨_, rfl⟩
  rw [hV.out] at t1 t2 t3 t4
  have hV' := hV.out
  have HB := hid t3
  have HL := hid t2
  unfold PBox L4 at hV'
  clear t1 t2 t3 t4
  go_enter Try.func27, Try.ntmps27
  go_wp2_with fail
  go_ret
  exact ⟨rfl, HL.out, HB.out⟩
set_option maxHeartbeats 1000000 in
theorem speedQ_two (w : World) : Calls Try.prog 28 #[.agg #[.int .i64 2, .int .i64 1, .float .f64 4613937818241073152, .float .f64 0], .float .f64 4611686018427387904] w fun r w' => r = .returned (.slice (some ⟨w.heap.size + 1, 0, none⟩) 4 4) ∧ w'.heap[w.heap.size + 1]? = some (L4 4620693217682128896 4618441417868443648 4618441417868443648 4618441417868443648) ∧ Below w.heap.size w w' := by
  obtain ⟨t1, t2, t3, t4⟩ := two_b w (PBox 2 1 4613937818241073152 0) (L4 4620693217682128896 4618441417868443648 4618441417868443648 4618441417868443648)
  have hc := ptcells_of (nblkM w (PBox 2 1 4613937818241073152 0))
  obtain ⟨U, hU⟩ : ∃ V, Hid (w.alloc (PBox 2 1 4613937818241073152 0) = V) := ⟨_, rfl⟩
  obtain ⟨V, hV⟩ : ∃ V, Hid ((w.alloc (PBox 2 1 4613937818241073152 0)).alloc (L4 4620693217682128896 4618441417868443648 4618441417868443648 4618441417868443648) = V) := ⟨_, rfl⟩
  rw [hV.out] at t1 t2 t3 t4
  rw [hU.out] at hV hc
  have hU' := hU.out
  have hV' := hV.out
  have HB := hid t3
  have HL := hid t2
  have hs : U.heap.size = w.heap.size + 1 := by rw [← hU.out, World.size_alloc]
  obtain ⟨_, _, c2, _⟩ := hc
  unfold PBox at hU'
  unfold L4 at hV'
  have h1 := arq_run .mul 4613937818241073152 4611686018427387904 4618441417868443648 (by decide +kernel) (by simp)
  have h2 := arq_run .mul 4618441417868443648 4611686018427387904 4622945017495814144 (by decide +kernel) (by simp)
  have h3 := arq_run .quo 4622945017495814144 4611686018427387904 4618441417868443648 (by decide +kernel) (by simp)
  have h4 := arq_run .mul 4622945017495814144 4611686018427387904 4627448617123184640 (by decide +kernel) (by simp)
  have h5 := arq_run .quo 4627448617123184640 4613937818241073152 4620693217682128896 (by decide +kernel) (by simp)
  clear t1 t2 t3 t4
  go_enter Try.func28, Try.ntmps28
  go_wp2_with fail
  go_ret
  exact ⟨rfl, HL.out, HB.out⟩
def KBox : Obj := .cells #[.int .i64 2, .func (.func 27) #[] #[], .func (.func 28) #[] #[], .func (.func 29) #[] #[]] 53
set_option maxHeartbeats 1000000 in
theorem chosenF_two (w : World) : Calls Try.prog 18 #[.agg #[.int .i64 2, .func (.func 27) #[] #[], .func (.func 28) #[] #[], .func (.func 29) #[] #[]]] w fun r w' => r = .returned (.func (.func 27) #[] #[]) ∧ Below w.heap.size w w' := by
  go_enter Try.func18, Try.ntmps18
  go_wp2_with fail
  go_ret
  exact ⟨rfl, (Below.refl _ _).alloc (Nat.le_refl _) _⟩
set_option maxHeartbeats 1000000 in
theorem chosenQ_two (w : World) : Calls Try.prog 19 #[.agg #[.int .i64 2, .func (.func 27) #[] #[], .func (.func 28) #[] #[], .func (.func 29) #[] #[]]] w fun r w' => r = .returned (.func (.func 28) #[] #[]) ∧ Below w.heap.size w w' := by
  go_enter Try.func19, Try.ntmps19
  go_wp2_with fail
  go_ret
  exact ⟨rfl, (Below.refl _ _).alloc (Nat.le_refl _) _⟩
theorem info_ax0 : (Try.prog.info? 62).map (fun i => (i.zero, i.size, i.bytes)) = some (some (.agg #[.int .i64 0, .int .i64 0, .int .i64 0, .int .i64 0, .nilFunc, .nilFunc, .nilFunc]), 7, 56) := by kernel_rfl
theorem info_ax : ∃ i, Try.prog.info? 62 = some i ∧ i.zero = some (.agg #[.int .i64 0, .int .i64 0, .int .i64 0, .int .i64 0, .nilFunc, .nilFunc, .nilFunc]) ∧ i.size = 7 ∧ i.bytes = 56 := by
  have h := info_ax0
  cases hi : Try.prog.info? 62 with
  | none => rw [hi] at h; cases h
  | some i =>
    rw [hi] at h
    simp only [Option.map_some, Option.some.injEq, Prod.mk.injEq] at h
    exact ⟨i, rfl, h.1, h.2.1, h.2.2⟩
end Go.Proofs.Ytggiklghcnojiaa

namespace Go.Proofs.Ytggiklghcnojiaa
open Go.RowKit Go.IntWalk

def axL : List Value := [.int .i64 0, .int .i64 0, .int .i64 0, .int .i64 2, .func (.func 27) #[] #[], .func (.func 28) #[] #[], .func (.func 29) #[] #[]]
theorem kcells_of {W : World} {b : Nat} (h : W.heap[b]? = some KBox) : W.cell? ⟨b, 0, none⟩ = some (.int .i64 2) ∧ W.cell? ⟨b, 1, none⟩ = some (.func (.func 27) #[] #[]) ∧ W.cell? ⟨b, 2, none⟩ = some (.func (.func 28) #[] #[]) ∧ W.cell? ⟨b, 3, none⟩ = some (.func (.func 29) #[] #[]) := by
  unfold KBox at h
  refine ⟨?_, ?_, ?_, ?_⟩ <;> simp [World.cell?, h]
set_option maxRecDepth 2000 in
set_option maxHeartbeats 4000000 in
theorem axes_two (g n1 f1 : Nat) (w : World) (hg : w.heap[g]? = some (PBox 2 1 n1 f1)) : Calls Try.prog 35 #[.agg #[.slice (some ⟨g, 0, none⟩) 1 1]] w fun r w' => (∃ v, r = .returned v ∧ w'.ownsRow w.heap.size 62 7 v 1 axL) ∧ Below w.heap.size w w' := by
  have HB0 : Hid (Below w.heap.size w (w.alloc (MoBox (some ⟨g, 0, none⟩) 1 1)) ∧ (w.alloc (MoBox (some ⟨g, 0, none⟩) 1 1)).heap[w.heap.size]? = some (MoBox (some ⟨g, 0, none⟩) 1 1)) := ⟨(Below.refl _ _).alloc (Nat.le_refl _) _, nblkM _ _⟩
  obtain ⟨V, hV⟩ : ∃ V, Hid (w.alloc (MoBox (some ⟨g, 0, none⟩) 1 1) = V) := ⟨_, rfl⟩
  rw [hV.out] at HB0
  have hV' := hV.out
  unfold MoBox at hV'
  have c0 := mocell_of HB0.out.2
  have hst := fstoreM
  have HG := hid hg
  have HKO := hid (fun W => kindOf_two 1 n1 f1 W)
  clear hg
  go_enter Try.func35, Try.ntmps35
  go_wp2_with fail
  clear c0
  go_loopw [3, 4, 12] (fun ov fv iv wr => ((iv = .int .i64 0 ∧ ov = .slice none 0 0 ∧ fv = .int .i64 0) ∨ (iv = .int .i64 1 ∧ fv = .int .i64 2 ∧ Hid (wr.ownsRow w.heap.size 62 7 ov 1 axL))) ∧ Hid (Below w.heap.size w wr)) (fun _ _ iv _ => 1 - (intOf iv).toNat)
  case atStart => exact ⟨Or.inl ⟨rfl, rfl, rfl⟩, HB0.out.1⟩
  case round =>
    obtain ⟨⟨rfl, rfl, rfl⟩ | ⟨rfl, rfl, HOW⟩, HBW⟩ := hrel
    · have HGW := hid (blkM HG.out HBW.out)
      obtain ⟨p0, p1, p2, p3⟩ := ptcells_of HGW.out
      have HB1 : Hid (Below w.heap.size w (wr.alloc (PBox 2 1 n1 f1)) ∧ (wr.alloc (PBox 2 1 n1 f1)).heap[wr.heap.size]? = some (PBox 2 1 n1 f1)) := ⟨HBW.out.alloc HBW.out.size _, nblkM _ _⟩
      obtain ⟨V1, hV1⟩ : ∃ V, Hid (wr.alloc (PBox 2 1 n1 f1) = V) := ⟨_, rfl⟩
      rw [hV1.out] at HB1
      have hV1' := hV1.out
      unfold PBox at hV1'
      obtain ⟨q0, q1, q2, q3⟩ := ptcells_of HB1.out.2
      go_wp2_with fail
      refine (HKO.out _).mono ?_
      rintro e w2 ⟨rfl, hb⟩
      have HB2 : Hid (Below w.heap.size w w2 ∧ w2.heap[wr.heap.size]? = some (PBox 2 1 n1 f1)) := ⟨HB1.out.1.trans (hb.mono HB1.out.1.size), blkM HB1.out.2 hb⟩
      clear hb
      have hal : Below w2.heap.size w2 (w2.alloc KBox) := (Below.refl _ _).alloc (Nat.le_refl _) _
      have HB3 : Hid (Below w.heap.size w (w2.alloc KBox) ∧ (w2.alloc KBox).heap[wr.heap.size]? = some (PBox 2 1 n1 f1) ∧ (w2.alloc KBox).heap[w2.heap.size]? = some KBox) := ⟨HB2.out.1.alloc HB2.out.1.size _, blkM HB2.out.2 hal, nblkM _ _⟩
      obtain ⟨V3, hV3⟩ : ∃ V, Hid (w2.alloc KBox = V) := ⟨_, rfl⟩
      rw [hV3.out] at HB3
      have hV3' := hV3.out
      unfold KBox at hV3'
      obtain ⟨s0, s1, s2, s3⟩ := ptcells_of HB3.out.2.1
      clear hal
      go_wp2_with fail
      clear s0 s1 s2 s3 p0 p1 p2 p3 q0 q1 q2 q3
      go_loopw [3, 4, 21] (fun ov fv jv wi => ((jv = .int .i64 0 ∧ ov = .slice none 0 0 ∧ fv = .int .i64 0 ∧ Hid (wi.heap[w2.heap.size]? = some KBox)) ∨ (jv = .int .i64 1 ∧ fv = .int .i64 2 ∧ Hid (wi.ownsRow w.heap.size 62 7 ov 1 axL))) ∧ Hid (Below w.heap.size w wi)) (fun _ _ jv _ => 1 - (intOf jv).toNat)
      case atStart => exact ⟨Or.inl ⟨rfl, rfl, rfl, HB3.out.2.2⟩, HB3.out.1⟩
      case round =>
        obtain ⟨⟨rfl, rfl, rfl, HKB⟩ | ⟨rfl, rfl, HOW⟩, HBI⟩ := hrel
        · obtain ⟨k0, k1, k2, k3⟩ := kcells_of HKB.out
          obtain ⟨i0, hi, hz0, hz1, hz2⟩ := info_ax
          have hown := World.ownsRow_nil wr w.heap.size 62 7
          have hbs := HBI.out.size
          go_wp2_with (first
            | (at_builtin; (refine wpList_append_own _ rfl _ _ 59 rfl w.heap.size 62 i0 (.agg #[.int .i64 0, .int .i64 0, .int .i64 0, .int .i64 0, .nilFunc, .nilFunc, .nilFunc]) 7 56 Try.underlying59 hi hz0 hz1 hz2 rfl (by decide) _ _ _ rfl (hown.alloc _) ⟨wr.heap.size, 0, none⟩ 1 1 axL rfl rfl ?c1 ?c2 ?c3 ?c4 ?c5 ?_))
            | fail)
          case c1 =>
            intro j u hj
            unfold axL at hj
            match j, hj with
            | 0, hj => simp at hj; subst hj; simp [Addr.add]
            | 1, hj => simp at hj; subst hj; simp [Addr.add]
            | 2, hj => simp at hj; subst hj; simp [Addr.add]
            | 3, hj => simp at hj; subst hj; simp [Addr.add]
            | 4, hj => simp at hj; subst hj; simp [Addr.add]
            | 5, hj => simp at hj; subst hj; simp [Addr.add]
            | 6, hj => simp at hj; subst hj; simp [Addr.add]
          case c2 =>
            intro u hu
            simp [axL] at hu
            rcases hu with hu | hu | hu | hu | hu <;> (rw [hu]; rfl)
          case c3 => unfold maxLen; omega
          case c4 => omega
          case c5 => simp; omega
          intro mv' w9 hown' hgrow _
          have hb9 := (Below.refl _ _).grown hgrow (Nat.le_refl _) (fun g hg => by cases hg)
          have HB9 := hid ((HBI.out.alloc hbs _).trans (hb9.mono (by simp; omega)))
          have HK9 := hid (blkM (blkM HKB.out ((Below.refl _ _).alloc (Nat.le_refl _) _)) hb9)
          have HO9 : Hid (w9.ownsRow w.heap.size 62 7 mv' 1 axL) := hown'
          obtain ⟨k0, k1, k2, k3⟩ := kcells_of HK9.out
          clear hown' hgrow hb9 hown
          go_wp2_with fail
          go_roundw
          case rel => exact ⟨Or.inr ⟨rfl, rfl, HO9⟩, HB9⟩
          case measure => simp [intOf]
        · go_wp2_with fail
          go_roundw
          case rel => exact ⟨Or.inr ⟨by go_num, rfl, HOW⟩, HBI⟩
          case measure => simp [intOf]
    · go_wp2_with fail
      go_ret
      exact ⟨⟨_, rfl, HOW.out⟩, HBW.out⟩
end Go.Proofs.Ytggiklghcnojiaa
