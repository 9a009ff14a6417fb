
/- What the document's Sum does: the exact sum of two finite numbers. -/
import Derived.Test.YtpgcelbgmpfliaaDoorQ26
import Derived.Test.YtpgcelbgmpfliaaDoorQ30
namespace Go.Proofs.YtpgcelbgmpfliaaDoor
open Go.RowKit Go.IntWalk

/-- The world of Sum: its two numbers and its answer's place in new blocks. -/
def sumW (w : World) (n1 n2 : Bool) (z1 z2 : Nat) (E1 E2 : Int) : World := ((w.alloc (.cells #[.int .i64 0, .bool n1, .pointer (some ⟨z1, 0, none⟩), .int .i64 E1] 38)).alloc (.cells #[.int .i64 0, .bool n2, .pointer (some ⟨z2, 0, none⟩), .int .i64 E2] 38)).alloc (.cells #[.int .i64 0, .bool false, .pointer none, .int .i64 0] 38)
def SumFr (w : World) (n1 n2 : Bool) (z1 z2 : Nat) (E1 E2 : Int) (W : World) : Prop := Below (w.heap.size + 3) (sumW w n1 n2 z1 z2 E1 E2) W
def Cells4 (W : World) (b : Nat) (n : Bool) (z : Option Addr) (E : Int) : Prop := W.cell? ⟨b, 0, none⟩ = some (.int .i64 0) ∧ W.cell? ⟨b, 1, none⟩ = some (.bool n) ∧ W.cell? ⟨b, 2, none⟩ = some (.pointer z) ∧ W.cell? ⟨b, 3, none⟩ = some (.int .i64 E)
theorem cells4_of {W : World} {b : Nat} {n : Bool} {z : Option Addr} {E : Int} {T : TypeId} (h : W.heap[b]? = some (.cells #[.int .i64 0, .bool n, .pointer z, .int .i64 E] T)) : Cells4 W b n z E ∧ (∀ o, W.frozen? ⟨b, o, none⟩ = false) :=
  ⟨⟨by simp [World.cell?, h], by simp [World.cell?, h], by simp [World.cell?, h], by simp [World.cell?, h]⟩, fun o => by simp [World.frozen?, h]⟩
theorem newblk (w : World) (o : Obj) (k : Nat) (hk : k = w.heap.size) : (w.alloc o).heap[k]? = some o := by
  rw [hk]
  show (w.heap.push _)[w.heap.size]? = _
  rw [Array.getElem?_push_size]
theorem sumW_size (w : World) (n1 n2 : Bool) (z1 z2 : Nat) (E1 E2 : Int) : (sumW w n1 n2 z1 z2 E1 E2).heap.size = w.heap.size + 3 := by unfold sumW; simp
theorem sumW_blocks (w : World) (n1 n2 : Bool) (z1 z2 : Nat) (E1 E2 : Int) : (sumW w n1 n2 z1 z2 E1 E2).heap[w.heap.size]? = some (.cells #[.int .i64 0, .bool n1, .pointer (some ⟨z1, 0, none⟩), .int .i64 E1] 38) ∧ (sumW w n1 n2 z1 z2 E1 E2).heap[w.heap.size + 1]? = some (.cells #[.int .i64 0, .bool n2, .pointer (some ⟨z2, 0, none⟩), .int .i64 E2] 38) ∧ (sumW w n1 n2 z1 z2 E1 E2).heap[w.heap.size + 2]? = some (.cells #[.int .i64 0, .bool false, .pointer none, .int .i64 0] 38) := by
  unfold sumW
  refine ⟨?_, ?_, ?_⟩
  · rw [(al_below _ _).block w.heap.size (by simp; omega), (al_below _ _).block w.heap.size (by simp)]
    exact newblk w _ _ rfl
  · rw [(al_below _ _).block (w.heap.size + 1) (by simp)]
    exact newblk _ _ _ (by simp)
  · exact newblk _ _ _ (by simp)
theorem sumW_below (w : World) (n1 n2 : Bool) (z1 z2 : Nat) (E1 E2 : Int) : Below w.heap.size w (sumW w n1 n2 z1 z2 E1 E2) := by
  unfold sumW; exact bl_al (bl_al (al_below _ _) _) _
theorem SumFr.all {w : World} {n1 n2 : Bool} {z1 z2 : Nat} {E1 E2 : Int} {W : World} (h : SumFr w n1 n2 z1 z2 E1 E2 W) : Cells4 W w.heap.size n1 (some ⟨z1, 0, none⟩) E1 ∧ Cells4 W (w.heap.size + 1) n2 (some ⟨z2, 0, none⟩) E2 ∧ W.heap[w.heap.size + 2]? = some (.cells #[.int .i64 0, .bool false, .pointer none, .int .i64 0] 38) ∧ Below w.heap.size w W ∧ w.heap.size + 3 ≤ W.heap.size := by
  obtain ⟨a, b, c⟩ := sumW_blocks w n1 n2 z1 z2 E1 E2
  have hs := h.size
  rw [sumW_size] at hs
  exact ⟨(cells4_of ((h.block _ (by omega)).trans a)).1, (cells4_of ((h.block _ (by omega)).trans b)).1, (h.block _ (by omega)).trans c, (sumW_below w n1 n2 z1 z2 E1 E2).trans (h.mono (by omega)), hs⟩
theorem SumFr.al {w : World} {n1 n2 : Bool} {z1 z2 : Nat} {E1 E2 : Int} {W : World} (h : SumFr w n1 n2 z1 z2 E1 E2 W) (o : Obj) : SumFr w n1 n2 z1 z2 E1 E2 (W.alloc o) := Below.alloc h h.all.2.2.2.2 o
set_option maxHeartbeats 4000000 in
theorem rSum_any (n1 n2 : Bool) (z1 m1 z2 m2 i j bd : Nat) (E1 E2 e : Int) (w : World) (h1 : NumAt w z1 m1 bd) (h2 : NumAt w z2 m2 bd) (hb : bd ≤ 1000) (he : min E1 E2 = e) (hi : E1 - e = (i : Int)) (hj : E2 - e = (j : Int)) (hi2 : i ≤ 100000) (hj2 : j ≤ 100000) :
    Calls Tryd.prog 18 #[.agg #[.int .i64 0, .bool n1, .pointer (some ⟨z1, 0, none⟩), .int .i64 E1], .agg #[.int .i64 0, .bool n2, .pointer (some ⟨z2, 0, none⟩), .int .i64 E2]] w fun r w' => ∃ q, r = .returned (.agg #[.int .i64 0, .bool (decide (sgnM n1 m1 i + sgnM n2 m2 j < 0)), .pointer (some ⟨q, 0, none⟩), .int .i64 e]) ∧ NumAt w' q ((sgnM n1 m1 i + sgnM n2 m2 j).natAbs : Int) 8000 ∧ Below w.heap.size w w' := by
  have HSA : Hid (∀ W, Hid (SumFr w n1 n2 z1 z2 E1 E2 W) → Calls Tryd.prog 41 #[.agg #[.int .i64 0, .bool n1, .pointer (some ⟨z1, 0, none⟩), .int .i64 E1], .int .i64 e] W fun r w1 => ∃ q, r = .returned (.pointer (some ⟨q, 0, none⟩)) ∧ Hid (NumAt w1 q (sgnM n1 m1 i) 5000) ∧ Hid (Below W.heap.size W w1) ∧ Hid (SumFr w n1 n2 z1 z2 E1 E2 w1) ∧ W.heap.size ≤ q) := fun W h => by
    obtain ⟨_, _, _, hbw, hsz⟩ := h.out.all
    refine (rsigned_any 0 n1 z1 m1 bd i E1 e W (h1.below hbw) (by omega) hi (by omega)).mono ?_
    rintro r w1 ⟨rfl, a1, a2⟩
    exact ⟨_, rfl, a1.more (by omega), a2, fC h.out a2 (by omega), by omega⟩
  have HSB : Hid (∀ W, Hid (SumFr w n1 n2 z1 z2 E1 E2 W) → Calls Tryd.prog 41 #[.agg #[.int .i64 0, .bool n2, .pointer (some ⟨z2, 0, none⟩), .int .i64 E2], .int .i64 e] W fun r w1 => ∃ q, r = .returned (.pointer (some ⟨q, 0, none⟩)) ∧ Hid (NumAt w1 q (sgnM n2 m2 j) 5000) ∧ Hid (Below W.heap.size W w1) ∧ Hid (SumFr w n1 n2 z1 z2 E1 E2 w1) ∧ W.heap.size ≤ q) := fun W h => by
    obtain ⟨_, _, _, hbw, hsz⟩ := h.out.all
    refine (rsigned_any 0 n2 z2 m2 bd j E2 e W (h2.below hbw) (by omega) hj (by omega)).mono ?_
    rintro r w1 ⟨rfl, a1, a2⟩
    exact ⟨_, rfl, a1.more (by omega), a2, fC h.out a2 (by omega), by omega⟩
  obtain ⟨v1, hv1⟩ : ∃ v1, Hid (sgnM n1 m1 i = v1) := ⟨_, rfl⟩
  obtain ⟨v2, hv2⟩ : ∃ v2, Hid (sgnM n2 m2 j = v2) := ⟨_, rfl⟩
  rw [hv1.out] at HSA
  rw [hv2.out] at HSB
  rw [hv1.out, hv2.out]
  have HK : Hid (∀ W, Hid (SumFr w n1 n2 z1 z2 E1 E2 W) → (Cells4 W w.heap.size n1 (some ⟨z1, 0, none⟩) E1 ∧ Cells4 W (w.heap.size + 1) n2 (some ⟨z2, 0, none⟩) E2) ∧ Hid (SumFr w n1 n2 z1 z2 E1 E2 W)) := fun W h => ⟨⟨h.out.all.1, h.out.all.2.1⟩, h⟩
  have HQ0 : Hid (SumFr w n1 n2 z1 z2 E1 E2 (sumW w n1 n2 z1 z2 E1 E2).drew) := Below.drew (Below.refl _ _)
  have HQ1 : Hid (SumFr w n1 n2 z1 z2 E1 E2 ((sumW w n1 n2 z1 z2 E1 E2).alloc (.cells #[.bool false, .slice none 0 0] 66)).drew) := Below.drew (Below.alloc (Below.refl _ _) (by rw [sumW_size]; omega) _)
  have HZ0 : Hid (NumAt ((sumW w n1 n2 z1 z2 E1 E2).alloc (.cells #[.bool false, .slice none 0 0] 66)).drew (w.heap.size + 3) 0 0) := by
    have := (fresh_num (sumW w n1 n2 z1 z2 E1 E2)).drew
    rw [sumW_size] at this
    exact this
  have HAD : Hid (∀ W z q1 q2, NumAt W z 0 0 → NumAt W q1 v1 5000 → NumAt W q2 v2 5000 → q1 ≠ z → q2 ≠ z → Hid (SumFr w n1 n2 z1 z2 E1 E2 W) → w.heap.size + 3 ≤ z → Calls Tryd.prog 43 #[.pointer (some ⟨z, 0, none⟩), .pointer (some ⟨q1, 0, none⟩), .pointer (some ⟨q2, 0, none⟩)] W fun r w3 => r = .returned (.pointer (some ⟨z, 0, none⟩)) ∧ Hid (NumAt w3 z (v1 + v2) 8000) ∧ Hid (SumFr w n1 n2 z1 z2 E1 E2 w3)) := fun W z q1 q2 hz g1 g2 a1 a2 hF hge => by
    refine (NAdd z q1 q2 v1 v2 5000 5000 W hz.zok (Or.inr ⟨a1, a2⟩) g1 g2 (by decide) (by decide)).mono ?_
    rintro r w3 ⟨rfl, e1, e2⟩
    exact ⟨rfl, e1.more (by decide), hF.out.trans (e2.below hF.out.all.2.2.2.2 hge)⟩
  obtain ⟨sg, hsg⟩ : ∃ sg, Hid (sgnZ (v1 + v2) = sg) := ⟨_, rfl⟩
  obtain ⟨B, hB⟩ : ∃ B, Hid (decide (v1 + v2 < 0) = B) := ⟨_, rfl⟩
  have hsB : decide (sg < 0) = B := by
    rw [← hsg.out, ← hB.out]
    unfold sgnZ
    apply decide_eq_decide.2
    split
    · omega
    · split <;> omega
  rw [hB.out]
  clear h1 h2 hi hj hi2 hj2 hb
  unfold sumW at HQ0 HQ1 HZ0
  unfold Cells4 at HK
  go_enter Tryd.func18, Tryd.ntmps18
  go_wp2_with fail
  go_region_held3 (fun W => ((W.cell? ⟨w.heap.size, 0, none⟩ = some (.int .i64 0) ∧ W.cell? ⟨w.heap.size, 1, none⟩ = some (.bool n1) ∧ W.cell? ⟨w.heap.size, 2, none⟩ = some (.pointer (some ⟨z1, 0, none⟩)) ∧ W.cell? ⟨w.heap.size, 3, none⟩ = some (.int .i64 E1)) ∧ (W.cell? ⟨w.heap.size + 1, 0, none⟩ = some (.int .i64 0) ∧ W.cell? ⟨w.heap.size + 1, 1, none⟩ = some (.bool n2) ∧ W.cell? ⟨w.heap.size + 1, 2, none⟩ = some (.pointer (some ⟨z2, 0, none⟩)) ∧ W.cell? ⟨w.heap.size + 1, 3, none⟩ = some (.int .i64 E2))) ∧ Hid (SumFr w n1 n2 z1 z2 E1 E2 W))
    ((refine HK.out _ ?_; first | assumption | exact HQ0 | exact HQ1 | exact hid (SumFr.al (Hid.out (by assumption)) _)))
    (first
      | (go_at_call 41; with_reducible refine (HSA.out _ (And.right (by assumption))).mono ?_; rintro r w1 ⟨q1, rfl, HN1, HB1, HF1, hq1⟩)
      | (go_at_call 41; with_reducible refine (HSB.out _ (And.right (by assumption))).mono ?_; rintro r w2 ⟨q2, rfl, HN2, HB2, HF2, hq2⟩)
      | (go_at_call 43; with_reducible refine (HAD.out _ _ _ _ (by first | exact (HZ0.out.below HB1.out).below HB2.out | exact (fresh_num _).below HB2.out | exact fresh_num _) (by first | exact HN1.out.below HB2.out | exact (HN1.out.al _).below HB2.out | exact (HN1.out.below HB2.out).al _) (by first | exact HN2.out | exact HN2.out.al _) (by first | (have t1 := HZ0.out.lt; omega) | (have t1 := HN1.out.lt; have t2 := HB2.out.size; omega) | (have t1 := HN1.out.lt; omega)) (by first | (have t1 := (HZ0.out.below HB1.out).lt; omega) | (have t1 := HN2.out.lt; simp at hq2; omega) | (have t1 := HN2.out.lt; omega)) (And.right (by assumption)) (by first | omega | (have t1 := HF1.out.all.2.2.2.2; omega) | (have t1 := HF2.out.all.2.2.2.2; omega))).mono ?_; rintro r w3 ⟨rfl, HN3, HF3⟩))
  all_goals clear HSA HSB HK HQ0 HQ1 HZ0 HAD
  all_goals go_wp2_with fail
  all_goals
    refine (NSign _ _ _ _ HN3.out).mono ?_
    rintro r w4 ⟨rfl, rfl⟩
    rw [hsg.out]
    go_wp2_with fail
    refine (NAbs _ _ _ _ _ HN3.out.zok HN3.out (by decide)).mono ?_
    rintro r w5 ⟨rfl, h5, b5⟩
    have hzl := HN3.out.lt
    have hbR := (b5.block (w.heap.size + 2) (by have := HF3.out.all.2.2.2.2; omega) (by first | omega | (have t1 := HF1.out.all.2.2.2.2; omega) | (have t1 := HF2.out.all.2.2.2.2; omega))).trans HF3.out.all.2.2.1
    obtain ⟨⟨r0, r1, r2, r3⟩, rz⟩ := cells4_of hbR
    have HNE := numE h5 hbR hbR (by first | omega | (have t1 := HF1.out.all.2.2.2.2; omega) | (have t1 := HF2.out.all.2.2.2.2; omega)) (by first | omega | (have t1 := HF1.out.all.2.2.2.2; omega) | (have t1 := HF2.out.all.2.2.2.2; omega))
    have HBE : Hid (Below w.heap.size w w5) := HF3.out.all.2.2.2.1.trans (b5.below HF3.out.all.2.2.2.1.size (by first | omega | (have t1 := HF1.out.all.2.2.2.2; omega) | (have t1 := HF2.out.all.2.2.2.2; omega)))
    clear h5 b5 hbR
    go_wp2
  · exact bodyPost_ret (v := .agg #[.int .i64 0, .bool B, .pointer (some ⟨w.heap.size + 1 + 1 + 1, 0, none⟩), .int .i64 e]) (by simp [results, Tryd.results18, go_sem, r0, r1, r2, r3]) rfl ⟨_, rfl, HNE.out _ (by repeat (first | with_reducible refine Upd.alloc ?_ _ | with_reducible refine Upd.setr ?_ _ _ | with_reducible exact Upd.refl _ _ _)), (show Upd (w.heap.size + 2) (w.heap.size + 2) w5 _ from by repeat (first | with_reducible refine Upd.alloc ?_ _ | with_reducible refine Upd.setr ?_ _ _ | with_reducible exact Upd.refl _ _ _)).below HBE.out (by omega) (by omega)⟩
  · exact bodyPost_ret (v := .agg #[.int .i64 0, .bool B, .pointer (some ⟨w1.heap.size, 0, none⟩), .int .i64 e]) (by simp [results, Tryd.results18, go_sem, r0, r1, r2, r3]) rfl ⟨_, rfl, HNE.out _ (by repeat (first | with_reducible refine Upd.alloc ?_ _ | with_reducible refine Upd.setr ?_ _ _ | with_reducible exact Upd.refl _ _ _)), (show Upd (w.heap.size + 2) (w.heap.size + 2) w5 _ from by repeat (first | with_reducible refine Upd.alloc ?_ _ | with_reducible refine Upd.setr ?_ _ _ | with_reducible exact Upd.refl _ _ _)).below HBE.out (by omega) (by omega)⟩
  · exact bodyPost_ret (v := .agg #[.int .i64 0, .bool B, .pointer (some ⟨w2.heap.size, 0, none⟩), .int .i64 e]) (by simp [results, Tryd.results18, go_sem, r0, r1, r2, r3]) rfl ⟨_, rfl, HNE.out _ (by repeat (first | with_reducible refine Upd.alloc ?_ _ | with_reducible refine Upd.setr ?_ _ _ | with_reducible exact Upd.refl _ _ _)), (show Upd (w.heap.size + 2) (w.heap.size + 2) w5 _ from by repeat (first | with_reducible refine Upd.alloc ?_ _ | with_reducible refine Upd.setr ?_ _ _ | with_reducible exact Upd.refl _ _ _)).below HBE.out (by omega) (by omega)⟩
end Go.Proofs.YtpgcelbgmpfliaaDoor
