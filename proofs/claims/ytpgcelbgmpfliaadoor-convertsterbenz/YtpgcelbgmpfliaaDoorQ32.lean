
/- The document's Cmp and Sum by the values of their numbers. -/
import Derived.Test.YtpgcelbgmpfliaaDoorQ31
import Derived.Test.YtpgcelbgmpfliaaDoorQ30
namespace Go.Proofs.YtpgcelbgmpfliaaDoor
open Go.RowKit Go.IntWalk

def cmpW (w : World) (n1 n2 : Bool) (z1 z2 : Nat) (E1 E2 : Int) : World := (w.alloc (.cells #[.int .i64 0, .bool n1, .pointer (some ⟨z1, 0, none⟩), .int .i64 E1] 38)).alloc (.cells #[.int .i64 0, .bool n2, .pointer (some ⟨z2, 0, none⟩), .int .i64 E2] 38)
def CmpFr (w : World) (n1 n2 : Bool) (z1 z2 : Nat) (E1 E2 : Int) (W : World) : Prop := Below (w.heap.size + 2) (cmpW w n1 n2 z1 z2 E1 E2) W
theorem cmpW_size (w : World) (n1 n2 : Bool) (z1 z2 : Nat) (E1 E2 : Int) : (cmpW w n1 n2 z1 z2 E1 E2).heap.size = w.heap.size + 2 := by unfold cmpW; simp
theorem CmpFr.all {w : World} {n1 n2 : Bool} {z1 z2 : Nat} {E1 E2 : Int} {W : World} (h : CmpFr w n1 n2 z1 z2 E1 E2 W) : Cells4 W w.heap.size n1 (some ⟨z1, 0, none⟩) E1 ∧ Cells4 W (w.heap.size + 1) n2 (some ⟨z2, 0, none⟩) E2 ∧ Below w.heap.size w W ∧ w.heap.size + 2 ≤ W.heap.size := by
  have a : (cmpW w n1 n2 z1 z2 E1 E2).heap[w.heap.size]? = some (.cells #[.int .i64 0, .bool n1, .pointer (some ⟨z1, 0, none⟩), .int .i64 E1] 38) := by
    unfold cmpW
    rw [(al_below _ _).block w.heap.size (by simp)]
    exact newblk w _ _ rfl
  have b : (cmpW w n1 n2 z1 z2 E1 E2).heap[w.heap.size + 1]? = some (.cells #[.int .i64 0, .bool n2, .pointer (some ⟨z2, 0, none⟩), .int .i64 E2] 38) := by
    unfold cmpW
    exact newblk _ _ _ (by simp)
  have hs := h.size
  rw [cmpW_size] at hs
  have hb : Below w.heap.size w (cmpW w n1 n2 z1 z2 E1 E2) := by unfold cmpW; exact bl_al (al_below _ _) _
  exact ⟨(cells4_of ((h.block _ (by omega)).trans a)).1, (cells4_of ((h.block _ (by omega)).trans b)).1, hb.trans (h.mono (by omega)), hs⟩
set_option maxHeartbeats 4000000 in
theorem rCmp_any (n1 n2 : Bool) (z1 m1 z2 m2 i j bd : Nat) (E1 E2 e : Int) (w : World) (h1 : NumAt w z1 m1 bd) (h2 : NumAt w z2 m2 bd) (hb : bd ≤ 20000) (he : min E1 E2 = e) (hi : E1 - e = (i : Int)) (hj : E2 - e = (j : Int)) (hi2 : i ≤ 100000) (hj2 : j ≤ 100000) :
    Calls Tryd.prog 17 #[.agg #[.int .i64 0, .bool n1, .pointer (some ⟨z1, 0, none⟩), .int .i64 E1], .agg #[.int .i64 0, .bool n2, .pointer (some ⟨z2, 0, none⟩), .int .i64 E2]] w fun r w' => r = .returned (.int .i64 (cmpZ (sgnM n1 m1 i) (sgnM n2 m2 j))) ∧ Below w.heap.size w w' := by
  have HSA : Hid (∀ W, Hid (CmpFr w n1 n2 z1 z2 E1 E2 W) → Calls Tryd.prog 41 #[.agg #[.int .i64 0, .bool n1, .pointer (some ⟨z1, 0, none⟩), .int .i64 E1], .int .i64 e] W fun r w1 => ∃ q, r = .returned (.pointer (some ⟨q, 0, none⟩)) ∧ Hid (NumAt w1 q (sgnM n1 m1 i) 30000) ∧ Hid (CmpFr w n1 n2 z1 z2 E1 E2 w1)) := fun W h => by
    obtain ⟨_, _, hbw, hsz⟩ := h.out.all
    refine (rsigned_any 0 n1 z1 m1 bd i E1 e W (h1.below hbw) (by omega) hi (by omega)).mono ?_
    rintro r w1 ⟨rfl, a1, a2⟩
    exact ⟨_, rfl, a1.more (by omega), fC h.out a2 (by omega)⟩
  have HSB : Hid (∀ W, Hid (CmpFr w n1 n2 z1 z2 E1 E2 W) → Calls Tryd.prog 41 #[.agg #[.int .i64 0, .bool n2, .pointer (some ⟨z2, 0, none⟩), .int .i64 E2], .int .i64 e] W fun r w1 => ∃ q, r = .returned (.pointer (some ⟨q, 0, none⟩)) ∧ Hid (NumAt w1 q (sgnM n2 m2 j) 30000) ∧ Hid (Below W.heap.size W w1) ∧ Hid (CmpFr w n1 n2 z1 z2 E1 E2 w1)) := fun W h => by
    obtain ⟨_, _, hbw, hsz⟩ := h.out.all
    refine (rsigned_any 0 n2 z2 m2 bd j E2 e W (h2.below hbw) (by omega) hj (by omega)).mono ?_
    rintro r w1 ⟨rfl, a1, a2⟩
    exact ⟨_, rfl, a1.more (by omega), a2, fC h.out a2 (by omega)⟩
  obtain ⟨v1, hv1⟩ : ∃ v1, Hid (sgnM n1 m1 i = v1) := ⟨_, rfl⟩
  obtain ⟨v2, hv2⟩ : ∃ v2, Hid (sgnM n2 m2 j = v2) := ⟨_, rfl⟩
  rw [hv1.out] at HSA
  rw [hv2.out] at HSB
  rw [hv1.out, hv2.out]
  have HK : Hid (∀ W, Hid (CmpFr w n1 n2 z1 z2 E1 E2 W) → (Cells4 W w.heap.size n1 (some ⟨z1, 0, none⟩) E1 ∧ Cells4 W (w.heap.size + 1) n2 (some ⟨z2, 0, none⟩) E2) ∧ Hid (CmpFr w n1 n2 z1 z2 E1 E2 W)) := fun W h => ⟨⟨h.out.all.1, h.out.all.2.1⟩, h⟩
  have HQ0 : Hid (CmpFr w n1 n2 z1 z2 E1 E2 (cmpW w n1 n2 z1 z2 E1 E2).drew) := Below.drew (Below.refl _ _)
  have HCM : Hid (∀ W q1 q2, NumAt W q1 v1 30000 → NumAt W q2 v2 30000 → Hid (CmpFr w n1 n2 z1 z2 E1 E2 W) → Calls Tryd.prog 42 #[.pointer (some ⟨q1, 0, none⟩), .pointer (some ⟨q2, 0, none⟩)] W fun r w3 => r = .returned (.int .i64 (cmpZ v1 v2)) ∧ Hid (CmpFr w n1 n2 z1 z2 E1 E2 w3)) := fun W q1 q2 g1 g2 hF => by
    refine (NCmp q1 q2 v1 v2 30000 30000 W g1 g2 (by decide) (by decide)).mono ?_
    rintro r w3 ⟨rfl, e1⟩
    exact ⟨rfl, fC hF.out e1 hF.out.all.2.2.2⟩
  obtain ⟨cc, hcc⟩ : ∃ cc, Hid (cmpZ v1 v2 = cc) := ⟨_, rfl⟩
  rw [hcc.out] at HCM ⊢
  clear h1 h2 hi hj hi2 hj2 hb
  unfold cmpW at HQ0
  unfold Cells4 at HK
  go_enter Tryd.func17, Tryd.ntmps17
  go_wp2_with fail
  go_region_held3 (fun W => ((W.cell? ⟨w.heap.size, 0, none⟩ = some (.int .i64 0) ∧ W.cell? ⟨w.heap.size, 1, none⟩ = some (.bool n1) ∧ W.cell? ⟨w.heap.size, 2, none⟩ = some (.pointer (some ⟨z1, 0, none⟩)) ∧ W.cell? ⟨w.heap.size, 3, none⟩ = some (.int .i64 E1)) ∧ (W.cell? ⟨w.heap.size + 1, 0, none⟩ = some (.int .i64 0) ∧ W.cell? ⟨w.heap.size + 1, 1, none⟩ = some (.bool n2) ∧ W.cell? ⟨w.heap.size + 1, 2, none⟩ = some (.pointer (some ⟨z2, 0, none⟩)) ∧ W.cell? ⟨w.heap.size + 1, 3, none⟩ = some (.int .i64 E2))) ∧ Hid (CmpFr w n1 n2 z1 z2 E1 E2 W))
    ((refine HK.out _ ?_; first | assumption | exact HQ0))
    (first
      | (go_at_call 41; with_reducible refine (HSA.out _ (And.right (by assumption))).mono ?_; rintro r w1 ⟨q1, rfl, HN1, HF1⟩)
      | (go_at_call 41; with_reducible refine (HSB.out _ (And.right (by assumption))).mono ?_; rintro r w2 ⟨q2, rfl, HN2, HB2, HF2⟩)
      | (go_at_call 42; with_reducible refine (HCM.out _ _ _ (HN1.out.below HB2.out) HN2.out (And.right (by assumption))).mono ?_; rintro r w3 ⟨rfl, HF3⟩))
  all_goals go_wp2
  all_goals go_ret
  all_goals exact ⟨rfl, HF3.out.all.2.2.1⟩
set_option maxHeartbeats 1000000 in
theorem rAmount_any (kind : Int) (n : Bool) (z : Option Addr) (E : Int) (w : World) :
    Calls Tryd.prog 16 #[.agg #[.int .i64 kind, .bool n, .pointer z, .int .i64 E]] w fun r w' => r = .returned (.agg #[.int .i64 kind, .bool false, .pointer z, .int .i64 E]) ∧ Below w.heap.size w w' := by
  go_enter Tryd.func16, Tryd.ntmps16
  go_wp2
  exact bodyPost_ret (v := .agg #[.int .i64 kind, .bool false, .pointer z, .int .i64 E]) (by simp [results, Tryd.results16, go_sem]) rfl ⟨rfl, bl_al (bl_al (Below.refl _ _) _) _⟩
set_option maxHeartbeats 1000000 in
theorem rMinus_any (kind : Int) (n : Bool) (z : Option Addr) (E : Int) (w : World) :
    Calls Tryd.prog 21 #[.agg #[.int .i64 kind, .bool n, .pointer z, .int .i64 E]] w fun r w' => r = .returned (.agg #[.int .i64 kind, .bool (!n), .pointer z, .int .i64 E]) ∧ Below w.heap.size w w' := by
  go_enter Tryd.func21, Tryd.ntmps21
  go_wp2
  exact bodyPost_ret (v := .agg #[.int .i64 kind, .bool (!n), .pointer z, .int .i64 E]) (by simp [results, Tryd.results21, go_sem]) rfl ⟨rfl, bl_al (bl_al (Below.refl _ _) _) _⟩
end Go.Proofs.YtpgcelbgmpfliaaDoor

namespace Go.Proofs.YtpgcelbgmpfliaaDoor
open Go.RowKit Go.IntWalk

/-- What is good stays so where a Num's own block is written. -/
def GoodUpd (Good : World → Nat → Prop) : Prop := ∀ r W W' z, Good W z → W.heap[r]? = some (.cells #[.int .i64 0, .bool false, .pointer none, .int .i64 0] 38) → Upd r r W W' → Good W' z
theorem num_goodUpd (v : Int) (bd : Nat) : GoodUpd (fun W z => NumAt W z v bd) := fun r W W' z h hr hu => by
  have hne : z ≠ r := by
    intro c
    obtain ⟨neg, L, _, _, a, cap, ho, _⟩ := id h
    rw [c, hr] at ho
    simp at ho
  exact (numE h hr hr hne hne).out W' hu
set_option maxHeartbeats 1000000 in
theorem rOf32_core (Good : World → Nat → Prop) (x : Nat) (kind E : Int) (ng : Bool) (w : World) (hx : x < 4294967296) (hG : GoodUpd Good)
    (hT : ∀ W, Calls Tryd.prog 39 #[.agg #[.int .i64 24, .int .i64 (-126), .int .i64 127, .int .i64 8], .int .u64 x] W fun r w' => ∃ z, r = .returned (.agg #[.int .i64 kind, .bool ng, .pointer (some ⟨z, 0, none⟩), .int .i64 E]) ∧ Good w' z ∧ Below W.heap.size W w') :
    Calls Tryd.prog 15 #[.int .u32 x] w fun r w' => ∃ z, r = .returned (.agg #[.int .i64 kind, .bool ng, .pointer (some ⟨z, 0, none⟩), .int .i64 E]) ∧ Good w' z ∧ Below w.heap.size w w' := by
  have HT := hid hT
  have hwx : IntKind.u64.wrap (x : Int) = (x : Int) := by rw [IntKind.wrap_u64]; omega
  clear hT hx
  go_enter Tryd.func15, Tryd.ntmps15
  go_wp2_with fail
  refine (Single_any _).mono ?_
  rintro r w2 ⟨rfl, b2⟩
  have B2 := hid b2
  clear b2
  go_wp2_with fail
  refine (HT.out _).mono ?_
  rintro r w4 ⟨z, rfl, g4, b4⟩
  have hB : Below (w.heap.size + 1) (w.alloc (.cells #[.int .i64 0, .bool false, .pointer none, .int .i64 0] 38)) w4 := fC (fB B2.out) b4 (by have := B2.out.size; simp at this; omega)
  have hbR : w4.heap[w.heap.size]? = some (.cells #[.int .i64 0, .bool false, .pointer none, .int .i64 0] 38) := by
    rw [hB.block _ (Nat.lt_succ_self _)]
    exact newblk w _ _ rfl
  have HG : Hid (∀ W', Upd w.heap.size w.heap.size w4 W' → Good W' z) := fun W' hu => hG _ _ _ _ g4 hbR hu
  obtain ⟨r0, r1, r2, r3, rz⟩ := num_cells hbR
  have HBE := hid (bl_B hB)
  clear b4 g4 hB hbR
  go_wp2
  exact bodyPost_ret (v := .agg #[.int .i64 kind, .bool ng, .pointer (some ⟨z, 0, none⟩), .int .i64 E]) (by simp [results, Tryd.results15, go_sem, r0, r1, r2, r3]) rfl ⟨z, rfl, HG.out _ (by repeat (first | with_reducible refine Upd.alloc ?_ _ | with_reducible refine Upd.setr ?_ _ _ | with_reducible exact Upd.refl _ _ _)), (show Upd w.heap.size w.heap.size w4 _ from by repeat (first | with_reducible refine Upd.alloc ?_ _ | with_reducible refine Upd.setr ?_ _ _ | with_reducible exact Upd.refl _ _ _)).below HBE.out (Nat.le_refl _) (Nat.le_refl _)⟩
end Go.Proofs.YtpgcelbgmpfliaaDoor

namespace Go.Proofs.YtpgcelbgmpfliaaDoor
open Go Go.RowKit Go.IntWalk

theorem sterb (a b i j N : Nat) (ha : a < N) (hb : b < N) (h : i = 0 ∨ j = 0) (h1 : b * 2 ^ j ≤ 2 * (a * 2 ^ i)) (h2 : a * 2 ^ i ≤ 2 * (b * 2 ^ j)) : a * 2 ^ i - b * 2 ^ j < N ∧ b * 2 ^ j - a * 2 ^ i < N := by
  rcases h with rfl | rfl
  · rw [Nat.pow_zero, Nat.mul_one] at *
    omega
  · rw [Nat.pow_zero, Nat.mul_one] at *
    omega
theorem tM32_lt (x : Nat) : tM32 x < 16777216 := by unfold tM32; split <;> omega
end Go.Proofs.YtpgcelbgmpfliaaDoor

namespace Go.Proofs.YtpgcelbgmpfliaaDoor
open Go.RowKit Go.IntWalk

/-- The value of a number, in steps of 2^-C. -/
def numV (C : Nat) (n : Bool) (m : Nat) (E : Int) : Int := sgnM n m (E + (C : Int)).toNat
theorem sgnM_split (n : Bool) (m i k : Nat) : sgnM n m (i + k) = sgnM n m i * ((2 ^ k : Nat) : Int) := by
  unfold sgnM
  rw [Int.pow_add, ← Int.mul_assoc, Int.natCast_pow]
  split
  · rw [Int.neg_mul]; rfl
  · rfl
theorem cmpZ_scale (a b : Int) (P : Nat) (hP : 0 < P) : cmpZ (a * (P : Int)) (b * (P : Int)) = cmpZ a b := by
  have hP' : (0 : Int) < (P : Int) := by omega
  have h1 : a * (P : Int) < b * (P : Int) ↔ a < b := ⟨fun h => Int.lt_of_mul_lt_mul_right h (Int.le_of_lt hP'), fun h => Int.mul_lt_mul_of_pos_right h hP'⟩
  have h2 : b * (P : Int) < a * (P : Int) ↔ b < a := ⟨fun h => Int.lt_of_mul_lt_mul_right h (Int.le_of_lt hP'), fun h => Int.mul_lt_mul_of_pos_right h hP'⟩
  unfold cmpZ
  by_cases c1 : a < b
  · rw [if_pos c1, if_pos (h1.2 c1)]
  · rw [if_neg c1, if_neg (fun h => c1 (h1.1 h))]
    by_cases c2 : b < a
    · rw [if_pos c2, if_pos (h2.2 c2)]
    · rw [if_neg c2, if_neg (fun h => c2 (h2.1 h))]
theorem rCmpV (C : Nat) (n1 n2 : Bool) (z1 m1 z2 m2 bd : Nat) (E1 E2 : Int) (w : World) (h1 : NumAt w z1 m1 bd) (h2 : NumAt w z2 m2 bd) (hb : bd ≤ 20000) (e1 : -(C : Int) ≤ E1) (e2 : -(C : Int) ≤ E2) (f1 : E1 ≤ 50000) (f2 : E2 ≤ 50000) (hC : C ≤ 50000) :
    Calls Tryd.prog 17 #[.agg #[.int .i64 0, .bool n1, .pointer (some ⟨z1, 0, none⟩), .int .i64 E1], .agg #[.int .i64 0, .bool n2, .pointer (some ⟨z2, 0, none⟩), .int .i64 E2]] w fun r w' => r = .returned (.int .i64 (cmpZ (numV C n1 m1 E1) (numV C n2 m2 E2))) ∧ Below w.heap.size w w' := by
  have h := rCmp_any n1 n2 z1 m1 z2 m2 (E1 - min E1 E2).toNat (E2 - min E1 E2).toNat bd E1 E2 (min E1 E2) w h1 h2 hb rfl (by omega) (by omega) (by omega) (by omega)
  have g1 : (E1 + (C : Int)).toNat = (E1 - min E1 E2).toNat + (min E1 E2 + (C : Int)).toNat := by omega
  have g2 : (E2 + (C : Int)).toNat = (E2 - min E1 E2).toNat + (min E1 E2 + (C : Int)).toNat := by omega
  unfold numV
  rw [g1, g2, sgnM_split, sgnM_split, cmpZ_scale _ _ _ (Nat.two_pow_pos _)]
  exact h
def sumT (n1 : Bool) (m1 : Nat) (E1 : Int) (n2 : Bool) (m2 : Nat) (E2 : Int) : Int := sgnM n1 m1 (E1 - min E1 E2).toNat + sgnM n2 m2 (E2 - min E1 E2).toNat
theorem rSumV (n1 n2 : Bool) (z1 m1 z2 m2 bd : Nat) (E1 E2 : Int) (w : World) (h1 : NumAt w z1 m1 bd) (h2 : NumAt w z2 m2 bd) (hb : bd ≤ 1000) (e1 : -50000 ≤ E1) (e2 : -50000 ≤ E2) (f1 : E1 ≤ 50000) (f2 : E2 ≤ 50000) :
    Calls Tryd.prog 18 #[.agg #[.int .i64 0, .bool n1, .pointer (some ⟨z1, 0, none⟩), .int .i64 E1], .agg #[.int .i64 0, .bool n2, .pointer (some ⟨z2, 0, none⟩), .int .i64 E2]] w fun r w' => ∃ q, r = .returned (.agg #[.int .i64 0, .bool (decide (sumT n1 m1 E1 n2 m2 E2 < 0)), .pointer (some ⟨q, 0, none⟩), .int .i64 (min E1 E2)]) ∧ NumAt w' q ((sumT n1 m1 E1 n2 m2 E2).natAbs : Int) 8000 ∧ Below w.heap.size w w' :=
  rSum_any n1 n2 z1 m1 z2 m2 (E1 - min E1 E2).toNat (E2 - min E1 E2).toNat bd E1 E2 (min E1 E2) w h1 h2 hb rfl (by omega) (by omega) (by omega) (by omega)
theorem sumT_val (C : Nat) (n1 n2 : Bool) (m1 m2 : Nat) (E1 E2 : Int) (e1 : -(C : Int) ≤ E1) (e2 : -(C : Int) ≤ E2) : numV C (decide (sumT n1 m1 E1 n2 m2 E2 < 0)) (sumT n1 m1 E1 n2 m2 E2).natAbs (min E1 E2) = numV C n1 m1 E1 + numV C n2 m2 E2 := by
  have g1 : (E1 + (C : Int)).toNat = (E1 - min E1 E2).toNat + (min E1 E2 + (C : Int)).toNat := by omega
  have g2 : (E2 + (C : Int)).toNat = (E2 - min E1 E2).toNat + (min E1 E2 + (C : Int)).toNat := by omega
  unfold numV sumT
  rw [g1, g2, sgnM_split, sgnM_split, ← Int.add_mul]
  generalize sgnM n1 m1 (E1 - min E1 E2).toNat + sgnM n2 m2 (E2 - min E1 E2).toNat = T
  unfold sgnM
  rw [Int.natCast_pow]
  by_cases c : T < 0
  · rw [if_pos (by simpa using c), ← Int.neg_mul, show -(T.natAbs : Int) = T by omega]
    rfl
  · rw [if_neg (by simpa using c), show (T.natAbs : Int) = T by omega]
    rfl
theorem blk_al {W : World} {p : Nat} {v : Obj} (h : W.heap[p]? = some v) (o : Obj) : (W.alloc o).heap[p]? = some v := by
  have hp : p < W.heap.size := (Array.getElem?_eq_some_iff.1 h).1
  rw [(al_below W o).block p hp]
  exact h
theorem blk_be {W W' : World} {p : Nat} {v : Obj} (h : W.heap[p]? = some v) (hb : Hid (Below W.heap.size W W')) : W'.heap[p]? = some v := by
  have hp : p < W.heap.size := (Array.getElem?_eq_some_iff.1 h).1
  rw [hb.out.block p hp]
  exact h
theorem blk_lt {W : World} {p : Nat} {v : Obj} (h : W.heap[p]? = some v) : p < W.heap.size := (Array.getElem?_eq_some_iff.1 h).1
theorem blk_dr {W : World} {p : Nat} {v : Obj} (h : W.heap[p]? = some v) : W.drew.heap[p]? = some v := h
theorem blk_new (W : World) (o : Obj) (p : Nat) (hp : p = W.heap.size) : (W.alloc o).heap[p]? = some o := newblk W o p hp
theorem blk_set {W : World} {p q : Nat} {v : Obj} (h : W.heap[p]? = some v) (hne : p ≠ q) (o : Nat) (x : Value) : (W.setCell ⟨q, o, none⟩ x).heap[p]? = some v := by
  rw [← h]
  exact (Upd.setr (Upd.refl q q W) o x).block p (Array.getElem?_eq_some_iff.1 h).1 hne hne
theorem tVal32 (x : Nat) (_hf : x % 2147483648 < 2139095040) : tM32 x * 2 ^ (tE32 x + ((149 : Nat) : Int)).toNat = nv32 (x % 2147483648) := by
  unfold tM32 tE32 nv32
  by_cases h : x / 8388608 % 256 = 0
  · rw [if_pos h, if_pos h, if_pos (by omega), show ((-149 : Int) + ((149 : Nat) : Int)).toNat = 0 by omega, Nat.pow_zero, Nat.mul_one]
    omega
  · have e1 : (((x / 8388608 % 256 : Nat) : Int) - 150 + ((149 : Nat) : Int)).toNat = x % 2147483648 / 8388608 - 1 := by omega
    have e2 : x % 8388608 + 8388608 = 8388608 + x % 2147483648 % 8388608 := by omega
    rw [if_neg h, if_neg h, if_neg (by omega), e1, e2]
theorem numV_32 (x : Nat) (hf : x % 2147483648 < 2139095040) : numV 149 (decide (2147483648 ≤ x)) (tM32 x) (tE32 x) = sv32 x := by
  unfold numV sgnM sv32
  rw [← tVal32 x hf]
  simp only [decide_eq_true_eq, Int.natCast_mul, Int.natCast_pow]
  rfl
end Go.Proofs.YtpgcelbgmpfliaaDoor
