
/- What dyad's added does. -/
import Derived.Test.YtphdinjmkhefmaaGreatDoorP30
namespace Go.Proofs.YtphdinjmkhefmaaGreatDoor
open Go.RowKit Go.IntWalk

theorem mag_ne3 {w : World} {z : Nat} {x : Bool} {a a' : Option Addr} {n c : Nat} {e : Int} {T : TypeId} {L : List Nat} (h : w.heap[z]? = some (.cells #[.bool x, .slice a' n c, .int .i64 e] T)) (hm : MagAt w a L) : ∀ b off, a = some ⟨b, off, none⟩ → L.length ≠ 0 → b ≠ z := by
  intro b off ha h0 hz
  obtain ⟨b', off', e1, _, hc⟩ := hm 0 (by omega)
  rw [ha] at e1
  cases e1
  subst hz
  rw [Nat.add_zero] at hc
  simp only [World.cell?, h] at hc
  rcases (show off = 0 ∨ off = 1 ∨ off = 2 ∨ 3 ≤ off by omega) with rfl | rfl | rfl | h3
  · simp at hc
  · simp at hc
  · simp at hc
  · rw [Array.getElem?_eq_none (by simpa using h3)] at hc
    simp at hc
/-- written, while an answer is made. -/
theorem written_res (z : Nat) (w W1 W : World) (neg : Bool) (v bd : Nat) (LS : List Nat) (a : Option Addr) (cap : Nat) (e : Int) (hW : Res z W1 W) (h1 : Below w.heap.size w W1) (hz1 : w.heap.size ≤ z) (hT : Tab32 w) (hs : 1 < w.heap.size) (hM : MagIs v bd LS a cap W) (hbd : bd ≤ 2048) (he1 : -100000 ≤ e) (he2 : e + 32 * bd ≤ 99900) :
    Calls Tryz.prog 32 #[.bool neg, .slice a LS.length cap, .int .i64 e] W fun r w' => ∃ neg' a' n' cap' e' v0 v1 v2, r = .returned (.tuple #[.agg #[.bool neg', .slice a' n' cap', .int .i64 e'], .int .i64 0]) ∧ Hid (DyRet (sgnN neg v) e (z + 1) neg' a' n' cap' e' w') ∧ Hid (Res z W1 w') ∧ (∀ o, w'.frozen? ⟨z, o, none⟩ = false) ∧ w'.cell? ⟨z, 0, none⟩ = some v0 ∧ w'.cell? ⟨z, 1, none⟩ = some v1 ∧ w'.cell? ⟨z, 2, none⟩ = some v2 := by
  obtain ⟨m1, m2, m3, m4, m5, m6⟩ := hM
  have hbW : Below w.heap.size w W := h1.trans (hW.but.below h1.size hz1)
  have hzW := hW.facts.2.1
  have e1 : intL neg LS = sgnN neg v := by unfold intL sgnN; rw [m6]
  have := written_any neg LS a cap e W m3 m4 m5 m1 (by omega) he1 (by omega) (hT.below hs hbW) (Nat.lt_of_lt_of_le hs hbW.size)
  rw [e1] at this
  refine this.mono ?_
  rintro r w' ⟨ho, hb⟩
  obtain ⟨neg', a', n', cap', e', rfl, hr⟩ := ho.ret
  have hres := hW.call hb
  obtain ⟨f1, _, v0, v1, v2, f2, f3, f4⟩ := hres.facts
  exact ⟨neg', a', n', cap', e', v0, v1, v2, rfl, DyOut.but hr (But.refl z _) (by omega) (by omega), hres, f1, f2, f3, f4⟩
theorem MagIs.but {v bd : Nat} {L : List Nat} {a : Option Addr} {cap z : Nat} {W W' : World} (h : MagIs v bd L a cap W) (hb : But z W W') (hz : ∀ b off, a = some ⟨b, off, none⟩ → L.length ≠ 0 → b ≠ z) : MagIs v bd L a cap W' := ⟨h.1, h.2.1, h.2.2.1.but hb hz, h.2.2.2⟩
/-- The answer's end. -/
theorem res_end {z : Nat} {w W1 w3 : World} {Z e e' : Int} {neg : Bool} {a : Option Addr} {n cap : Nat} (h1 : Below w.heap.size w W1) (hz1 : w.heap.size ≤ z) (hr : Hid (DyRet Z e (z + 1) neg a n cap e' w3)) (hf : Hid (Res z W1 w3)) : DyOut Z e w.heap.size (.returned (.tuple #[.agg #[.bool neg, .slice a n cap, .int .i64 e'], .int .i64 0])) (((w3.setCell ⟨z, 0, none⟩ (.bool neg)).setCell ⟨z, 1, none⟩ (.slice a n cap)).setCell ⟨z, 2, none⟩ (.int .i64 e')) ∧ Below w.heap.size w (((w3.setCell ⟨z, 0, none⟩ (.bool neg)).setCell ⟨z, 1, none⟩ (.slice a n cap)).setCell ⟨z, 2, none⟩ (.int .i64 e')) :=
  ⟨DyOut.but hr.out (But.setCell (But.setCell (But.setCell (But.refl _ _) 0 _) 1 _) 2 _) (Nat.lt_succ_self _) (by omega), h1.trans ((res_store hf _ _ _).out.but.below h1.size hz1)⟩
theorem sgn_add (n : Bool) (a b : Nat) : sgnN n (a + b) = sgnN n a + sgnN n b := by unfold sgnN; cases n <;> simp <;> omega
theorem sgn_sub (n : Bool) (a b : Nat) (h : b ≤ a) : sgnN n (a - b) = sgnN n a + sgnN (!n) b := by unfold sgnN; cases n <;> simp <;> omega
theorem sgn_mul (n : Bool) (L : List Nat) (i : Nat) : sgnN n (natL L * 2 ^ i) = intL n L * 2 ^ i := by
  unfold sgnN intL
  cases n
  · rw [if_neg (by decide), if_neg (by decide), Int.natCast_mul, Int.natCast_pow]; rfl
  · rw [if_pos rfl, if_pos rfl, Int.natCast_mul, Int.natCast_pow, Int.neg_mul]; rfl
/-- The two numbers and the answer's place. -/
def AdW (w : World) (n1 n2 : Bool) (a1 a2 : Option Addr) (l1 l2 c1 c2 : Nat) (e1 e2 : Int) : World := (AlW w n1 n2 a1 a2 l1 l2 c1 c2 e1 e2).alloc (DyBox false none 0 0 0)
theorem AdW.facts (w : World) (n1 n2 : Bool) (a1 a2 : Option Addr) (l1 l2 c1 c2 : Nat) (e1 e2 : Int) : (AdW w n1 n2 a1 a2 l1 l2 c1 c2 e1 e2).heap.size = w.heap.size + 3 ∧ Below w.heap.size w (AdW w n1 n2 a1 a2 l1 l2 c1 c2 e1 e2) ∧ (AdW w n1 n2 a1 a2 l1 l2 c1 c2 e1 e2).heap[w.heap.size]? = some (DyBox n1 a1 l1 c1 e1) ∧ (AdW w n1 n2 a1 a2 l1 l2 c1 c2 e1 e2).heap[w.heap.size + 1]? = some (DyBox n2 a2 l2 c2 e2) ∧ (AdW w n1 n2 a1 a2 l1 l2 c1 c2 e1 e2).heap[w.heap.size + 2]? = some (DyBox false none 0 0 0) := by
  obtain ⟨p, q⟩ := AlW.cells w n1 n2 a1 a2 l1 l2 c1 c2 e1 e2
  have hs := AlW.size w n1 n2 a1 a2 l1 l2 c1 c2 e1 e2
  have hb := (Below.refl _ (AlW w n1 n2 a1 a2 l1 l2 c1 c2 e1 e2)).alloc (Nat.le_refl _) (DyBox false none 0 0 0)
  unfold AdW
  refine ⟨by simp [hs], (AlW.below w n1 n2 a1 a2 l1 l2 c1 c2 e1 e2).alloc (by rw [hs]; omega) _, ?_, ?_, new_blk _ _ _ hs.symm⟩
  · rw [hb.block _ (by rw [hs]; omega)]; exact p
  · rw [hb.block _ (by rw [hs]; omega)]; exact q
set_option maxRecDepth 4000 in
set_option maxHeartbeats 4000000 in
theorem added_any (n1 n2 : Bool) (L1 L2 : List Nat) (a1 a2 : Option Addr) (c1 c2 i j bd : Nat) (e1 e2 m : Int) (w : World) (h1 : MagAt w a1 L1) (h2 : MagAt w a2 L2) (d1 : DigL L1) (d2 : DigL L2) (hl1 : L1.length + i / 32 + 1 ≤ bd) (hl2 : L2.length + j / 32 + 1 ≤ bd) (hbd : bd ≤ 2000) (hm : min e1 e2 = m) (hi : e1 - m = (i : Int)) (hj : e2 - m = (j : Int)) (hm1 : -100000 ≤ m) (hm2 : m + 32 * (bd + 1) ≤ 99900) (hT : Tab32 w) (hs : 1 < w.heap.size) :
    Calls Tryz.prog 48 #[.agg #[.bool n1, .slice a1 L1.length c1, .int .i64 e1], .agg #[.bool n2, .slice a2 L2.length c2, .int .i64 e2]] w fun r w' => DyOut (intL n1 L1 * 2 ^ i + intL n2 L2 * 2 ^ j) m w.heap.size r w' ∧ Below w.heap.size w w' := by
  have hdone : L1.length ≤ 3000 := by omega
  have HAL : Hid (∀ W, Below w.heap.size w W → Calls Tryz.prog 75 #[.agg #[.bool n1, .slice a1 L1.length c1, .int .i64 e1], .agg #[.bool n2, .slice a2 L2.length c2, .int .i64 e2]] W fun r w' => ∃ X Y ax ay cx cy, r = .returned (.tuple #[.slice ax X cx, .slice ay Y cy, .int .i64 m]) ∧ Hid (∃ LX LY, LX.length = X ∧ LY.length = Y ∧ MagIs (natL L1 * 2 ^ i) bd LX ax cx w' ∧ MagIs (natL L2 * 2 ^ j) bd LY ay cy w') ∧ Below W.heap.size W w') := fun W hW => by
    refine (aligned_any n1 n2 L1 L2 a1 a2 c1 c2 i j e1 e2 m W (h1.below hW) (h2.below hW) d1 d2 (by omega) (by omega) hm hi hj (by omega) (by omega)).mono ?_
    rintro r w' ⟨X, Y, ax, ay, cx, cy, rfl, hX, hY, hb⟩
    exact ⟨X.length, Y.length, ax, ay, cx, cy, rfl, ⟨X, Y, rfl, rfl, ⟨hX.1, by have := hX.2.1; omega, hX.2.2⟩, ⟨hY.1, by have := hY.2.1; omega, hY.2.2⟩⟩, hb⟩
  rw [← sgn_mul, ← sgn_mul]
  obtain ⟨A, hA⟩ : ∃ A, Hid (natL L1 * 2 ^ i = A) := ⟨_, rfl⟩
  obtain ⟨B, hB⟩ : ∃ B, Hid (natL L2 * 2 ^ j = B) := ⟨_, rfl⟩
  obtain ⟨l1, hl1'⟩ : ∃ l1, Hid (L1.length = l1) := ⟨_, rfl⟩
  obtain ⟨l2, hl2'⟩ : ∃ l2, Hid (L2.length = l2) := ⟨_, rfl⟩
  rw [hA.out, hB.out, hl1'.out, hl2'.out] at HAL
  rw [hA.out, hB.out, hl1'.out, hl2'.out]
  obtain ⟨f1, f2, f3, f4, f5⟩ := AdW.facts w n1 n2 a1 a2 l1 l2 c1 c2 e1 e2
  have HAL2 := hid (HAL.out _ f2)
  obtain ⟨W0, hW0⟩ : ∃ W0, Hid (AdW w n1 n2 a1 a2 l1 l2 c1 c2 e1 e2 = W0) := ⟨_, rfl⟩
  have hW0' : AdW w n1 n2 a1 a2 l1 l2 c1 c2 e1 e2 = W0 := hW0.out
  rw [hW0'] at HAL2 f1 f2 f3 f4 f5
  unfold AdW AlW DyBox at hW0'
  have HF := hid (And.intro f1 (And.intro f2 (And.intro f3 (And.intro f4 f5))))
  have hc1 := dcells_of f3
  have hc2 := dcells_of f4
  unfold DCells at hc1 hc2
  obtain ⟨p10, p11, p12⟩ := hc1
  obtain ⟨p20, p21, p22⟩ := hc2
  have HT := hid hT
  have HS := hid hs
  have HBD := hid hbd
  have HM1 := hid hm1
  have HM2 := hid hm2
  clear h1 h2 d1 d2 hl1 hl2 hm hi hj hdone f1 f2 f3 f4 f5 HAL hT hs hbd hm1 hm2
  go_enter Tryz.func48, Tryz.ntmps48
  go_wp2_with fail
  refine HAL2.out.mono ?_
  rintro r w1 ⟨X, Y, ax, ay, cx, cy, rfl, HXY, hb1⟩
  obtain ⟨g1, g2, g3, g4, g5⟩ := HF.out
  have hbs := hb1.size
  rw [g1] at hbs
  have q10 : w1.cell? ⟨w.heap.size, 0, none⟩ = some (.bool n1) := by rw [hb1.cell (p := ⟨w.heap.size, 0, none⟩) (by rw [g1]; simp)]; exact p10
  have q20 : w1.cell? ⟨w.heap.size + 1, 0, none⟩ = some (.bool n2) := by rw [hb1.cell (p := ⟨w.heap.size + 1, 0, none⟩) (by rw [g1]; simp)]; exact p20
  have hzc : w1.heap[w.heap.size + 1 + 1]? = some (DyBox false none 0 0 0) := by rw [hb1.block _ (by rw [g1]; omega)]; exact g5
  have HR1 : Hid (Res (w.heap.size + 1 + 1) w1 w1) := ⟨But.refl _ _, _, _, _, hzc⟩
  have HBW : Hid (Below w.heap.size w w1) := g2.trans (hb1.mono (by rw [g1]; omega))
  have HNE : Hid (∀ W, Hid (Res (w.heap.size + 1 + 1) w1 W) → ∃ LX LY, LX.length = X ∧ LY.length = Y ∧ MagIs A bd LX ax cx W ∧ MagIs B bd LY ay cy W) := fun W hW => by
    obtain ⟨LX, LY, x1, y1, hX, hY⟩ := HXY.out
    exact ⟨LX, LY, x1, y1, hX.but hW.out.but (mag_ne3 hzc hX.2.2.1), hY.but hW.out.but (mag_ne3 hzc hY.2.2.1)⟩
  have hbds : w.heap.size + 3 ≤ w1.heap.size := hbs
  clear hb1 g1 g2 g3 g4 g5 hbs p10 p11 p12 p20 p21 p22 hW0 hW0'
  by_cases hnn : n1 = n2
  · subst hnn
    have hbe : (n1 == n1) = true := by simp
    have HOP : Hid (∀ W, Hid (Res (w.heap.size + 1 + 1) w1 W) → Calls Tryz.prog 76 #[.slice ax X cx, .slice ay Y cy] W fun r w' => ∃ n a cap, r = .returned (.slice a n cap) ∧ Hid (∃ LS, LS.length = n ∧ MagIs (A + B) (bd + 1) LS a cap w') ∧ Hid (Res (w.heap.size + 1 + 1) w1 w')) := fun W hW => by
      obtain ⟨LX, LY, rfl, rfl, hX, hY⟩ := HNE.out W hW
      have hx := hX.2.1
      have hy := hY.2.1
      refine (dplus_any LX LY ax ay cx cy W hX.2.2.1 hY.2.2.1 hX.2.2.2.1 hY.2.2.2.1 (by have := HBD.out; omega) (by have := HBD.out; omega)).mono ?_
      rintro r w' ⟨⟨LS, a, cap, rfl, s1, s2, s3, s4, s5, s6⟩, hb⟩
      exact ⟨LS.length, a, cap, rfl, ⟨LS, rfl, s1, by omega, s3, s4, s5, by rw [s6, hX.2.2.2.2.2, hY.2.2.2.2.2]⟩, hW.out.call hb⟩
    have HWR : Hid (∀ W n a cap, Hid (Res (w.heap.size + 1 + 1) w1 W) → Hid (∃ LS, LS.length = n ∧ MagIs (A + B) (bd + 1) LS a cap W) → Calls Tryz.prog 32 #[.bool n1, .slice a n cap, .int .i64 m] W fun r w' => ∃ neg' a' n' cap' e' v0 v1 v2, r = .returned (.tuple #[.agg #[.bool neg', .slice a' n' cap', .int .i64 e'], .int .i64 0]) ∧ Hid (DyRet (sgnN n1 (A + B)) m (w.heap.size + 1 + 1 + 1) neg' a' n' cap' e' w') ∧ Hid (Res (w.heap.size + 1 + 1) w1 w') ∧ (∀ o, w'.frozen? ⟨w.heap.size + 1 + 1, o, none⟩ = false) ∧ w'.cell? ⟨w.heap.size + 1 + 1, 0, none⟩ = some v0 ∧ w'.cell? ⟨w.heap.size + 1 + 1, 1, none⟩ = some v1 ∧ w'.cell? ⟨w.heap.size + 1 + 1, 2, none⟩ = some v2) := fun W n a cap hW hM => by
      obtain ⟨LS, rfl, hM'⟩ := hM.out
      exact written_res (w.heap.size + 1 + 1) w w1 W n1 (A + B) (bd + 1) LS a cap m hW.out HBW.out (by omega) HT.out HS.out hM' (by have := HBD.out; omega) HM1.out (by have := HM2.out; omega)
    have HQ0 := res_dr HR1
    have HK : Hid (∀ W, Hid (Res (w.heap.size + 1 + 1) w1 W) → W.cell? ⟨w.heap.size, 0, none⟩ = some (.bool n1) ∧ Hid (Res (w.heap.size + 1 + 1) w1 W)) := fun W hW => ⟨hW.out.but.cell q10 (by omega), hW⟩
    clear HAL2 HF HXY
    go_wp2_with fail
    go_region_held3 (fun W => W.cell? ⟨w.heap.size, 0, none⟩ = some (.bool n1) ∧ Hid (Res (w.heap.size + 1 + 1) w1 W))
      ((refine HK.out _ ?_; first | assumption | exact HQ0 | exact res_dr (by assumption) | exact res_store (by assumption) _ _ _ | exact res_dr (res_store (by assumption) _ _ _)))
      (first
        | (go_at_call 76; with_reducible refine (HOP.out _ (And.right (by assumption))).mono ?_; rintro r w2 ⟨n', a', cap', rfl, HM2, HF2⟩)
        | (go_at_call 32; with_reducible refine (HWR.out _ _ _ _ (And.right (by assumption)) (by assumption)).mono ?_; rintro r w3 ⟨neg', b', k', d', x', v0, v1, v2, rfl, HRT, HF3, fz, c0, c1', c2'⟩))
    all_goals go_wp2
    all_goals
      have hend := res_end HBW.out (by omega) HRT HF3
      rw [sgn_add] at hend
      exact bodyPost_ret (v := .tuple #[.agg #[.bool neg', .slice b' k' d', .int .i64 x'], .int .i64 0]) (by simp [results, Tryz.results48, go_sem, c0, c1', c2']) rfl hend
  · have hn2 : n2 = !n1 := by cases n1 <;> cases n2 <;> simp_all
    have hbe : (n1 == n2) = false := by simpa using hnn
    have HCM : Hid (Calls Tryz.prog 31 #[.slice ax X cx, .slice ay Y cy] w1 fun r w' => r = .returned (.int .i64 (cmpI A B)) ∧ Below w1.heap.size w1 w') := by
      obtain ⟨LX, LY, rfl, rfl, hX, hY⟩ := HXY.out
      have hx := hX.2.1
      have hy := hY.2.1
      have := dcompare_any LX LY ax ay cx cy w1 hX.2.2.1 hY.2.2.1 hX.2.2.2.1 hY.2.2.2.1 hX.2.2.2.2.1 hY.2.2.2.2.1 (by have := HBD.out; omega) (by have := HBD.out; omega)
      rw [hX.2.2.2.2.2, hY.2.2.2.2.2] at this
      exact this
    by_cases hlt : A < B
    · rw [cmpI_lt hlt] at HCM
      have HAB := hid (Nat.le_of_lt hlt)
      have HEQ := hid (show sgnN n2 (B - A) = sgnN n1 A + sgnN n2 B by rw [sgn_sub n2 B A (by omega), hn2, Bool.not_not]; omega)
      clear HAL2 HF hlt hn2 HXY
      go_wp2_with fail
      refine HCM.out.mono ?_
      rintro r w2' ⟨rfl, hb2⟩
      have HR2 : Hid (Res (w.heap.size + 1 + 1) w1 w2') := HR1.out.call hb2
      have q10' : w2'.cell? ⟨w.heap.size, 0, none⟩ = some (.bool n1) := HR2.out.but.cell q10 (by omega)
      have q20' : w2'.cell? ⟨w.heap.size + 1, 0, none⟩ = some (.bool n2) := HR2.out.but.cell q20 (by omega)
      clear hb2
      have HOP : Hid (∀ W, Hid (Res (w.heap.size + 1 + 1) w1 W) → Calls Tryz.prog 33 #[.slice ay Y cy, .slice ax X cx] W fun r w' => ∃ n a cap, r = .returned (.slice a n cap) ∧ Hid (∃ LS, LS.length = n ∧ MagIs (B - A) (bd + 1) LS a cap w') ∧ Hid (Res (w.heap.size + 1 + 1) w1 w')) := fun W hW => by
        obtain ⟨LX, LY, rfl, rfl, hX, hY⟩ := HNE.out W hW
        have hx := hX.2.1
        have hy := hY.2.1
        have hle : natL LX ≤ natL LY := by rw [hX.2.2.2.2.2, hY.2.2.2.2.2]; exact HAB.out
        have hll : LX.length ≤ LY.length := by
          apply Classical.byContradiction
          intro hc
          have := natL_shorter LY LX hY.2.2.2.1 hX.2.2.2.2.1 (by omega)
          omega
        refine (dminus_any LY LX ay ax cy cx W hY.2.2.1 hX.2.2.1 hY.2.2.2.1 hX.2.2.2.1 hll (by have := HBD.out; omega) hle).mono ?_
        rintro r w' ⟨⟨LS, a, cap, rfl, s1, s2, s3, s4, s5, s6⟩, hb⟩
        exact ⟨LS.length, a, cap, rfl, ⟨LS, rfl, s1, by omega, s3, s4, s5, by rw [s6, hX.2.2.2.2.2, hY.2.2.2.2.2]⟩, hW.out.call hb⟩
      have HWR : Hid (∀ W n a cap, Hid (Res (w.heap.size + 1 + 1) w1 W) → Hid (∃ LS, LS.length = n ∧ MagIs (B - A) (bd + 1) LS a cap W) → Calls Tryz.prog 32 #[.bool n2, .slice a n cap, .int .i64 m] W fun r w' => ∃ neg' a' n' cap' e' v0 v1 v2, r = .returned (.tuple #[.agg #[.bool neg', .slice a' n' cap', .int .i64 e'], .int .i64 0]) ∧ Hid (DyRet (sgnN n2 (B - A)) m (w.heap.size + 1 + 1 + 1) neg' a' n' cap' e' w') ∧ Hid (Res (w.heap.size + 1 + 1) w1 w') ∧ (∀ o, w'.frozen? ⟨w.heap.size + 1 + 1, o, none⟩ = false) ∧ w'.cell? ⟨w.heap.size + 1 + 1, 0, none⟩ = some v0 ∧ w'.cell? ⟨w.heap.size + 1 + 1, 1, none⟩ = some v1 ∧ w'.cell? ⟨w.heap.size + 1 + 1, 2, none⟩ = some v2) := fun W n a cap hW hM => by
        obtain ⟨LS, rfl, hM'⟩ := hM.out
        exact written_res (w.heap.size + 1 + 1) w w1 W n2 (B - A) (bd + 1) LS a cap m hW.out HBW.out (by omega) HT.out HS.out hM' (by have := HBD.out; omega) HM1.out (by have := HM2.out; omega)
      have HQ0 := res_dr HR2
      have HK : Hid (∀ W, Hid (Res (w.heap.size + 1 + 1) w1 W) → W.cell? ⟨w.heap.size + 1, 0, none⟩ = some (.bool n2) ∧ Hid (Res (w.heap.size + 1 + 1) w1 W)) := fun W hW => ⟨hW.out.but.cell q20 (by omega), hW⟩
      go_wp2_with fail
      go_region_held3 (fun W => W.cell? ⟨w.heap.size + 1, 0, none⟩ = some (.bool n2) ∧ Hid (Res (w.heap.size + 1 + 1) w1 W))
        ((refine HK.out _ ?_; first | assumption | exact HQ0 | exact res_dr (by assumption) | exact res_store (by assumption) _ _ _ | exact res_dr (res_store (by assumption) _ _ _)))
        (first
          | (go_at_call 33; with_reducible refine (HOP.out _ (And.right (by assumption))).mono ?_; rintro r w2 ⟨n', a', cap', rfl, HM2, HF2⟩)
          | (go_at_call 32; with_reducible refine (HWR.out _ _ _ _ (And.right (by assumption)) (by assumption)).mono ?_; rintro r w3 ⟨neg', b', k', d', x', v0, v1, v2, rfl, HRT, HF3, fz, c0, c1', c2'⟩))
      all_goals go_wp2
      all_goals
        have hend := res_end HBW.out (by omega) HRT HF3
        rw [HEQ.out] at hend
        exact bodyPost_ret (v := .tuple #[.agg #[.bool neg', .slice b' k' d', .int .i64 x'], .int .i64 0]) (by simp [results, Tryz.results48, go_sem, c0, c1', c2']) rfl hend
    · have HCI : Hid (∃ c : Int, cmpI A B = c ∧ ¬ c < 0) := by
        refine ⟨_, rfl, ?_⟩
        unfold cmpI
        rw [if_neg hlt]
        split <;> omega
      obtain ⟨c, hc, hc0⟩ := HCI.out
      rw [hc] at HCM
      have HAB := hid (Nat.le_of_not_lt hlt)
      have HEQ := hid (show sgnN n1 (A - B) = sgnN n1 A + sgnN n2 B by rw [sgn_sub n1 A B (by omega), hn2])
      clear HAL2 HF hlt hn2 HXY HCI hc
      go_wp2_with fail
      refine HCM.out.mono ?_
      rintro r w2' ⟨rfl, hb2⟩
      have HR2 : Hid (Res (w.heap.size + 1 + 1) w1 w2') := HR1.out.call hb2
      have q10' : w2'.cell? ⟨w.heap.size, 0, none⟩ = some (.bool n1) := HR2.out.but.cell q10 (by omega)
      have q20' : w2'.cell? ⟨w.heap.size + 1, 0, none⟩ = some (.bool n2) := HR2.out.but.cell q20 (by omega)
      clear hb2
      have HOP : Hid (∀ W, Hid (Res (w.heap.size + 1 + 1) w1 W) → Calls Tryz.prog 33 #[.slice ax X cx, .slice ay Y cy] W fun r w' => ∃ n a cap, r = .returned (.slice a n cap) ∧ Hid (∃ LS, LS.length = n ∧ MagIs (A - B) (bd + 1) LS a cap w') ∧ Hid (Res (w.heap.size + 1 + 1) w1 w')) := fun W hW => by
        obtain ⟨LX, LY, rfl, rfl, hX, hY⟩ := HNE.out W hW
        have hx := hX.2.1
        have hy := hY.2.1
        have hle : natL LY ≤ natL LX := by rw [hX.2.2.2.2.2, hY.2.2.2.2.2]; exact HAB.out
        have hll : LY.length ≤ LX.length := by
          apply Classical.byContradiction
          intro hc
          have := natL_shorter LX LY hX.2.2.2.1 hY.2.2.2.2.1 (by omega)
          omega
        refine (dminus_any LX LY ax ay cx cy W hX.2.2.1 hY.2.2.1 hX.2.2.2.1 hY.2.2.2.1 hll (by have := HBD.out; omega) hle).mono ?_
        rintro r w' ⟨⟨LS, a, cap, rfl, s1, s2, s3, s4, s5, s6⟩, hb⟩
        exact ⟨LS.length, a, cap, rfl, ⟨LS, rfl, s1, by omega, s3, s4, s5, by rw [s6, hX.2.2.2.2.2, hY.2.2.2.2.2]⟩, hW.out.call hb⟩
      have HWR : Hid (∀ W n a cap, Hid (Res (w.heap.size + 1 + 1) w1 W) → Hid (∃ LS, LS.length = n ∧ MagIs (A - B) (bd + 1) LS a cap W) → Calls Tryz.prog 32 #[.bool n1, .slice a n cap, .int .i64 m] W fun r w' => ∃ neg' a' n' cap' e' v0 v1 v2, r = .returned (.tuple #[.agg #[.bool neg', .slice a' n' cap', .int .i64 e'], .int .i64 0]) ∧ Hid (DyRet (sgnN n1 (A - B)) m (w.heap.size + 1 + 1 + 1) neg' a' n' cap' e' w') ∧ Hid (Res (w.heap.size + 1 + 1) w1 w') ∧ (∀ o, w'.frozen? ⟨w.heap.size + 1 + 1, o, none⟩ = false) ∧ w'.cell? ⟨w.heap.size + 1 + 1, 0, none⟩ = some v0 ∧ w'.cell? ⟨w.heap.size + 1 + 1, 1, none⟩ = some v1 ∧ w'.cell? ⟨w.heap.size + 1 + 1, 2, none⟩ = some v2) := fun W n a cap hW hM => by
        obtain ⟨LS, rfl, hM'⟩ := hM.out
        exact written_res (w.heap.size + 1 + 1) w w1 W n1 (A - B) (bd + 1) LS a cap m hW.out HBW.out (by omega) HT.out HS.out hM' (by have := HBD.out; omega) HM1.out (by have := HM2.out; omega)
      have HQ0 := res_dr HR2
      have HK : Hid (∀ W, Hid (Res (w.heap.size + 1 + 1) w1 W) → W.cell? ⟨w.heap.size, 0, none⟩ = some (.bool n1) ∧ Hid (Res (w.heap.size + 1 + 1) w1 W)) := fun W hW => ⟨hW.out.but.cell q10 (by omega), hW⟩
      go_wp2_with fail
      go_region_held3 (fun W => W.cell? ⟨w.heap.size, 0, none⟩ = some (.bool n1) ∧ Hid (Res (w.heap.size + 1 + 1) w1 W))
        ((refine HK.out _ ?_; first | assumption | exact HQ0 | exact res_dr (by assumption) | exact res_store (by assumption) _ _ _ | exact res_dr (res_store (by assumption) _ _ _)))
        (first
          | (go_at_call 33; with_reducible refine (HOP.out _ (And.right (by assumption))).mono ?_; rintro r w2 ⟨n', a', cap', rfl, HM2, HF2⟩)
          | (go_at_call 32; with_reducible refine (HWR.out _ _ _ _ (And.right (by assumption)) (by assumption)).mono ?_; rintro r w3 ⟨neg', b', k', d', x', v0, v1, v2, rfl, HRT, HF3, fz, c0, c1', c2'⟩))
      all_goals go_wp2
      all_goals
        have hend := res_end HBW.out (by omega) HRT HF3
        rw [HEQ.out] at hend
        exact bodyPost_ret (v := .tuple #[.agg #[.bool neg', .slice b' k' d', .int .i64 x'], .int .i64 0]) (by simp [results, Tryz.results48, go_sem, c0, c1', c2']) rfl hend
end Go.Proofs.YtphdinjmkhefmaaGreatDoor
