
/- What dyad's added does. -/
import Derived.Test.YtehnkgonhgjeiaaGreatDoorP26
namespace Go.Proofs.YtehnkgonhgjeiaaGreatDoor
open Go.RowKit Go.IntWalk

theorem mag_ne3 {w : World} {z : Nat} {x : Bool} {a a' : Option Addr} {n c : Nat} {e : Int} {T : TypeId} {L : List Nat} (h : w.heap[z]? = some (.cells #[.bool x, .slice a' n c, .int .i64 e] T)) (hm : MagAt w a L) : ∀ b off, a = some ⟨b, off, none⟩ → L.length ≠ 0 → b ≠ z := by
  intro b off ha h0 hz
  obtain ⟨b', off', e1, _, hc⟩ := hm 0 (by omega)
  rw [ha] at e1
  cases e1
  subst hz
  rw [Nat.add_zero] at hc
  simp only [World.cell?, h] at hc
  rcases (show off = 0 ∨ off = 1 ∨ off = 2 ∨ 3 ≤ off by omega) with rfl | rfl | rfl | h3
  · simp at hc
  · simp at hc
  · simp at hc
  · rw [Array.getElem?_eq_none (by simpa using h3)] at hc
    simp at hc
/-- written, while an answer is made. -/
theorem written_res (z : Nat) (w W1 W : World) (neg : Bool) (v bd : Nat) (LS : List Nat) (a : Option Addr) (cap : Nat) (e : Int) (hW : Res z W1 W) (h1 : Below w.heap.size w W1) (hz1 : w.heap.size ≤ z) (hT : Tab32 w) (hs : 2 < w.heap.size) (hM : MagIs v bd LS a cap W) (hbd : bd ≤ 2048) (he1 : -100000 ≤ e) (he2 : e + 32 * bd ≤ 99900) :
    Calls Tryz.prog 111 #[.bool neg, .slice a LS.length cap, .int .i64 e] W fun r w' => ∃ neg' a' n' cap' e' v0 v1 v2, r = .returned (.tuple #[.agg #[.bool neg', .slice a' n' cap', .int .i64 e'], .int .i64 0]) ∧ Hid (DyRet (sgnN neg v) e (z + 1) neg' a' n' cap' e' w') ∧ Hid (Res z W1 w') ∧ (∀ o, w'.frozen? ⟨z, o, none⟩ = false) ∧ w'.cell? ⟨z, 0, none⟩ = some v0 ∧ w'.cell? ⟨z, 1, none⟩ = some v1 ∧ w'.cell? ⟨z, 2, none⟩ = some v2 := by
  obtain ⟨m1, m2, m3, m4, m5, m6⟩ := hM
  have hbW : Below w.heap.size w W := h1.trans (hW.but.below h1.size hz1)
  have hzW := hW.facts.2.1
  have e1 : intL neg LS = sgnN neg v := by unfold intL sgnN; rw [m6]
  have := written_any neg LS a cap e W m3 m4 m5 m1 (by omega) he1 (by omega) (hT.below hs hbW) (Nat.lt_of_lt_of_le hs hbW.size)
  rw [e1] at this
  refine this.mono ?_
  rintro r w' ⟨ho, hb⟩
  obtain ⟨neg', a', n', cap', e', rfl, hr⟩ := ho.ret
  have hres := hW.call hb
  obtain ⟨f1, _, v0, v1, v2, f2, f3, f4⟩ := hres.facts
  exact ⟨neg', a', n', cap', e', v0, v1, v2, rfl, DyOut.but hr (But.refl z _) (by omega) (by omega), hres, f1, f2, f3, f4⟩
theorem MagIs.but {v bd : Nat} {L : List Nat} {a : Option Addr} {cap z : Nat} {W W' : World} (h : MagIs v bd L a cap W) (hb : But z W W') (hz : ∀ b off, a = some ⟨b, off, none⟩ → L.length ≠ 0 → b ≠ z) : MagIs v bd L a cap W' := ⟨h.1, h.2.1, h.2.2.1.but hb hz, h.2.2.2⟩
/-- The answer's end. -/
theorem res_end {z : Nat} {w W1 w3 : World} {Z e e' : Int} {neg : Bool} {a : Option Addr} {n cap : Nat} (h1 : Below w.heap.size w W1) (hz1 : w.heap.size ≤ z) (hr : Hid (DyRet Z e (z + 1) neg a n cap e' w3)) (hf : Hid (Res z W1 w3)) : DyOut Z e w.heap.size (.returned (.tuple #[.agg #[.bool neg, .slice a n cap, .int .i64 e'], .int .i64 0])) (((w3.setCell ⟨z, 0, none⟩ (.bool neg)).setCell ⟨z, 1, none⟩ (.slice a n cap)).setCell ⟨z, 2, none⟩ (.int .i64 e')) ∧ Below w.heap.size w (((w3.setCell ⟨z, 0, none⟩ (.bool neg)).setCell ⟨z, 1, none⟩ (.slice a n cap)).setCell ⟨z, 2, none⟩ (.int .i64 e')) :=
  ⟨DyOut.but hr.out (But.setCell (But.setCell (But.setCell (But.refl _ _) 0 _) 1 _) 2 _) (Nat.lt_succ_self _) (by omega), h1.trans ((res_store hf _ _ _).out.but.below h1.size hz1)⟩
theorem sgn_add (n : Bool) (a b : Nat) : sgnN n (a + b) = sgnN n a + sgnN n b := by unfold sgnN; cases n <;> simp <;> omega
theorem sgn_sub (n : Bool) (a b : Nat) (h : b ≤ a) : sgnN n (a - b) = sgnN n a + sgnN (!n) b := by unfold sgnN; cases n <;> simp <;> omega
theorem sgn_mul (n : Bool) (L : List Nat) (i : Nat) : sgnN n (natL L * 2 ^ i) = intL n L * 2 ^ i := by
  unfold sgnN intL
  cases n
  · rw [if_neg (by decide), if_neg (by decide), Int.natCast_mul, Int.natCast_pow]; rfl
  · rw [if_pos rfl, if_pos rfl, Int.natCast_mul, Int.natCast_pow, Int.neg_mul]; rfl
/-- The two numbers and the answer's place. -/
def AdW (w : World) (n1 n2 : Bool) (a1 a2 : Option Addr) (l1 l2 c1 c2 : Nat) (e1 e2 : Int) : World := (AlW w n1 n2 a1 a2 l1 l2 c1 c2 e1 e2).alloc (DyBox false none 0 0 0)
theorem AdW.facts (w : World) (n1 n2 : Bool) (a1 a2 : Option Addr) (l1 l2 c1 c2 : Nat) (e1 e2 : Int) : (AdW w n1 n2 a1 a2 l1 l2 c1 c2 e1 e2).heap.size = w.heap.size + 3 ∧ Below w.heap.size w (AdW w n1 n2 a1 a2 l1 l2 c1 c2 e1 e2) ∧ (AdW w n1 n2 a1 a2 l1 l2 c1 c2 e1 e2).heap[w.heap.size]? = some (DyBox n1 a1 l1 c1 e1) ∧ (AdW w n1 n2 a1 a2 l1 l2 c1 c2 e1 e2).heap[w.heap.size + 1]? = some (DyBox n2 a2 l2 c2 e2) ∧ (AdW w n1 n2 a1 a2 l1 l2 c1 c2 e1 e2).heap[w.heap.size + 2]? = some (DyBox false none 0 0 0) := by
  obtain ⟨p, q⟩ := AlW.cells w n1 n2 a1 a2 l1 l2 c1 c2 e1 e2
  have hs := AlW.size w n1 n2 a1 a2 l1 l2 c1 c2 e1 e2
  have hb := (Below.refl _ (AlW w n1 n2 a1 a2 l1 l2 c1 c2 e1 e2)).alloc (Nat.le_refl _) (DyBox false none 0 0 0)
  unfold AdW
  refine ⟨by simp [hs], (AlW.below w n1 n2 a1 a2 l1 l2 c1 c2 e1 e2).alloc (by rw [hs]; omega) _, ?_, ?_, new_blk _ _ _ hs.symm⟩
  · rw [hb.block _ (by rw [hs]; omega)]; exact p
  · rw [hb.block _ (by rw [hs]; omega)]; exact q
set_option maxRecDepth 4000 in
set_option maxHeartbeats 4000000 in
theorem added_any (n1 n2 : Bool) (L1 L2 : List Nat) (a1 a2 : Option Addr) (c1 c2 i j bd : Nat) (e1 e2 m : Int) (w : World) (h1 : MagAt w a1 L1) (h2 : MagAt w a2 L2) (d1 : DigL L1) (d2 : DigL L2) (hl1 : L1.length + i / 32 + 1 ≤ bd) (hl2 : L2.length + j / 32 + 1 ≤ bd) (hbd : bd ≤ 2000) (hm : min e1 e2 = m) (hi : e1 - m = (i : Int)) (hj : e2 - m = (j : Int)) (hm1 : -100000 ≤ m) (hm2 : m + 32 * (bd + 1) ≤ 99900) (hT : Tab32 w) (hs : 2 < w.heap.size) :
    Calls Tryz.prog 114 #[.agg #[.bool n1, .slice a1 L1.length c1, .int .i64 e1], .agg #[.bool n2, .slice a2 L2.length c2, .int .i64 e2]] w fun r w' => DyOut (intL n1 L1 * 2 ^ i + intL n2 L2 * 2 ^ j) m w.heap.size r w' ∧ Below w.heap.size w w' := by
  have hdone : L1.length ≤ 3000 := by omega
  have HAL : Hid (∀ W, Below w.heap.size w W → Calls Tryz.prog 150 #[.agg #[.bool n1, .slice a1 L1.length c1, .int .i64 e1], .agg #[.bool n2, .slice a2 L2.length c2, .int .i64 e2]] W fun r w' => ∃ X Y ax ay cx cy, r = .returned (.tuple #[.slice ax X cx, .slice ay Y cy, .int .i64 m]) ∧ Hid (∃ LX LY, LX.length = X ∧ LY.length = Y ∧ MagIs (natL L1 * 2 ^ i) bd LX ax cx w' ∧ MagIs (natL L2 * 2 ^ j) bd LY ay cy w') ∧ Below W.heap.size W w') := fun W hW => by
    refine (aligned_any n1 n2 L1 L2 a1 a2 c1 c2 i j e1 e2 m W (h1.below hW) (h2.below hW) d1 d2 (by omega) (by omega) hm hi hj (by omega) (by omega)).mono ?_
    rintro r w' ⟨X, Y, ax, ay, cx, cy, rfl, hX, hY, hb⟩
    exact ⟨X.length, Y.length, ax, ay, cx, cy, rfl, ⟨X, Y, rfl, rfl, ⟨hX.1, by have := hX.2.1; omega, hX.2.2⟩, ⟨hY.1, by have := hY.2.1; omega, hY.2.2⟩⟩, hb⟩
  rw [← sgn_mul, ← sgn_mul]
  obtain ⟨A, hA⟩ : ∃ A, Hid (natL L1 * 2 ^ i = A) := ⟨_, rfl⟩
  obtain ⟨B, hB⟩ : ∃ B, Hid (natL L2 * 2 ^ j = B) := ⟨_, rfl⟩
  obtain ⟨l1, hl1'⟩ : ∃ l1, Hid (L1.length = l1) := ⟨_, rfl⟩
  obtain ⟨l2, hl2'⟩ : ∃ l2, Hid (L2.length = l2) := ⟨_, rfl⟩
  rw [hA.out, hB.out, hl1'.out, hl2'.out] at HAL
  rw [hA.out, hB.out, hl1'.out, hl2'.out]
  obtain ⟨f1, f2, f3, f4, f5⟩ := AdW.facts w n1 n2 a1 a2 l1 l2 c1 c2 e1 e2
  have HAL2 := hid (HAL.out _ f2)
  obtain ⟨W0, hW0⟩ : ∃ W0, Hid (AdW w n1 n2 a1 a2 l1 l2 c1 c2 e1 e2 = W0) := ⟨_, rfl⟩
  have hW0' : AdW w n1 n2 a1 a2 l1 l2 c1 c2 e1 e2 = W0 := hW0.out
  rw [hW0'] at HAL2 f1 f2 f3 f4 f5
  unfold AdW AlW DyBox at hW0'
  have HF := hid (And.intro f1 (And.intro f2 (And.intro f3 (And.intro f4 f5))))
  have hc1 := dcells_of f3
  have hc2 := dcells_of f4
  unfold DCells at hc1 hc2
  obtain ⟨p10, p11, p12⟩ := hc1
  obtain ⟨p20, p21, p22⟩ := hc2
  have HT := hid hT
  have HS := hid hs
  have HBD := hid hbd
  have HM1 := hid hm1
  have HM2 := hid hm2
  clear h1 h2 d1 d2 hl1 hl2 hm hi hj hdone f1 f2 f3 f4 f5 HAL hT hs hbd hm1 hm2
  go_enter Tryz.func114, Tryz.ntmps114
  go_wp2_with fail
  refine HAL2.out.mono ?_
  rintro r w1 ⟨X, Y, ax, ay, cx, cy, rfl, HXY, hb1⟩
  obtain ⟨g1, g2, g3, g4, g5⟩ := HF.out
  have hbs := hb1.size
  rw [g1] at hbs
  have q10 : w1.cell? ⟨w.heap.size, 0, none⟩ = some (.bool n1) := by rw [hb1.cell (p := ⟨w.heap.size, 0, none⟩) (by rw [g1]; simp)]; exact p10
  have q20 : w1.cell? ⟨w.heap.size + 1, 0, none⟩ = some (.bool n2) := by rw [hb1.cell (p := ⟨w.heap.size + 1, 0, none⟩) (by rw [g1]; simp)]; exact p20
  have hzc : w1.heap[w.heap.size + 1 + 1]? = some (DyBox false none 0 0 0) := by rw [hb1.block _ (by rw [g1]; omega)]; exact g5
  have HR1 : Hid (Res (w.heap.size + 1 + 1) w1 w1) := ⟨But.refl _ _, _, _, _, hzc⟩
  have HBW : Hid (Below w.heap.size w w1) := g2.trans (hb1.mono (by rw [g1]; omega))
  have HNE : Hid (∀ W, Hid (Res (w.heap.size + 1 + 1) w1 W) → ∃ LX LY, LX.length = X ∧ LY.length = Y ∧ MagIs A bd LX ax cx W ∧ MagIs B bd LY ay cy W) := fun W hW => by
    obtain ⟨LX, LY, x1, y1, hX, hY⟩ := HXY.out
    exact ⟨LX, LY, x1, y1, hX.but hW.out.but (mag_ne3 hzc hX.2.2.1), hY.but hW.out.but (mag_ne3 hzc hY.2.2.1)⟩
  have hbds : w.heap.size + 3 ≤ w1.heap.size := hbs
  clear hb1 g1 g2 g3 g4 g5 hbs p10 p11 p12 p20 p21 p22 hW0 hW0'
  by_cases hnn : n1 = n2
  · subst hnn
    have hbe : (n1 == n1) = true := by simp
    have HOP : Hid (∀ W, Hid (Res (w.heap.size + 1 + 1) w1 W) → Calls Tryz.prog 151 #[.slice ax X cx, .slice ay Y cy] W fun r w' => ∃ n a cap, r = .returned (.slice a n cap) ∧ Hid (∃ LS, LS.length = n ∧ MagIs (A + B) (bd + 1) LS a cap w') ∧ Hid (Res (w.heap.size + 1 + 1) w1 w')) := fun W hW => by
      obtain ⟨LX, LY, rfl, rfl, hX, hY⟩ := HNE.out W hW
      have hx := hX.2.1
      have hy := hY.2.1
      refine (dplus_any LX LY ax ay cx cy W hX.2.2.1 hY.2.2.1 hX.2.2.2.1 hY.2.2.2.1 (by have := HBD.out; omega) (by have := HBD.out; omega)).mono ?_
      rintro r w' ⟨⟨LS, a, cap, rfl, s1, s2, s3, s4, s5, s6⟩, hb⟩
      exact ⟨LS.length, a, cap, rfl, ⟨LS, rfl, s1, by omega, s3, s4, s5, by rw [s6, hX.2.2.2.2.2, hY.2.2.2.2.2]⟩, hW.out.call hb⟩
    have HWR : Hid (∀ W n a cap, Hid (Res (w.heap.size + 1 + 1) w1 W) → Hid (∃ LS, LS.length = n ∧ MagIs (A + B) (bd + 1) LS a cap W) → Calls Tryz.prog 111 #[.bool n1, .slice a n cap, .int .i64 m] W fun r w' => ∃ neg' a' n' cap' e' v0 v1 v2, r = .returned (.tuple #[.agg #[.bool neg', .slice a' n' cap', .int .i64 e'], .int .i64 0]) ∧ Hid (DyRet (sgnN n1 (A + B)) m (w.heap.size + 1 + 1 + 1) neg' a' n' cap' e' w') ∧ Hid (Res (w.heap.size + 1 + 1) w1 w') ∧ (∀ o, w'.frozen? ⟨w.heap.size + 1 + 1, o, none⟩ = false) ∧ w'.cell? ⟨w.heap.size + 1 + 1, 0, none⟩ = some v0 ∧ w'.cell? ⟨w.heap.size + 1 + 1, 1, none⟩ = some v1 ∧ w'.cell? ⟨w.heap.size + 1 + 1, 2, none⟩ = some v2) := fun W n a cap hW hM => by
      obtain ⟨LS, rfl, hM'⟩ := hM.out
      exact written_res (w.heap.size + 1 + 1) w w1 W n1 (A + B) (bd + 1) LS a cap m hW.out HBW.out (by omega) HT.out HS.out hM' (by have := HBD.out; omega) HM1.out (by have := HM2.out; omega)
    have HQ0 := res_dr HR1
    have HK : Hid (∀ W, Hid (Res (w.heap.size + 1 + 1) w1 W) → W.cell? ⟨w.heap.size, 0, none⟩ = some (.bool n1) ∧ Hid (Res (w.heap.size + 1 + 1) w1 W)) := fun W hW => ⟨hW.out.but.cell q10 (by omega), hW⟩
    clear HAL2 HF HXY
    go_wp2_with fail
    go_region_held3 (fun W => W.cell? ⟨w.heap.size, 0, none⟩ = some (.bool n1) ∧ Hid (Res (w.heap.size + 1 + 1) w1 W))
      ((refine HK.out _ ?_; first | assumption | exact HQ0 | exact res_dr (by assumption) | exact res_store (by assumption) _ _ _ | exact res_dr (res_store (by assumption) _ _ _)))
      (first
        | (go_at_call 151; with_reducible refine (HOP.out _ (And.right (by assumption))).mono ?_; rintro r w2 ⟨n', a', cap', rfl, HM2, HF2⟩)
        | (go_at_call 111; with_reducible refine (HWR.out _ _ _ _ (And.right (by assumption)) (by assumption)).mono ?_; rintro r w3 ⟨neg', b', k', d', x', v0, v1, v2, rfl, HRT, HF3, fz, c0, c1', c2'⟩))
    all_goals go_wp2
    all_goals
      have hend := res_end HBW.out (by omega) HRT HF3
      rw [sgn_add] at hend
      exact bodyPost_ret (v := .tuple #[.agg #[.bool neg', .slice b' k' d', .int .i64 x'], .int .i64 0]) (by simp [results, Tryz.results114, go_sem, c0, c1', c2']) rfl hend
  · have hn2 : n2 = !n1 := by cases n1 <;> cases n2 <;> simp_all
    have hbe : (n1 == n2) = false := by simpa using hnn
    have HCM : Hid (Calls Tryz.prog 139 #[.slice ax X cx, .slice ay Y cy] w1 fun r w' => r = .returned (.int .i64 (cmpI A B)) ∧ Below w1.heap.size w1 w') := by
      obtain ⟨LX, LY, rfl, rfl, hX, hY⟩ := HXY.out
      have hx := hX.2.1
      have hy := hY.2.1
      have := dcompare_any LX LY ax ay cx cy w1 hX.2.2.1 hY.2.2.1 hX.2.2.2.1 hY.2.2.2.1 hX.2.2.2.2.1 hY.2.2.2.2.1 (by have := HBD.out; omega) (by have := HBD.out; omega)
      rw [hX.2.2.2.2.2, hY.2.2.2.2.2] at this
      exact this
    by_cases hlt : A < B
    · rw [cmpI_lt hlt] at HCM
      have HAB := hid (Nat.le_of_lt hlt)
      have HEQ := hid (show sgnN n2 (B - A) = sgnN n1 A + sgnN n2 B by rw [sgn_sub n2 B A (by omega), hn2, Bool.not_not]; omega)
      clear HAL2 HF hlt hn2 HXY
      go_wp2_with fail
      refine HCM.out.mono ?_
      rintro r w2' ⟨rfl, hb2⟩
      have HR2 : Hid (Res (w.heap.size + 1 + 1) w1 w2') := HR1.out.call hb2
      have q10' : w2'.cell? ⟨w.heap.size, 0, none⟩ = some (.bool n1) := HR2.out.but.cell q10 (by omega)
      have q20' : w2'.cell? ⟨w.heap.size + 1, 0, none⟩ = some (.bool n2) := HR2.out.but.cell q20 (by omega)
      clear hb2
      have HOP : Hid (∀ W, Hid (Res (w.heap.size + 1 + 1) w1 W) → Calls Tryz.prog 140 #[.slice ay Y cy, .slice ax X cx] W fun r w' => ∃ n a cap, r = .returned (.slice a n cap) ∧ Hid (∃ LS, LS.length = n ∧ MagIs (B - A) (bd + 1) LS a cap w') ∧ Hid (Res (w.heap.size + 1 + 1) w1 w')) := fun W hW => by
        obtain ⟨LX, LY, rfl, rfl, hX, hY⟩ := HNE.out W hW
        have hx := hX.2.1
        have hy := hY.2.1
        have hle : natL LX ≤ natL LY := by rw [hX.2.2.2.2.2, hY.2.2.2.2.2]; exact HAB.out
        have hll : LX.length ≤ LY.length := by
          apply Classical.byContradiction
          intro hc
          have := natL_shorter LY LX hY.2.2.2.1 hX.2.2.2.2.1 (by omega)
          omega
        refine (dminus_any LY LX ay ax cy cx W hY.2.2.1 hX.2.2.1 hY.2.2.2.1 hX.2.2.2.1 hll (by have := HBD.out; omega) hle).mono ?_
        rintro r w' ⟨⟨LS, a, cap, rfl, s1, s2, s3, s4, s5, s6⟩, hb⟩
        exact ⟨LS.length, a, cap, rfl, ⟨LS, rfl, s1, by omega, s3, s4, s5, by rw [s6, hX.2.2.2.2.2, hY.2.2.2.2.2]⟩, hW.out.call hb⟩
      have HWR : Hid (∀ W n a cap, Hid (Res (w.heap.size + 1 + 1) w1 W) → Hid (∃ LS, LS.length = n ∧ MagIs (B - A) (bd + 1) LS a cap W) → Calls Tryz.prog 111 #[.bool n2, .slice a n cap, .int .i64 m] W fun r w' => ∃ neg' a' n' cap' e' v0 v1 v2, r = .returned (.tuple #[.agg #[.bool neg', .slice a' n' cap', .int .i64 e'], .int .i64 0]) ∧ Hid (DyRet (sgnN n2 (B - A)) m (w.heap.size + 1 + 1 + 1) neg' a' n' cap' e' w') ∧ Hid (Res (w.heap.size + 1 + 1) w1 w') ∧ (∀ o, w'.frozen? ⟨w.heap.size + 1 + 1, o, none⟩ = false) ∧ w'.cell? ⟨w.heap.size + 1 + 1, 0, none⟩ = some v0 ∧ w'.cell? ⟨w.heap.size + 1 + 1, 1, none⟩ = some v1 ∧ w'.cell? ⟨w.heap.size + 1 + 1, 2, none⟩ = some v2) := fun W n a cap hW hM => by
        obtain ⟨LS, rfl, hM'⟩ := hM.out
        exact written_res (w.heap.size + 1 + 1) w w1 W n2 (B - A) (bd + 1) LS a cap m hW.out HBW.out (by omega) HT.out HS.out hM' (by have := HBD.out; omega) HM1.out (by have := HM2.out; omega)
      have HQ0 := res_dr HR2
      have HK : Hid (∀ W, Hid (Res (w.heap.size + 1 + 1) w1 W) → W.cell? ⟨w.heap.size + 1, 0, none⟩ = some (.bool n2) ∧ Hid (Res (w.heap.size + 1 + 1) w1 W)) := fun W hW => ⟨hW.out.but.cell q20 (by omega), hW⟩
      go_wp2_with fail
      go_region_held3 (fun W => W.cell? ⟨w.heap.size + 1, 0, none⟩ = some (.bool n2) ∧ Hid (Res (w.heap.size + 1 + 1) w1 W))
        ((refine HK.out _ ?_; first | assumption | exact HQ0 | exact res_dr (by assumption) | exact res_store (by assumption) _ _ _ | exact res_dr (res_store (by assumption) _ _ _)))
        (first
          | (go_at_call 140; with_reducible refine (HOP.out _ (And.right (by assumption))).mono ?_; rintro r w2 ⟨n', a', cap', rfl, HM2, HF2⟩)
          | (go_at_call 111; with_reducible refine (HWR.out _ _ _ _ (And.right (by assumption)) (by assumption)).mono ?_; rintro r w3 ⟨neg', b', k', d', x', v0, v1, v2, rfl, HRT, HF3, fz, c0, c1', c2'⟩))
      all_goals go_wp2
      all_goals
        have hend := res_end HBW.out (by omega) HRT HF3
        rw [HEQ.out] at hend
        exact bodyPost_ret (v := .tuple #[.agg #[.bool neg', .slice b' k' d', .int .i64 x'], .int .i64 0]) (by simp [results, Tryz.results114, go_sem, c0, c1', c2']) rfl hend
    · have HCI : Hid (∃ c : Int, cmpI A B = c ∧ ¬ c < 0) := by
        refine ⟨_, rfl, ?_⟩
        unfold cmpI
        rw [if_neg hlt]
        split <;> omega
      obtain ⟨c, hc, hc0⟩ := HCI.out
      rw [hc] at HCM
      have HAB := hid (Nat.le_of_not_lt hlt)
      have HEQ := hid (show sgnN n1 (A - B) = sgnN n1 A + sgnN n2 B by rw [sgn_sub n1 A B (by omega), hn2])
      clear HAL2 HF hlt hn2 HXY HCI hc
      go_wp2_with fail
      refine HCM.out.mono ?_
      rintro r w2' ⟨rfl, hb2⟩
      have HR2 : Hid (Res (w.heap.size + 1 + 1) w1 w2') := HR1.out.call hb2
      have q10' : w2'.cell? ⟨w.heap.size, 0, none⟩ = some (.bool n1) := HR2.out.but.cell q10 (by omega)
      have q20' : w2'.cell? ⟨w.heap.size + 1, 0, none⟩ = some (.bool n2) := HR2.out.but.cell q20 (by omega)
      clear hb2
      have HOP : Hid (∀ W, Hid (Res (w.heap.size + 1 + 1) w1 W) → Calls Tryz.prog 140 #[.slice ax X cx, .slice ay Y cy] W fun r w' => ∃ n a cap, r = .returned (.slice a n cap) ∧ Hid (∃ LS, LS.length = n ∧ MagIs (A - B) (bd + 1) LS a cap w') ∧ Hid (Res (w.heap.size + 1 + 1) w1 w')) := fun W hW => by
        obtain ⟨LX, LY, rfl, rfl, hX, hY⟩ := HNE.out W hW
        have hx := hX.2.1
        have hy := hY.2.1
        have hle : natL LY ≤ natL LX := by rw [hX.2.2.2.2.2, hY.2.2.2.2.2]; exact HAB.out
        have hll : LY.length ≤ LX.length := by
          apply Classical.byContradiction
          intro hc
          have := natL_shorter LX LY hX.2.2.2.1 hY.2.2.2.2.1 (by omega)
          omega
        refine (dminus_any LX LY ax ay cx cy W hX.2.2.1 hY.2.2.1 hX.2.2.2.1 hY.2.2.2.1 hll (by have := HBD.out; omega) hle).mono ?_
        rintro r w' ⟨⟨LS, a, cap, rfl, s1, s2, s3, s4, s5, s6⟩, hb⟩
        exact ⟨LS.length, a, cap, rfl, ⟨LS, rfl, s1, by omega, s3, s4, s5, by rw [s6, hX.2.2.2.2.2, hY.2.2.2.2.2]⟩, hW.out.call hb⟩
      have HWR : Hid (∀ W n a cap, Hid (Res (w.heap.size + 1 + 1) w1 W) → Hid (∃ LS, LS.length = n ∧ MagIs (A - B) (bd + 1) LS a cap W) → Calls Tryz.prog 111 #[.bool n1, .slice a n cap, .int .i64 m] W fun r w' => ∃ neg' a' n' cap' e' v0 v1 v2, r = .returned (.tuple #[.agg #[.bool neg', .slice a' n' cap', .int .i64 e'], .int .i64 0]) ∧ Hid (DyRet (sgnN n1 (A - B)) m (w.heap.size + 1 + 1 + 1) neg' a' n' cap' e' w') ∧ Hid (Res (w.heap.size + 1 + 1) w1 w') ∧ (∀ o, w'.frozen? ⟨w.heap.size + 1 + 1, o, none⟩ = false) ∧ w'.cell? ⟨w.heap.size + 1 + 1, 0, none⟩ = some v0 ∧ w'.cell? ⟨w.heap.size + 1 + 1, 1, none⟩ = some v1 ∧ w'.cell? ⟨w.heap.size + 1 + 1, 2, none⟩ = some v2) := fun W n a cap hW hM => by
        obtain ⟨LS, rfl, hM'⟩ := hM.out
        exact written_res (w.heap.size + 1 + 1) w w1 W n1 (A - B) (bd + 1) LS a cap m hW.out HBW.out (by omega) HT.out HS.out hM' (by have := HBD.out; omega) HM1.out (by have := HM2.out; omega)
      have HQ0 := res_dr HR2
      have HK : Hid (∀ W, Hid (Res (w.heap.size + 1 + 1) w1 W) → W.cell? ⟨w.heap.size, 0, none⟩ = some (.bool n1) ∧ Hid (Res (w.heap.size + 1 + 1) w1 W)) := fun W hW => ⟨hW.out.but.cell q10 (by omega), hW⟩
      go_wp2_with fail
      go_region_held3 (fun W => W.cell? ⟨w.heap.size, 0, none⟩ = some (.bool n1) ∧ Hid (Res (w.heap.size + 1 + 1) w1 W))
        ((refine HK.out _ ?_; first | assumption | exact HQ0 | exact res_dr (by assumption) | exact res_store (by assumption) _ _ _ | exact res_dr (res_store (by assumption) _ _ _)))
        (first
          | (go_at_call 140; with_reducible refine (HOP.out _ (And.right (by assumption))).mono ?_; rintro r w2 ⟨n', a', cap', rfl, HM2, HF2⟩)
          | (go_at_call 111; with_reducible refine (HWR.out _ _ _ _ (And.right (by assumption)) (by assumption)).mono ?_; rintro r w3 ⟨neg', b', k', d', x', v0, v1, v2, rfl, HRT, HF3, fz, c0, c1', c2'⟩))
      all_goals go_wp2
      all_goals
        have hend := res_end HBW.out (by omega) HRT HF3
        rw [HEQ.out] at hend
        exact bodyPost_ret (v := .tuple #[.agg #[.bool neg', .slice b' k' d', .int .i64 x'], .int .i64 0]) (by simp [results, Tryz.results114, go_sem, c0, c1', c2']) rfl hend
end Go.Proofs.YtehnkgonhgjeiaaGreatDoor

namespace Go.Proofs.YtehnkgonhgjeiaaGreatDoor
open Go.RowKit Go.IntWalk

/-- A dyad in memory, and the number z * 2^e that it stands for. -/
def DyAt (w : World) (neg : Bool) (a : Option Addr) (n cap : Nat) (e' z e : Int) : Prop := ∃ L, L.length = n ∧ n ≤ cap ∧ MagAt w a L ∧ DyV neg L e' z e ∧ DyMay neg L e'
theorem DyRet.at {Z e e' : Int} {B : Nat} {neg : Bool} {a : Option Addr} {n cap : Nat} {w : World} (h : DyRet Z e B neg a n cap e' w) : DyAt w neg a n cap e' Z e := by
  obtain ⟨neg1, L, a1, cap1, e1, h0, h1, h2, h3, h4, h5⟩ := h
  cases h0
  exact ⟨L, rfl, h1, h2, h3, h4⟩
theorem DyAt.below {w w' : World} {neg : Bool} {a : Option Addr} {n cap : Nat} {e' z e : Int} (h : DyAt w neg a n cap e' z e) (hb : Below w.heap.size w w') : DyAt w' neg a n cap e' z e := by
  obtain ⟨L, h1, h2, h3, h4, h5⟩ := h
  exact ⟨L, h1, h2, h3.below hb, h4, h5⟩
theorem DyAt.may {w : World} {neg : Bool} {a : Option Addr} {n cap : Nat} {e' z e : Int} (h : DyAt w neg a n cap e' z e) : Calls Tryz.prog 113 #[.agg #[.bool neg, .slice a n cap, .int .i64 e']] w fun r w' => r = .returned (.bool true) ∧ Below w.heap.size w w' := by
  obtain ⟨L, rfl, h2, h3, h4, h5⟩ := h
  exact May_yes neg L a cap e' w h3 h5
theorem DyV.conv {n : Bool} {L : List Nat} {e' S m T e : Int} {i j : Nat} (h : DyV n L e' S m) (h1 : S * 2 ^ i = T * 2 ^ j) (h2 : m - i = e - j) : DyV n L e' T e := by
  have := h.low i
  rw [h1, h2] at this
  have := this.high
  rwa [show e - (j : Int) + (j : Int) = e by omega] at this
theorem DyOut.conv {S m T e : Int} {B : Nat} {r : Ending} {w : World} {i j : Nat} (h : DyOut S m B r w) (h1 : S * 2 ^ i = T * 2 ^ j) (h2 : m - i = e - j) : DyOut T e B r w := by
  obtain ⟨neg, L, a, cap, e', rfl, g1, g2, g3, g4, g5⟩ := h
  exact ⟨neg, L, a, cap, e', rfl, g1, g2, g3.conv h1 h2, g4, g5⟩
theorem intL_abs (n : Bool) (L : List Nat) : (intL n L).natAbs = natL L := by unfold intL; cases n <;> simp
/-- How long a dyad's words are, and where its exponent lies. -/
theorem DyV.size {n : Bool} {L : List Nat} {e' z e : Int} {N : Nat} (h : DyV n L e' z e) (hz : z.natAbs < 2 ^ N) (hN : N ≤ 6400) (he1 : -3000 ≤ e) (he2 : e ≤ 3000) : L.length ≤ 201 ∧ -3000 ≤ e' ∧ e' ≤ 9400 := by
  have hc := h.2.1
  rcases h.val with ⟨z0, l0, m0, x0⟩ | ⟨l0, o0, z0, k, hk, hx⟩
  · rw [l0, x0]; exact ⟨by simp, by decide, by decide⟩
  · have ha : natL L * 2 ^ k = z.natAbs := by rw [← hk, Int.natAbs_mul, intL_abs, Int.natAbs_pow]; rfl
    have hn1 : 1 ≤ natL L := by omega
    have hp := Nat.two_pow_pos k
    have h1 : 2 ^ k ≤ z.natAbs := by rw [← ha]; exact Nat.le_mul_of_pos_left _ hn1
    have h2 : natL L ≤ z.natAbs := by rw [← ha]; exact Nat.le_mul_of_pos_right _ hp
    have hkN : k < N := (Nat.pow_lt_pow_iff_right (by decide)).1 (Nat.lt_of_le_of_lt h1 hz)
    have h3 := natL_ge L l0 hc
    rw [pow32] at h3
    have h4 : 32 * (L.length - 1) < N := (Nat.pow_lt_pow_iff_right (by decide)).1 (Nat.lt_of_le_of_lt h3 (Nat.lt_of_le_of_lt h2 hz))
    omega
/-- A sum at the lesser exponent is the sum. -/
theorem sum_conv (i1 i2 z1 z2 e e1 e2 m : Int) (i j : Nat) (hi : e1 - m = (i : Int)) (hj : e2 - m = (j : Int)) (h1 : (z1 = 0 ∧ i1 = 0) ∨ ∃ k : Nat, i1 * 2 ^ k = z1 ∧ e1 = e + k) (h2 : (z2 = 0 ∧ i2 = 0) ∨ ∃ k : Nat, i2 * 2 ^ k = z2 ∧ e2 = e + k) : ∃ p q : Nat, (i1 * 2 ^ i + i2 * 2 ^ j) * 2 ^ p = (z1 + z2) * 2 ^ q ∧ m - p = e - q := by
  refine ⟨(m - min m e).toNat, (e - min m e).toNat, ?_, by omega⟩
  have key : ∀ (a z x : Int) (t : Nat), x - m = (t : Int) → ((z = 0 ∧ a = 0) ∨ ∃ k : Nat, a * 2 ^ k = z ∧ x = e + k) → a * 2 ^ t * 2 ^ (m - min m e).toNat = z * 2 ^ (e - min m e).toNat := by
    intro a z x t ht h
    rcases h with ⟨h, h'⟩ | ⟨k, h, hx⟩
    · rw [h, h', Int.zero_mul, Int.zero_mul, Int.zero_mul]
    · rw [← h, Int.mul_assoc, Int.mul_assoc, ← Int.pow_add, ← Int.pow_add]
      congr 2
      omega
  rw [Int.add_mul, Int.add_mul, key i1 z1 e1 i hi h1, key i2 z2 e2 j hj h2]
/-- added, by what the dyads stand for. -/
theorem added_dy (n1 n2 : Bool) (a1 a2 : Option Addr) (l1 l2 c1 c2 N : Nat) (e1 e2 z1 z2 e : Int) (w : World) (h1 : DyAt w n1 a1 l1 c1 e1 z1 e) (h2 : DyAt w n2 a2 l2 c2 e2 z2 e) (hz1 : z1.natAbs < 2 ^ N) (hz2 : z2.natAbs < 2 ^ N) (hN : N ≤ 6400) (he1 : -3000 ≤ e) (he2 : e ≤ 3000) (hT : Tab32 w) (hs : 2 < w.heap.size) :
    Calls Tryz.prog 114 #[.agg #[.bool n1, .slice a1 l1 c1, .int .i64 e1], .agg #[.bool n2, .slice a2 l2 c2, .int .i64 e2]] w fun r w' => DyOut (z1 + z2) e w.heap.size r w' ∧ Below w.heap.size w w' := by
  obtain ⟨L1, rfl, _, m1, v1, _⟩ := h1
  obtain ⟨L2, rfl, _, m2, v2, _⟩ := h2
  obtain ⟨s1, s2, s3⟩ := v1.size hz1 hN he1 he2
  obtain ⟨t1, t2, t3⟩ := v2.size hz2 hN he1 he2
  obtain ⟨m, hm⟩ : ∃ m, min e1 e2 = m := ⟨_, rfl⟩
  obtain ⟨i, hi⟩ := Int.eq_ofNat_of_zero_le (show 0 ≤ e1 - m by omega)
  obtain ⟨j, hj⟩ := Int.eq_ofNat_of_zero_le (show 0 ≤ e2 - m by omega)
  refine (added_any n1 n2 L1 L2 a1 a2 c1 c2 i j 600 e1 e2 m w m1 m2 v1.1 v2.1 (by omega) (by omega) (by decide) hm hi hj (by omega) (by omega) hT hs).mono ?_
  rintro r w' ⟨ho, hb⟩
  have g1 : (z1 = 0 ∧ intL n1 L1 = 0) ∨ ∃ k : Nat, intL n1 L1 * 2 ^ k = z1 ∧ e1 = e + k := by
    rcases v1.val with ⟨z0, l0, m0, x0⟩ | ⟨_, _, _, k, hk⟩
    · exact Or.inl ⟨z0, by rw [l0, m0]; rfl⟩
    · exact Or.inr ⟨k, hk⟩
  have g2 : (z2 = 0 ∧ intL n2 L2 = 0) ∨ ∃ k : Nat, intL n2 L2 * 2 ^ k = z2 ∧ e2 = e + k := by
    rcases v2.val with ⟨z0, l0, m0, x0⟩ | ⟨_, _, _, k, hk⟩
    · exact Or.inl ⟨z0, by rw [l0, m0]; rfl⟩
    · exact Or.inr ⟨k, hk⟩
  obtain ⟨p, q, q1, q2⟩ := sum_conv _ _ z1 z2 e e1 e2 m i j hi hj g1 g2
  exact ⟨ho.conv q1 q2, hb⟩
end Go.Proofs.YtehnkgonhgjeiaaGreatDoor

namespace Go.Proofs.YtehnkgonhgjeiaaGreatDoor
open Go.RowKit Go.IntWalk

theorem intL_not (n : Bool) (L : List Nat) : intL (!n) L = -intL n L := by unfold intL; cases n <;> simp
/-- added of the other sign, by what the dyads stand for. -/
theorem added_neg (n1 n2 : Bool) (a1 a2 : Option Addr) (l1 l2 c1 c2 N : Nat) (e1 e2 z1 z2 e : Int) (w : World) (h1 : DyAt w n1 a1 l1 c1 e1 z1 e) (h2 : DyAt w n2 a2 l2 c2 e2 z2 e) (hz1 : z1.natAbs < 2 ^ N) (hz2 : z2.natAbs < 2 ^ N) (hN : N ≤ 6400) (he1 : -3000 ≤ e) (he2 : e ≤ 3000) (hT : Tab32 w) (hs : 2 < w.heap.size) :
    Calls Tryz.prog 114 #[.agg #[.bool n1, .slice a1 l1 c1, .int .i64 e1], .agg #[.bool (!n2), .slice a2 l2 c2, .int .i64 e2]] w fun r w' => DyOut (z1 - z2) e w.heap.size r w' ∧ Below w.heap.size w w' := by
  obtain ⟨L1, rfl, _, m1, v1, _⟩ := h1
  obtain ⟨L2, rfl, _, m2, v2, _⟩ := h2
  obtain ⟨s1, s2, s3⟩ := v1.size hz1 hN he1 he2
  obtain ⟨t1, t2, t3⟩ := v2.size hz2 hN he1 he2
  obtain ⟨m, hm⟩ : ∃ m, min e1 e2 = m := ⟨_, rfl⟩
  obtain ⟨i, hi⟩ := Int.eq_ofNat_of_zero_le (show 0 ≤ e1 - m by omega)
  obtain ⟨j, hj⟩ := Int.eq_ofNat_of_zero_le (show 0 ≤ e2 - m by omega)
  refine (added_any n1 (!n2) L1 L2 a1 a2 c1 c2 i j 600 e1 e2 m w m1 m2 v1.1 v2.1 (by omega) (by omega) (by decide) hm hi hj (by omega) (by omega) hT hs).mono ?_
  rintro r w' ⟨ho, hb⟩
  have g1 : (z1 = 0 ∧ intL n1 L1 = 0) ∨ ∃ k : Nat, intL n1 L1 * 2 ^ k = z1 ∧ e1 = e + k := by
    rcases v1.val with ⟨z0, l0, m0, x0⟩ | ⟨_, _, _, k, hk⟩
    · exact Or.inl ⟨z0, by rw [l0, m0]; rfl⟩
    · exact Or.inr ⟨k, hk⟩
  have g2 : (-z2 = 0 ∧ intL (!n2) L2 = 0) ∨ ∃ k : Nat, intL (!n2) L2 * 2 ^ k = -z2 ∧ e2 = e + k := by
    rw [intL_not]
    rcases v2.val with ⟨z0, l0, m0, x0⟩ | ⟨_, _, _, k, hk⟩
    · exact Or.inl ⟨by omega, by rw [l0, m0]; rfl⟩
    · exact Or.inr ⟨k, by rw [Int.neg_mul, hk.1], hk.2⟩
  obtain ⟨p, q, q1, q2⟩ := sum_conv _ _ z1 (-z2) e e1 e2 m i j hi hj g1 g2
  exact ⟨ho.conv q1 q2, hb⟩
set_option maxRecDepth 4000 in
set_option maxHeartbeats 2000000 in
theorem Sub_dy (n1 n2 : Bool) (a1 a2 : Option Addr) (l1 l2 c1 c2 N : Nat) (e1 e2 z1 z2 e : Int) (w : World) (h1 : DyAt w n1 a1 l1 c1 e1 z1 e) (h2 : DyAt w n2 a2 l2 c2 e2 z2 e) (hz1 : z1.natAbs < 2 ^ N) (hz2 : z2.natAbs < 2 ^ N) (hN : N ≤ 6400) (he1 : -3000 ≤ e) (he2 : e ≤ 3000) (hT : Tab32 w) (hs : 2 < w.heap.size) :
    Calls Tryz.prog 63 #[.agg #[.bool n1, .slice a1 l1 c1, .int .i64 e1], .agg #[.bool n2, .slice a2 l2 c2, .int .i64 e2]] w fun r w' => DyOut (z1 - z2) e w.heap.size r w' ∧ Below w.heap.size w w' := by
  obtain ⟨f1, f2, f3, f4, f5⟩ := AdW.facts w n1 n2 a1 a2 l1 l2 c1 c2 e1 e2
  have HM1 : Hid (∀ W, Below w.heap.size w W → Calls Tryz.prog 113 #[.agg #[.bool n1, .slice a1 l1 c1, .int .i64 e1]] W fun r w' => r = .returned (.bool true) ∧ Below W.heap.size W w') := fun W hW => (h1.below hW).may
  have HM2 : Hid (∀ W, Below w.heap.size w W → Calls Tryz.prog 113 #[.agg #[.bool n2, .slice a2 l2 c2, .int .i64 e2]] W fun r w' => r = .returned (.bool true) ∧ Below W.heap.size W w') := fun W hW => (h2.below hW).may
  have HAD : Hid (∀ W, Below w.heap.size w W → Calls Tryz.prog 114 #[.agg #[.bool n1, .slice a1 l1 c1, .int .i64 e1], .agg #[.bool (!n2), .slice a2 l2 c2, .int .i64 e2]] W fun r w' => DyOut (z1 - z2) e W.heap.size r w' ∧ Below W.heap.size W w') := fun W hW => added_neg n1 n2 a1 a2 l1 l2 c1 c2 N e1 e2 z1 z2 e W (h1.below hW) (h2.below hW) hz1 hz2 hN he1 he2 (hT.below hs hW) (Nat.lt_of_lt_of_le hs hW.size)
  obtain ⟨W0, hW0⟩ : ∃ W0, Hid (AdW w n1 n2 a1 a2 l1 l2 c1 c2 e1 e2 = W0) := ⟨_, rfl⟩
  have hW0' : AdW w n1 n2 a1 a2 l1 l2 c1 c2 e1 e2 = W0 := hW0.out
  rw [hW0'] at f1 f2 f3 f4 f5
  unfold AdW AlW DyBox at hW0'
  have HF := hid (And.intro f1 (And.intro f2 (And.intro f3 (And.intro f4 f5))))
  have hc1 := dcells_of f3
  have hc2 := dcells_of f4
  unfold DCells at hc1 hc2
  obtain ⟨p10, p11, p12⟩ := hc1
  obtain ⟨p20, p21, p22⟩ := hc2
  clear h1 h2 hz1 hz2 hN he1 he2 hT hs f1 f2 f3 f4 f5
  go_enter Tryz.func63, Tryz.ntmps63
  go_wp2_with fail
  refine (HM1.out _ HF.out.2.1).mono ?_
  rintro r w1 ⟨rfl, hb1⟩
  have HB1 := hid hb1
  have HR1 : Hid (Res (w.heap.size + 1 + 1) W0 w1) := Res.call ⟨But.refl _ _, _, _, _, HF.out.2.2.2.2⟩ hb1
  have HBW1 : Hid (Below w.heap.size w w1) := HF.out.2.1.trans (hb1.mono HF.out.2.1.size)
  have q10 : w1.cell? ⟨w.heap.size, 0, none⟩ = some (.bool n1) := HR1.out.but.cell p10 (by omega)
  have q11 : w1.cell? ⟨w.heap.size, 1, none⟩ = some (.slice a1 l1 c1) := HR1.out.but.cell p11 (by omega)
  have q12 : w1.cell? ⟨w.heap.size, 2, none⟩ = some (.int .i64 e1) := HR1.out.but.cell p12 (by omega)
  have q20 : w1.cell? ⟨w.heap.size + 1, 0, none⟩ = some (.bool n2) := HR1.out.but.cell p20 (by omega)
  have q21 : w1.cell? ⟨w.heap.size + 1, 1, none⟩ = some (.slice a2 l2 c2) := HR1.out.but.cell p21 (by omega)
  have q22 : w1.cell? ⟨w.heap.size + 1, 2, none⟩ = some (.int .i64 e2) := HR1.out.but.cell p22 (by omega)
  clear hb1
  go_wp2_with fail
  refine (HM2.out _ HBW1.out).mono ?_
  rintro r w2 ⟨rfl, hb2⟩
  have HR2 : Hid (Res (w.heap.size + 1 + 1) W0 w2) := HR1.out.call hb2
  have HBW2 : Hid (Below w.heap.size w w2) := HBW1.out.trans (hb2.mono HBW1.out.size)
  have r10 : w2.cell? ⟨w.heap.size, 0, none⟩ = some (.bool n1) := HR2.out.but.cell p10 (by omega)
  have r11 : w2.cell? ⟨w.heap.size, 1, none⟩ = some (.slice a1 l1 c1) := HR2.out.but.cell p11 (by omega)
  have r12 : w2.cell? ⟨w.heap.size, 2, none⟩ = some (.int .i64 e1) := HR2.out.but.cell p12 (by omega)
  have r20 : w2.cell? ⟨w.heap.size + 1, 0, none⟩ = some (.bool n2) := HR2.out.but.cell p20 (by omega)
  have r21 : w2.cell? ⟨w.heap.size + 1, 1, none⟩ = some (.slice a2 l2 c2) := HR2.out.but.cell p21 (by omega)
  have r22 : w2.cell? ⟨w.heap.size + 1, 2, none⟩ = some (.int .i64 e2) := HR2.out.but.cell p22 (by omega)
  have hz2 : w.heap.size + 1 + 1 < w2.heap.size := HR2.out.facts.2.1
  have rf : ∀ o, w2.frozen? ⟨w.heap.size + 1, o, none⟩ = false := fun o => by
    have hb : w2.heap[w.heap.size + 1]? = some (DyBox n2 a2 l2 c2 e2) := by
      rw [hb2.block _ (by have := HR1.out.facts.2.1; omega), HB1.out.block _ (by rw [HF.out.1]; omega)]
      exact HF.out.2.2.2.1
    simp [World.frozen?, hb, DyBox]
  obtain ⟨W3, hW3⟩ : ∃ W3, Hid (w2.setCell ⟨w.heap.size + 1, 0, none⟩ (.bool (!n2)) = W3) := ⟨_, rfl⟩
  have HBW3 : Hid (Below w.heap.size w W3) := by rw [← hW3.out]; exact Below.setCell HBW2.out (by simp) _
  have HR3' : Hid (Res (w.heap.size + 1 + 1) W3 W3) := by
    obtain ⟨x0, x1, x2, hx⟩ := HR2.out.cells
    refine ⟨But.refl _ _, x0, x1, x2, ?_⟩
    rw [← hW3.out, Below.heap_setCell _ _ _ _ (by simp)]
    exact hx
  have hs3 : W3.heap.size = w2.heap.size := by rw [← hW3.out]; simp [World.setCell]
  have HN2 := hid (fun (c : Bool) (h : c = !n2) => h)
  clear hb2 q10 q11 q12 q20 q21 q22
  go_wp2_with fail
  rw [hW3.out]
  refine (HAD.out _ HBW3.out).mono ?_
  rintro r w3 ⟨ho, hb3⟩
  obtain ⟨neg', b', k', d', x', rfl, hr⟩ := ho.ret
  have HR3 : Hid (Res (w.heap.size + 1 + 1) W3 w3) := HR3'.out.call hb3
  have HRT : Hid (DyRet (z1 - z2) e (w.heap.size + 1 + 1 + 1) neg' b' k' d' x' w3) := DyOut.but hr (But.refl (w.heap.size + 1 + 1) _) (by rw [hs3]; exact hz2) (by rw [hs3]; exact hz2)
  obtain ⟨fz, _, v0, v1, v2, c0, c1', c2'⟩ := HR3.out.facts
  clear hr ho hb3 HF
  go_wp2
  exact bodyPost_ret (v := .tuple #[.agg #[.bool neg', .slice b' k' d', .int .i64 x'], .int .i64 0]) (by simp [results, Tryz.results63, go_sem, c0, c1', c2']) rfl (res_end HBW3.out (by omega) HRT HR3)
end Go.Proofs.YtehnkgonhgjeiaaGreatDoor

namespace Go.Proofs.YtehnkgonhgjeiaaGreatDoor
open Go.RowKit Go.IntWalk

theorem sgn_times (n1 n2 : Bool) (L1 L2 : List Nat) : sgnN (n1 != n2) (natL L1 * natL L2) = intL n1 L1 * intL n2 L2 := by
  unfold sgnN intL
  cases n1 <;> cases n2 <;> simp [Int.natCast_mul, Int.neg_mul, Int.mul_neg]
theorem prod_conv (i1 i2 z1 z2 ez1 ez2 e1 e2 : Int) (h1 : (z1 = 0 ∧ i1 = 0) ∨ ∃ k : Nat, i1 * 2 ^ k = z1 ∧ e1 = ez1 + k) (h2 : (z2 = 0 ∧ i2 = 0) ∨ ∃ k : Nat, i2 * 2 ^ k = z2 ∧ e2 = ez2 + k) : ∃ p q : Nat, i1 * i2 * 2 ^ p = z1 * z2 * 2 ^ q ∧ e1 + e2 - p = ez1 + ez2 - q := by
  have zero : i1 * i2 = 0 → z1 * z2 = 0 → ∃ p q : Nat, i1 * i2 * 2 ^ p = z1 * z2 * 2 ^ q ∧ e1 + e2 - p = ez1 + ez2 - q := fun a b => by
    refine ⟨(e1 + e2 - min (e1 + e2) (ez1 + ez2)).toNat, (ez1 + ez2 - min (e1 + e2) (ez1 + ez2)).toNat, by rw [a, b, Int.zero_mul, Int.zero_mul], by omega⟩
  rcases h1 with ⟨a, b⟩ | ⟨k, hk, hx⟩
  · exact zero (by rw [b, Int.zero_mul]) (by rw [a, Int.zero_mul])
  · rcases h2 with ⟨a, b⟩ | ⟨l, hl, hy⟩
    · exact zero (by rw [b, Int.mul_zero]) (by rw [a, Int.mul_zero])
    · refine ⟨k + l, 0, ?_, by omega⟩
      rw [Int.pow_zero, Int.mul_one, ← hk, ← hl, Int.pow_add, Int.mul_assoc, Int.mul_assoc, Int.mul_left_comm i2]
end Go.Proofs.YtehnkgonhgjeiaaGreatDoor

namespace Go.Proofs.YtehnkgonhgjeiaaGreatDoor
open Go.RowKit Go.IntWalk

set_option maxRecDepth 4000 in
set_option maxHeartbeats 2000000 in
theorem Same_yes (neg : Bool) (L : List Nat) (a1 a2 : Option Addr) (c1 c2 : Nat) (e : Int) (w : World) (h1 : MagAt w a1 L) (h2 : MagAt w a2 L) (hn : L.length ≤ 1000000) :
    Calls Tryz.prog 26 #[.agg #[.bool neg, .slice a1 L.length c1, .int .i64 e], .agg #[.bool neg, .slice a2 L.length c2, .int .i64 e]] w fun r w' => r = .returned (.bool true) ∧ Below w.heap.size w w' := by
  have H1 := hid h1
  have H2 := hid h2
  obtain ⟨n, hnl⟩ : ∃ n, Hid (L.length = n) := ⟨_, rfl⟩
  rw [hnl.out] at hn ⊢
  obtain ⟨W0, hW0⟩ : ∃ W0, Hid (AlW w neg neg a1 a2 n n c1 c2 e e = W0) := ⟨_, rfl⟩
  have hW0' : AlW w neg neg a1 a2 n n c1 c2 e e = W0 := hW0.out
  have hs0 := AlW.size w neg neg a1 a2 n n c1 c2 e e
  have hb0 := AlW.below w neg neg a1 a2 n n c1 c2 e e
  obtain ⟨f3, f4⟩ := AlW.cells w neg neg a1 a2 n n c1 c2 e e
  rw [hW0'] at hs0 hb0 f3 f4
  unfold AlW DyBox at hW0'
  have hc1 := dcells_of f3
  have hc2 := dcells_of f4
  unfold DCells at hc1 hc2
  obtain ⟨p10, p11, p12⟩ := hc1
  obtain ⟨p20, p21, p22⟩ := hc2
  have HB0 := hid hb0
  have HS0 := hid hs0
  have hbe : (neg == neg) = true := by simp
  clear h1 h2 f3 f4 hb0 hs0
  go_enter Tryz.func26, Tryz.ntmps26
  go_wp2
  go_loopw [30] (fun i wr => ∃ k : Nat, k ≤ n ∧ i = .int .i64 k ∧ Hid (Below W0.heap.size W0 wr)) (fun i _ => n - (intOf i).toNat)
  case atStart => exact ⟨0, Nat.zero_le _, rfl, Below.refl _ _⟩
  case round =>
    obtain ⟨k, hk, rfl, HBW⟩ := hrel
    have hlt1 : w.heap.size < W0.heap.size := by rw [HS0.out]; omega
    have hlt2 : w.heap.size + 1 < W0.heap.size := by rw [HS0.out]; omega
    by_cases hlt : k < n
    · obtain ⟨b1, o1, rfl, hb1, hx1⟩ := H1.out k (by rw [hnl.out]; exact hlt)
      obtain ⟨b2, o2, rfl, hb2, hx2⟩ := H2.out k (by rw [hnl.out]; exact hlt)
      have q11 : wr.cell? ⟨w.heap.size, 1, none⟩ = some (.slice (some ⟨b1, o1, none⟩) n c1) := by rw [HBW.out.cell (p := ⟨w.heap.size, 1, none⟩) hlt1]; exact p11
      have q21 : wr.cell? ⟨w.heap.size + 1, 1, none⟩ = some (.slice (some ⟨b2, o2, none⟩) n c2) := by rw [HBW.out.cell (p := ⟨w.heap.size + 1, 1, none⟩) hlt2]; exact p21
      have y1 : wr.cell? ⟨b1, o1 + k, none⟩ = some (.int .u32 (L.getD k 0)) := by
        rw [HBW.out.cell (p := ⟨b1, o1 + k, none⟩) (Nat.lt_of_lt_of_le hb1 HB0.out.size), HB0.out.cell (p := ⟨b1, o1 + k, none⟩) hb1]
        exact hx1
      have y2 : wr.cell? ⟨b2, o2 + k, none⟩ = some (.int .u32 (L.getD k 0)) := by
        rw [HBW.out.cell (p := ⟨b2, o2 + k, none⟩) (Nat.lt_of_lt_of_le hb2 HB0.out.size), HB0.out.cell (p := ⟨b2, o2 + k, none⟩) hb2]
        exact hx2
      obtain ⟨x, hx⟩ : ∃ x, Hid (L.getD k 0 = x) := ⟨_, rfl⟩
      rw [hx.out] at y1 y2
      have hkI : (k : Int) < (n : Int) := by omega
      have hk0 : (0 : Int) ≤ (k : Int) := by omega
      clear hx1 hx2 hb1 hb2 p10 p11 p12 p20 p21 p22 hlt1 hlt2
      go_wp2_with fail
      go_region_held3 (fun W => (W.cell? ⟨w.heap.size, 1, none⟩ = some (.slice (some ⟨b1, o1, none⟩) n c1) ∧ W.cell? ⟨w.heap.size + 1, 1, none⟩ = some (.slice (some ⟨b2, o2, none⟩) n c2)) ∧ W.cell? ⟨b1, o1 + k, none⟩ = some (.int .u32 x) ∧ W.cell? ⟨b2, o2 + k, none⟩ = some (.int .u32 x)) (go_keep) (fail)
      all_goals go_wp2
      all_goals
        refine ⟨⟨k + 1, by omega, by go_num, ?_⟩, by simp [intOf]; omega⟩
        first | exact HBW.out.drew | exact bl_drewN _ HBW.out
    · have hkn : k = n := by omega
      subst hkn
      have HBE : Hid (Below w.heap.size w wr) := HB0.out.trans (HBW.out.mono HB0.out.size)
      go_wp2
      go_ret
      exact ⟨rfl, HBE.out⟩
theorem Same_dy (n1 n2 : Bool) (a1 a2 : Option Addr) (l1 l2 c1 c2 : Nat) (e1 e2 z e : Int) (w : World) (h1 : DyAt w n1 a1 l1 c1 e1 z e) (h2 : DyAt w n2 a2 l2 c2 e2 z e) :
    Calls Tryz.prog 26 #[.agg #[.bool n1, .slice a1 l1 c1, .int .i64 e1], .agg #[.bool n2, .slice a2 l2 c2, .int .i64 e2]] w fun r w' => r = .returned (.bool true) ∧ Below w.heap.size w w' := by
  obtain ⟨L1, rfl, _, m1, v1, y1⟩ := h1
  obtain ⟨L2, rfl, _, m2, v2, _⟩ := h2
  obtain ⟨rfl, rfl, rfl⟩ := v1.uniq v2
  refine Same_yes n1 L1 a1 a2 c1 c2 e1 w m1 m2 ?_
  rcases y1 with ⟨rfl, _, _⟩ | ⟨_, _, _, hl, _⟩
  · exact Nat.zero_le _
  · omega
end Go.Proofs.YtehnkgonhgjeiaaGreatDoor

namespace Go.Proofs.YtehnkgonhgjeiaaGreatDoor
open Go.RowKit Go.IntWalk

/-- The words from a place on. -/
def seg (b : Nat) (o : Nat → Nat) : Nat → Nat := fun j => o (b + j)
def digN (V t : Nat) : Nat := V / 4294967296 ^ t % 4294967296
/-- What holds ahead of the t-th round of put. -/
def PutI (o0 o : Nat → Nat) (b q s V c U t : Nat) : Prop :=
  natF (seg b o) 134 + 4294967296 ^ (q + t) * (c + U) = natF (seg b o0) 134 + 4294967296 ^ q * (V % 4294967296 ^ t * 2 ^ s) ∧ c ≤ 1 ∧ U < 2 ^ s ∧ (∀ j, o j < 4294967296) ∧ ∀ j, (j < b ∨ b + 134 ≤ j) → o j = o0 j
theorem PutI.zero (o : Nat → Nat) (b q s V : Nat) (ho : ∀ j, o j < 4294967296) : PutI o o b q s V 0 0 0 := by
  refine ⟨?_, by decide, Nat.two_pow_pos s, ho, fun _ _ => rfl⟩
  rw [Nat.pow_zero, Nat.mod_one, Nat.zero_mul, Nat.mul_zero, Nat.mul_zero]
theorem seg_set (b : Nat) (o : Nat → Nat) (i v : Nat) : seg b (fun j => if j = b + i then v else o j) = fun j => if j = i then v else seg b o j := by
  funext j
  show (if b + j = b + i then v else o (b + j)) = if j = i then v else o (b + j)
  by_cases h : j = i
  · rw [if_pos (by omega), if_pos h]
  · rw [if_neg (by omega), if_neg h]
theorem PutI.step {o0 o : Nat → Nat} {b q s V c U t : Nat} (h : PutI o0 o b q s V c U t) (hs : s < 32) (ht : q + t < 134) :
    PutI o0 (fun j => if j = b + (q + t) then (c + (o (b + (q + t)) + (U + digN V t * 2 ^ s) % 4294967296)) % 4294967296 else o j) b q s V ((c + (o (b + (q + t)) + (U + digN V t * 2 ^ s) % 4294967296)) / 4294967296) ((U + digN V t * 2 ^ s) / 4294967296) (t + 1) ∧ U + digN V t * 2 ^ s < 18446744073709551616 := by
  obtain ⟨h1, h2, h3, h4, h5⟩ := h
  have hd : digN V t < 4294967296 := Nat.mod_lt _ (by decide)
  have hx := h4 (b + (q + t))
  have hp := Nat.two_pow_pos s
  have h32 : (2 : Nat) ^ s ≤ 2 ^ 32 := Nat.pow_le_pow_right (by decide) (by omega)
  have e32 : (2 : Nat) ^ 32 = 4294967296 := by decide
  have hT : U + digN V t * 2 ^ s < 4294967296 * 2 ^ s := by
    have : (digN V t + 1) * 2 ^ s ≤ 4294967296 * 2 ^ s := Nat.mul_le_mul_right _ hd
    rw [Nat.add_mul, Nat.one_mul] at this
    omega
  have hT2 : U + digN V t * 2 ^ s < 18446744073709551616 := by
    have : 4294967296 * 2 ^ s ≤ 4294967296 * 4294967296 := Nat.mul_le_mul_left _ (by omega)
    omega
  have hmod : V % 4294967296 ^ (t + 1) = V % 4294967296 ^ t + 4294967296 ^ t * digN V t := by
    unfold digN
    rw [Nat.pow_succ, Nat.mod_mul]
  obtain ⟨T, hTT⟩ : ∃ T, U + digN V t * 2 ^ s = T := ⟨_, rfl⟩
  obtain ⟨x, hxx⟩ : ∃ x, o (b + (q + t)) = x := ⟨_, rfl⟩
  rw [hTT] at hT hT2 ⊢
  rw [hxx] at hx ⊢
  refine ⟨⟨?_, by omega, ?_, fun j => ?_, fun j hj => ?_⟩, hT2⟩
  · rw [seg_set]
    have e1 := natF_set (seg b o) 134 (q + t) ((c + (x + T % 4294967296)) % 4294967296) ht
    have e2 : seg b o (q + t) = x := hxx
    rw [e2] at e1
    have e3 : 4294967296 ^ q * (4294967296 ^ t * digN V t * 2 ^ s) = 4294967296 ^ (q + t) * (digN V t * 2 ^ s) := by
      rw [Nat.mul_assoc, ← Nat.mul_assoc, ← Nat.pow_add]
    have hr : 4294967296 ^ q * (V % 4294967296 ^ (t + 1) * 2 ^ s) = 4294967296 ^ q * (V % 4294967296 ^ t * 2 ^ s) + 4294967296 ^ (q + t) * (digN V t * 2 ^ s) := by rw [hmod, Nat.add_mul, Nat.mul_add, e3]
    have e4 : q + (t + 1) = q + t + 1 := by omega
    rw [hr, e4, Nat.pow_succ]
    have d1 := Nat.div_add_mod (c + (x + T % 4294967296)) 4294967296
    have d2 := Nat.div_add_mod T 4294967296
    obtain ⟨P, hP⟩ : ∃ P, 4294967296 ^ (q + t) = P := ⟨_, rfl⟩
    obtain ⟨F, hF⟩ : ∃ F, natF (seg b o) 134 = F := ⟨_, rfl⟩
    obtain ⟨F', hF'⟩ : ∃ F', natF (fun j => if j = q + t then (c + (x + T % 4294967296)) % 4294967296 else seg b o j) 134 = F' := ⟨_, rfl⟩
    obtain ⟨Z, hZ⟩ : ∃ Z, 4294967296 ^ q * (V % 4294967296 ^ t * 2 ^ s) = Z := ⟨_, rfl⟩
    obtain ⟨D, hD⟩ : ∃ D, digN V t * 2 ^ s = D := ⟨_, rfl⟩
    rw [hP, hF, hF'] at e1
    rw [hP, hF, hZ] at h1
    rw [hF', hP, hZ, hD]
    rw [hD] at hTT
    obtain ⟨R, hR⟩ : ∃ R, (c + (x + T % 4294967296)) % 4294967296 = R := ⟨_, rfl⟩
    obtain ⟨Q, hQ⟩ : ∃ Q, (c + (x + T % 4294967296)) / 4294967296 = Q := ⟨_, rfl⟩
    obtain ⟨l, hl⟩ : ∃ l, T % 4294967296 = l := ⟨_, rfl⟩
    obtain ⟨k, hk⟩ : ∃ k, T / 4294967296 = k := ⟨_, rfl⟩
    rw [hR, hQ, hl] at d1
    rw [hR] at e1
    rw [hl, hk] at d2
    rw [hQ, hk]
    have m1 : P * (4294967296 * Q + R) = P * (c + (x + l)) := by rw [d1]
    have m2 : P * (4294967296 * k + l) = P * T := by rw [d2]
    have m3 : P * T = P * U + P * D := by rw [← hTT, Nat.mul_add]
    rw [Nat.mul_add, Nat.mul_add, Nat.mul_add, ← Nat.mul_assoc] at m1
    rw [Nat.mul_add, ← Nat.mul_assoc] at m2
    rw [Nat.mul_add] at h1 ⊢
    omega
  · rw [Nat.div_lt_iff_lt_mul (by decide), Nat.mul_comm (2 ^ s)]
    exact hT
  · show (if j = b + (q + t) then _ else o j) < _
    split
    · exact Nat.mod_lt _ (by decide)
    · exact h4 j
  · show (if j = b + (q + t) then _ else o j) = _
    rw [if_neg (by omega)]
    exact h5 j hj
/-- What put has done, when nothing is carried any more. -/
theorem PutI.done {o0 o : Nat → Nat} {b q s V t : Nat} (h : PutI o0 o b q s V 0 0 t) (hV : V < 340282366920938463463374607431768211456) (ht : 4 ≤ t) : natF (seg b o) 134 = natF (seg b o0) 134 + V * 2 ^ (32 * q + s) ∧ (∀ j, o j < 4294967296) ∧ ∀ j, (j < b ∨ b + 134 ≤ j) → o j = o0 j := by
  obtain ⟨h1, _, _, h4, h5⟩ := h
  have hp : (340282366920938463463374607431768211456 : Nat) ≤ 4294967296 ^ t := by
    have : (4294967296 : Nat) ^ 4 ≤ 4294967296 ^ t := Nat.pow_le_pow_right (by decide) ht
    have e : (4294967296 : Nat) ^ 4 = 340282366920938463463374607431768211456 := by decide
    omega
  rw [Nat.mod_eq_of_lt (Nat.lt_of_lt_of_le hV hp), Nat.add_zero, Nat.mul_zero, Nat.add_zero, pow32, Nat.mul_left_comm, ← Nat.pow_add] at h1
  exact ⟨h1, h4, h5⟩
theorem PutI.last {o0 o : Nat → Nat} {b q s V c U t : Nat} (h : PutI o0 o b q s V c U t) (ht : q + t = 134) (hlt : natF (seg b o0) 134 + V * 2 ^ (32 * q + s) < 4294967296 ^ 134) : natF (seg b o) 134 = natF (seg b o0) 134 + V * 2 ^ (32 * q + s) ∧ (∀ j, o j < 4294967296) ∧ ∀ j, (j < b ∨ b + 134 ≤ j) → o j = o0 j := by
  obtain ⟨h1, _, _, h4, h5⟩ := h
  have e0 : V * 2 ^ (32 * q + s) = 4294967296 ^ q * (V * 2 ^ s) := by rw [pow32, Nat.mul_left_comm, ← Nat.pow_add]
  have hVt : V < 4294967296 ^ t := by
    apply Classical.byContradiction
    intro hc
    have a1 : 4294967296 ^ t ≤ V := by omega
    have a2 : 4294967296 ^ q * 4294967296 ^ t ≤ 4294967296 ^ q * (V * 2 ^ s) := Nat.mul_le_mul_left _ (Nat.le_trans a1 (Nat.le_mul_of_pos_right _ (Nat.two_pow_pos s)))
    rw [← Nat.pow_add, ht] at a2
    omega
  rw [Nat.mod_eq_of_lt hVt, ht, ← e0] at h1
  have hcu : c + U = 0 := by
    apply Classical.byContradiction
    intro hc
    have : 4294967296 ^ 134 * 1 ≤ 4294967296 ^ 134 * (c + U) := Nat.mul_le_mul_left _ (by omega)
    omega
  rw [hcu, Nat.mul_zero, Nat.add_zero] at h1
  exact ⟨h1, h4, h5⟩
end Go.Proofs.YtehnkgonhgjeiaaGreatDoor
