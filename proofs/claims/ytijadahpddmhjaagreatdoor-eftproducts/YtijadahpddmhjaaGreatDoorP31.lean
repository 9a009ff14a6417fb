
/- What partsOf and Parts do with every number. -/
import Derived.Test.YtijadahpddmhjaaGreatDoorP30
import Derived.Test.YtijadahpddmhjaaGreatDoorP2
namespace Go.Proofs.YtijadahpddmhjaaGreatDoor
open Go.RowKit Go.IntWalk

set_option maxHeartbeats 400000 in
theorem partsOf_sub (x : Nat) (w : World) (hx : x < 18446744073709551616) (he : expOf x = 0) (hfz : fracOf x ≠ 0) (hT : Tab w) (hs : 2 < w.heap.size) :
    Calls Tryz.prog 113 #[.agg #[.int .i64 52, .int .u64 4503599627370495, .int .u64 2047, .int .u64 9223372036854775808, .int .u64 9218868437227405312, .int .u64 9221120237041090561, .int .i64 1075], .int .u64 x] w fun r w' => r = .returned (.tuple #[.agg #[.bool (negOf x), .int .u64 ((mantOf x / 2 ^ tzOf (mantOf x) : Nat) : Int), .int .i64 ((tzOf (mantOf x) : Int) - 1074)], .int .i64 0]) ∧ Below w.heap.size w w' := by
  have HE : Hid (expOf x = 0) := he
  have hmf : mantOf x = fracOf x := by unfold mantOf; rw [if_neg (by omega)]
  have HMF : Hid (fracOf x = mantOf x) := hmf.symm
  have hne0 : ((mantOf x : Int) == 0) = false := by rw [hmf]; simpa using hfz
  have hml : mantOf x < 18446744073709551616 := by have := mant_lt x; omega
  have hm0 : mantOf x ≠ 0 := by rw [hmf]; exact hfz
  have htz : (tzOf (mantOf x) : Int) ≤ 63 := by have := (tz_spec (mantOf x) hm0 hml).1; omega
  have HML : Hid (mantOf x < 18446744073709551616) := hml
  clear hml hm0 he hmf hfz
  go_enter Tryz.func113, Tryz.ntmps113
  go_wp2_with fail
  refine (split64_any x _ hx).mono ?_
  rw [HE.out, HMF.out]
  rintro e w1 ⟨rfl, hb⟩
  obtain ⟨hc, hf⟩ := bcell hb
  have hz : w.heap.size + 1 < w1.heap.size := by have := hb.size; simp at this; omega
  have hT1 : Tab w1 := hT.below hs (bl_alloc2 hb)
  have hcells : (w1.cell? ⟨w.heap.size, 0, none⟩ = some (.int .i64 52) ∧ w1.cell? ⟨w.heap.size, 1, none⟩ = some (.int .u64 4503599627370495) ∧ w1.cell? ⟨w.heap.size, 2, none⟩ = some (.int .u64 2047) ∧ w1.cell? ⟨w.heap.size, 3, none⟩ = some (.int .u64 9223372036854775808) ∧ w1.cell? ⟨w.heap.size, 4, none⟩ = some (.int .u64 9218868437227405312) ∧ w1.cell? ⟨w.heap.size, 5, none⟩ = some (.int .u64 9221120237041090561) ∧ w1.cell? ⟨w.heap.size, 6, none⟩ = some (.int .i64 1075)) := by
    refine ⟨?_, ?_, ?_, ?_, ?_, ?_, ?_⟩ <;> (rw [hc _ _ (by simp; omega)]; simp [go_sem])
  obtain ⟨q0, q1, q2, q3, q4, q5, q6⟩ := hcells
  have hr : w1.cell? ⟨w.heap.size + 1, 0, none⟩ = some (.bool false) ∧ w1.cell? ⟨w.heap.size + 1, 1, none⟩ = some (.int .u64 0) ∧ w1.cell? ⟨w.heap.size + 1, 2, none⟩ = some (.int .i64 0) := by
    refine ⟨?_, ?_, ?_⟩ <;> (rw [hc _ _ (by simp)]; simp [go_sem])
  obtain ⟨r0, r1, r2⟩ := hr
  have hfz : ∀ (o : Obj) (i : Nat), (w1.alloc o).frozen? ⟨w.heap.size + 1, i, none⟩ = false := fun o i => by
    rw [((Below.refl w1.heap.size w1).alloc (Nat.le_refl _) o).frozen (p := ⟨w.heap.size + 1, i, none⟩) hz, hf _ _ (by simp)]; simp [go_sem]
  go_wp2_with fail
  refine (tz_any (mantOf x) _ HML.out hT1).mono ?_
  rintro e w2 ⟨rfl, rfl⟩
  go_wp2_with fail
  go_region_held3 (fun w' => (w'.cell? ⟨w.heap.size, 0, none⟩ = some (.int .i64 52) ∧ w'.cell? ⟨w.heap.size, 1, none⟩ = some (.int .u64 4503599627370495) ∧ w'.cell? ⟨w.heap.size, 2, none⟩ = some (.int .u64 2047) ∧ w'.cell? ⟨w.heap.size, 3, none⟩ = some (.int .u64 9223372036854775808) ∧ w'.cell? ⟨w.heap.size, 4, none⟩ = some (.int .u64 9218868437227405312) ∧ w'.cell? ⟨w.heap.size, 5, none⟩ = some (.int .u64 9221120237041090561) ∧ w'.cell? ⟨w.heap.size, 6, none⟩ = some (.int .i64 1075))) (go_keep)
    (first | (go_at_call 122; refine (lowest0 _).mono ?_; rintro e w' ⟨rfl, rfl⟩))
  go_wp2
  refine bodyPost_ret (v := .tuple #[.agg #[.bool (negOf x), .int .u64 ((mantOf x : Int) / 2 ^ tzOf (mantOf x)), .int .i64 (IntKind.i64.wrap (-1074 + (tzOf (mantOf x) : Int)))], .int .i64 0]) (by simp [results, Tryz.results113, go_sem, hz, r0, r1, r2]) rfl ⟨?_, ?_⟩
  · rw [IntWalk.i64_in _ (by omega)]
    exact ret_parts rfl (by rw [Int.natCast_ediv, Int.natCast_pow]; rfl) (by omega) rfl
  · exact Below.drew (Below.alloc (Below.setCell (Below.setCell (Below.setCell (bl_alloc2 hb) (by simp) _) (by simp) _) (by simp) _) (by simp; omega) _)

theorem partsOf_any (x : Nat) (w : World) (hx : x < 18446744073709551616) (hT : Tab w) (hs : 2 < w.heap.size) :
    Calls Tryz.prog 113 #[.agg #[.int .i64 52, .int .u64 4503599627370495, .int .u64 2047, .int .u64 9223372036854775808, .int .u64 9218868437227405312, .int .u64 9221120237041090561, .int .i64 1075], .int .u64 x] w fun r w' => r = .returned (.tuple #[.agg #[.bool (pNeg x), .int .u64 (pMant x), .int .i64 (pExp x)], .int .i64 (pErr x)]) ∧ Below w.heap.size w w' := by
  unfold pNeg pMant pExp pErr
  by_cases h1 : expOf x = 2047
  · rw [if_pos h1, if_pos h1, if_pos (Or.inl h1), if_pos h1]; exact partsOf_bad x w hx h1
  · rw [if_neg h1, if_neg h1, if_neg h1]
    have hl := exp_lt x
    by_cases h2 : expOf x = 0
    · have hmf : mantOf x = fracOf x := by unfold mantOf; rw [if_neg (by omega)]
      by_cases h3 : fracOf x = 0
      · rw [if_pos (Or.inr (hmf.trans h3)), hmf, h3, odd_zero]; exact partsOf_zero x w hx h2 h3
      · rw [if_neg (by rw [hmf]; omega)]
        refine (partsOf_sub x w hx h2 h3 hT hs).mono ?_
        rintro r w' ⟨rfl, hb⟩
        exact ⟨ret_parts rfl rfl (by rw [h2]; omega) rfl, hb⟩
    · rw [if_neg (by have : mantOf x ≠ 0 := by unfold mantOf; rw [if_pos (by omega)]; omega
                     omega)]
      refine (partsOf_norm x w hx (by omega) (by omega) hT hs).mono ?_
      rintro r w' ⟨rfl, hb⟩
      exact ⟨ret_parts rfl rfl (by omega) rfl, hb⟩

set_option maxHeartbeats 400000 in
theorem Parts_any (x : Nat) (w : World) (hx : x < 18446744073709551616) (hT : Tab w) (hs : 2 < w.heap.size) :
    Calls Tryz.prog 107 #[.float .f64 x] w fun r w' => r = .returned (.tuple #[.agg #[.bool (pNeg x), .int .u64 (pMant x), .int .i64 (pExp x)], .int .i64 (pErr x)]) ∧ Below w.heap.size w w' := by
  have h1 := f64bits
  go_enter Tryz.func107, Tryz.ntmps107
  go_wp2_with fail
  refine (layout64_any _).mono ?_
  rintro r w1 ⟨rfl, hb⟩
  go_wp2_with fail
  refine (partsOf_any x _ hx (hT.below hs (bl_alloc hb)) (by have := hb.size; simp at this; omega)).mono ?_
  rintro r w2 ⟨rfl, hb2⟩
  obtain ⟨hc, hf⟩ := bcell hb
  obtain ⟨hc2, hf2⟩ := bcell hb2
  have hz : w.heap.size < w1.heap.size := by have := hb.size; simp at this; omega
  have hz2 : w.heap.size < w2.heap.size := Nat.lt_of_lt_of_le hz hb2.size
  have hr : w2.cell? ⟨w.heap.size, 0, none⟩ = some (.bool false) ∧ w2.cell? ⟨w.heap.size, 1, none⟩ = some (.int .u64 0) ∧ w2.cell? ⟨w.heap.size, 2, none⟩ = some (.int .i64 0) := by
    refine ⟨?_, ?_, ?_⟩ <;> (rw [hc2 _ _ hz, hc _ _ (by simp)]; simp [go_sem])
  have hfz : ∀ i, w2.frozen? ⟨w.heap.size, i, none⟩ = false := fun i => by rw [hf2 _ _ hz, hf _ _ (by simp)]; simp [go_sem]
  obtain ⟨r0, r1, r2⟩ := hr
  have hbb : Hid (Below w.heap.size w w2) := bl_then (bl_alloc hb) hb2
  clear hc hf hc2 hf2 hb hb2
  obtain ⟨N, HN⟩ : ∃ N, Hid (pNeg x = N) := ⟨_, rfl⟩
  obtain ⟨M, HM⟩ : ∃ M, Hid (pMant x = M) := ⟨_, rfl⟩
  obtain ⟨E, HE⟩ : ∃ E, Hid (pExp x = E) := ⟨_, rfl⟩
  obtain ⟨R, HR⟩ : ∃ R, Hid (pErr x = R) := ⟨_, rfl⟩
  rw [HN.out, HM.out, HE.out, HR.out]
  go_wp2_with fail
  refine bodyPost_ret (v := .tuple #[.agg #[.bool N, .int .u64 M, .int .i64 E], .int .i64 R]) (by simp [results, Tryz.results107, go_sem, r0, r1, r2]) rfl ⟨by rw [HN.out, HM.out, HE.out, HR.out], ?_⟩
  repeat (first | exact hbb.out | refine Below.setCell ?_ (by simp) _)
end Go.Proofs.YtijadahpddmhjaaGreatDoor

namespace Go.Proofs.YtijadahpddmhjaaGreatDoor
open Go.RowKit Go.IntWalk

theorem trim_words (n b : Nat) (w : World) (hn : n < 18446744073709551616) (h0 : w.cell? ⟨b, 0, none⟩ = some (.int .u32 (loW n))) (h1 : w.cell? ⟨b, 1, none⟩ = some (.int .u32 (hiW n))) :
    Calls Tryz.prog 108 #[.slice (some ⟨b, 0, none⟩) 2 2] w fun r w' => r = .returned (.slice (some ⟨b, 0, none⟩) (numW n) 2) ∧ w' = w := by
  refine (trim_some [loW n, hiW n] b 0 2 w (fun i hi => ?_) (show 2 ≤ 2 by decide) (show 2 ≤ 1099511627776 by decide)).mono ?_
  · have hi2 : i < 2 := hi
    rw [Nat.zero_add]
    rcases (show i = 0 ∨ i = 1 by omega) with rfl | rfl
    · exact h0
    · exact h1
  · rintro r w' ⟨⟨k, hk, rfl, hv, he⟩, rfl⟩
    have : k = numW n := end_unique _ k (numW n) (words_dig n hn) hk (by unfold numW; split <;> (try split) <;> simp) hv ((natL_words n).2.trans (natL_words n).1.symm) he (words_end n)
    exact ⟨by rw [this], rfl⟩
theorem mag_words (n b : Nat) (w : World) (h0 : w.cell? ⟨b, 0, none⟩ = some (.int .u32 (loW n))) (h1 : w.cell? ⟨b, 1, none⟩ = some (.int .u32 (hiW n))) : MagAt w (some ⟨b, 0, none⟩) ([loW n, hiW n].take (numW n)) := by
  apply MagAt.take
  intro i hi
  have hi2 : i < 2 := hi
  refine ⟨b, 0, rfl, World.block_lt_of_cell? w _ h0, ?_⟩
  rw [Nat.zero_add]
  rcases (show i = 0 ∨ i = 1 by omega) with rfl | rfl
  · exact h0
  · exact h1
theorem numW_le (n : Nat) : numW n ≤ 2 := by unfold numW; split <;> (try split) <;> omega
theorem words_take (n : Nat) (hn : n < 18446744073709551616) : DigL ([loW n, hiW n].take (numW n)) ∧ CanL ([loW n, hiW n].take (numW n)) ∧ ([loW n, hiW n].take (numW n)).length = numW n ∧ natL ([loW n, hiW n].take (numW n)) = n := by
  obtain ⟨hc, hl⟩ := can_take [loW n, hiW n] (numW n) (numW_le n) (words_end n)
  exact ⟨(words_dig n hn).take _, hc, hl, (natL_words n).2⟩
def sgnN (neg : Bool) (n : Nat) : Int := if neg = true then -(n : Int) else n
/-- written of a number's words. -/
theorem written_words (neg : Bool) (n b : Nat) (e : Int) (w : World) (hn : n < 18446744073709551616) (h0 : w.cell? ⟨b, 0, none⟩ = some (.int .u32 (loW n))) (h1 : w.cell? ⟨b, 1, none⟩ = some (.int .u32 (hiW n))) (he1 : -100000 ≤ e) (he2 : e ≤ 99000) (hT : Tab32 w) (hs : 1 < w.heap.size) :
    Calls Tryz.prog 110 #[.bool neg, .slice (some ⟨b, 0, none⟩) (numW n) 2, .int .i64 e] w fun r w' => DyOut (sgnN neg n) e w.heap.size r w' ∧ Below w.heap.size w w' := by
  obtain ⟨d1, d2, d3, d4⟩ := words_take n hn
  have hk := numW_le n
  have := written_any neg ([loW n, hiW n].take (numW n)) (some ⟨b, 0, none⟩) 2 e w (mag_words n b w h0 h1) d1 d2 (by rw [d3]; exact hk) (by rw [d3]; omega) he1 (by rw [d3]; omega) hT hs
  rw [d3] at this
  have e1 : intL neg ([loW n, hiW n].take (numW n)) = sgnN neg n := by unfold intL sgnN; rw [d4]
  rw [e1] at this
  exact this
theorem DyOut.but {z e : Int} {B B' y : Nat} {r : Ending} {w w' : World} (h : DyOut z e B r w) (hb : But y w w') (hy : y < B) (hB : B' ≤ B) : DyOut z e B' r w' := by
  obtain ⟨neg, L, a, cap, e', rfl, h1, h2, h3, h4, h5⟩ := h
  exact ⟨neg, L, a, cap, e', rfl, h1, h2.but hb (fun b off hp _ => by have := (h5 _ hp).1; simp at this; omega), h3, h4, fun p hp => ⟨Nat.le_trans hB (h5 p hp).1, (h5 p hp).2.of_block (hb.block _ (h5 p hp).2.lt (by have := (h5 p hp).1; omega))⟩⟩
/-- A dyad with its error, told by letters. -/
def DyRet (z e : Int) (B : Nat) (neg : Bool) (a : Option Addr) (n cap : Nat) (e' : Int) (w' : World) : Prop := DyOut z e B (.returned (.tuple #[.agg #[.bool neg, .slice a n cap, .int .i64 e'], .int .i64 0])) w'
theorem DyOut.ret {z e : Int} {B : Nat} {r : Ending} {w' : World} (h : DyOut z e B r w') : ∃ neg a n cap e', r = .returned (.tuple #[.agg #[.bool neg, .slice a n cap, .int .i64 e'], .int .i64 0]) ∧ DyRet z e B neg a n cap e' w' := by
  obtain ⟨neg, L, a, cap, e', rfl, h1⟩ := h
  exact ⟨neg, a, L.length, cap, e', rfl, neg, L, a, cap, e', rfl, h1⟩
/-- What stays while an answer is made: all but its own place, where three cells lie. -/
structure Res (z : Nat) (W1 W : World) : Prop where
  but : But z W1 W
  cells : ∃ v0 v1 v2, W.heap[z]? = some (.cells #[v0, v1, v2] 86)
theorem Res.facts {z : Nat} {W1 W : World} (h : Res z W1 W) : (∀ o, W.frozen? ⟨z, o, none⟩ = false) ∧ z < W.heap.size ∧ ∃ v0 v1 v2, W.cell? ⟨z, 0, none⟩ = some v0 ∧ W.cell? ⟨z, 1, none⟩ = some v1 ∧ W.cell? ⟨z, 2, none⟩ = some v2 := by
  obtain ⟨v0, v1, v2, h⟩ := h.cells
  exact ⟨fun o => by simp [World.frozen?, h], (Array.getElem?_eq_some_iff.1 h).1, v0, v1, v2, by simp [World.cell?, h], by simp [World.cell?, h], by simp [World.cell?, h]⟩
theorem Res.call {z : Nat} {W1 W W' : World} (h : Res z W1 W) (hb : Below W.heap.size W W') : Res z W1 W' := by
  refine ⟨h.but.trans (But.of_below hb), ?_⟩
  have hz := h.facts.2.1
  obtain ⟨v0, v1, v2, hc⟩ := h.cells
  exact ⟨v0, v1, v2, by rw [hb.block z hz]; exact hc⟩
theorem res_al {z : Nat} {W1 W : World} (h : Hid (Res z W1 W)) (o : Obj) : Hid (Res z W1 (W.alloc o)) := Res.call h.out ((Below.refl _ _).alloc (Nat.le_refl _) _)
theorem res_dr {z : Nat} {W1 W : World} (h : Hid (Res z W1 W)) : Hid (Res z W1 W.drew) := Res.call h.out (Below.refl _ _).drew
theorem res_store {z : Nat} {W1 W : World} (h : Hid (Res z W1 W)) (a b c : Value) : Hid (Res z W1 (((W.setCell ⟨z, 0, none⟩ a).setCell ⟨z, 1, none⟩ b).setCell ⟨z, 2, none⟩ c)) := by
  refine Res.mk (But.setCell (But.setCell (But.setCell h.out.but 0 a) 1 b) 2 c) ?_
  obtain ⟨v0, v1, v2, hc⟩ := h.out.cells
  refine ⟨a, b, c, ?_⟩
  simp [World.setCell, Array.getElem?_modify, hc]
theorem DyOut.low {z e : Int} {B : Nat} {r : Ending} {w' : World} (h : DyOut z e B r w') (k : Nat) : DyOut (z * 2 ^ k) (e - k) B r w' := by
  obtain ⟨neg, L, a, cap, e', rfl, h1, h2, h3, h4, h5⟩ := h
  exact ⟨neg, L, a, cap, e', rfl, h1, h2, h3.low k, h4, h5⟩
end Go.Proofs.YtijadahpddmhjaaGreatDoor
