
/- What dyad's Of does: a number, exactly. -/
import Derived.Test.YteidllapjokhlaaDoorDyH
import Derived.Test.YteidllapjokhlaaDoorPartsAll
namespace Go.Proofs.YteidllapjokhlaaDoor
open Go.RowKit Go.IntWalk

theorem trim_words (n b : Nat) (w : World) (hn : n < 18446744073709551616) (h0 : w.cell? ⟨b, 0, none⟩ = some (.int .u32 (loW n))) (h1 : w.cell? ⟨b, 1, none⟩ = some (.int .u32 (hiW n))) :
    Calls Tryd.prog 76 #[.slice (some ⟨b, 0, none⟩) 2 2] w fun r w' => r = .returned (.slice (some ⟨b, 0, none⟩) (numW n) 2) ∧ w' = w := by
  refine (trim_some [loW n, hiW n] b 0 2 w (fun i hi => ?_) (show 2 ≤ 2 by decide) (show 2 ≤ 1099511627776 by decide)).mono ?_
  · have hi2 : i < 2 := hi
    rw [Nat.zero_add]
    rcases (show i = 0 ∨ i = 1 by omega) with rfl | rfl
    · exact h0
    · exact h1
  · rintro r w' ⟨⟨k, hk, rfl, hv, he⟩, rfl⟩
    have : k = numW n := end_unique _ k (numW n) (words_dig n hn) hk (by unfold numW; split <;> (try split) <;> simp) hv ((natL_words n).2.trans (natL_words n).1.symm) he (words_end n)
    exact ⟨by rw [this], rfl⟩
theorem mag_words (n b : Nat) (w : World) (h0 : w.cell? ⟨b, 0, none⟩ = some (.int .u32 (loW n))) (h1 : w.cell? ⟨b, 1, none⟩ = some (.int .u32 (hiW n))) : MagAt w (some ⟨b, 0, none⟩) ([loW n, hiW n].take (numW n)) := by
  apply MagAt.take
  intro i hi
  have hi2 : i < 2 := hi
  refine ⟨b, 0, rfl, World.block_lt_of_cell? w _ h0, ?_⟩
  rw [Nat.zero_add]
  rcases (show i = 0 ∨ i = 1 by omega) with rfl | rfl
  · exact h0
  · exact h1
theorem numW_le (n : Nat) : numW n ≤ 2 := by unfold numW; split <;> (try split) <;> omega
theorem words_take (n : Nat) (hn : n < 18446744073709551616) : DigL ([loW n, hiW n].take (numW n)) ∧ CanL ([loW n, hiW n].take (numW n)) ∧ ([loW n, hiW n].take (numW n)).length = numW n ∧ natL ([loW n, hiW n].take (numW n)) = n := by
  obtain ⟨hc, hl⟩ := can_take [loW n, hiW n] (numW n) (numW_le n) (words_end n)
  exact ⟨(words_dig n hn).take _, hc, hl, (natL_words n).2⟩
def sgnN (neg : Bool) (n : Nat) : Int := if neg = true then -(n : Int) else n
/-- written of a number's words. -/
theorem written_words (neg : Bool) (n b : Nat) (e : Int) (w : World) (hn : n < 18446744073709551616) (h0 : w.cell? ⟨b, 0, none⟩ = some (.int .u32 (loW n))) (h1 : w.cell? ⟨b, 1, none⟩ = some (.int .u32 (hiW n))) (he1 : -100000 ≤ e) (he2 : e ≤ 99000) (hT : Tab32 w) (hs : 1 < w.heap.size) :
    Calls Tryd.prog 78 #[.bool neg, .slice (some ⟨b, 0, none⟩) (numW n) 2, .int .i64 e] w fun r w' => DyOut (sgnN neg n) e w.heap.size r w' ∧ Below w.heap.size w w' := by
  obtain ⟨d1, d2, d3, d4⟩ := words_take n hn
  have hk := numW_le n
  have := written_any neg ([loW n, hiW n].take (numW n)) (some ⟨b, 0, none⟩) 2 e w (mag_words n b w h0 h1) d1 d2 (by rw [d3]; exact hk) (by rw [d3]; omega) he1 (by rw [d3]; omega) hT hs
  rw [d3] at this
  have e1 : intL neg ([loW n, hiW n].take (numW n)) = sgnN neg n := by unfold intL sgnN; rw [d4]
  rw [e1] at this
  exact this
theorem DyOut.but {z e : Int} {B B' y : Nat} {r : Ending} {w w' : World} (h : DyOut z e B r w) (hb : But y w w') (hy : y < B) (hB : B' ≤ B) : DyOut z e B' r w' := by
  obtain ⟨neg, L, a, cap, e', rfl, h1, h2, h3, h4, h5⟩ := h
  exact ⟨neg, L, a, cap, e', rfl, h1, h2.but hb (fun b off hp _ => by have := (h5 _ hp).1; simp at this; omega), h3, h4, fun p hp => ⟨Nat.le_trans hB (h5 p hp).1, (h5 p hp).2.of_block (hb.block _ (h5 p hp).2.lt (by have := (h5 p hp).1; omega))⟩⟩
/-- A dyad with its error, told by letters. -/
def DyRet (z e : Int) (B : Nat) (neg : Bool) (a : Option Addr) (n cap : Nat) (e' : Int) (w' : World) : Prop := DyOut z e B (.returned (.tuple #[.agg #[.bool neg, .slice a n cap, .int .i64 e'], .int .i64 0])) w'
theorem DyOut.ret {z e : Int} {B : Nat} {r : Ending} {w' : World} (h : DyOut z e B r w') : ∃ neg a n cap e', r = .returned (.tuple #[.agg #[.bool neg, .slice a n cap, .int .i64 e'], .int .i64 0]) ∧ DyRet z e B neg a n cap e' w' := by
  obtain ⟨neg, L, a, cap, e', rfl, h1⟩ := h
  exact ⟨neg, a, L.length, cap, e', rfl, neg, L, a, cap, e', rfl, h1⟩
/-- What stays while an answer is made: all but its own place, where three cells lie. -/
structure Res (z : Nat) (W1 W : World) : Prop where
  but : But z W1 W
  cells : ∃ v0 v1 v2, W.heap[z]? = some (.cells #[v0, v1, v2] 57)
theorem Res.facts {z : Nat} {W1 W : World} (h : Res z W1 W) : (∀ o, W.frozen? ⟨z, o, none⟩ = false) ∧ z < W.heap.size ∧ ∃ v0 v1 v2, W.cell? ⟨z, 0, none⟩ = some v0 ∧ W.cell? ⟨z, 1, none⟩ = some v1 ∧ W.cell? ⟨z, 2, none⟩ = some v2 := by
  obtain ⟨v0, v1, v2, h⟩ := h.cells
  exact ⟨fun o => by simp [World.frozen?, h], (Array.getElem?_eq_some_iff.1 h).1, v0, v1, v2, by simp [World.cell?, h], by simp [World.cell?, h], by simp [World.cell?, h]⟩
theorem Res.call {z : Nat} {W1 W W' : World} (h : Res z W1 W) (hb : Below W.heap.size W W') : Res z W1 W' := by
  refine ⟨h.but.trans (But.of_below hb), ?_⟩
  have hz := h.facts.2.1
  obtain ⟨v0, v1, v2, hc⟩ := h.cells
  exact ⟨v0, v1, v2, by rw [hb.block z hz]; exact hc⟩
theorem res_al {z : Nat} {W1 W : World} (h : Hid (Res z W1 W)) (o : Obj) : Hid (Res z W1 (W.alloc o)) := Res.call h.out ((Below.refl _ _).alloc (Nat.le_refl _) _)
theorem res_dr {z : Nat} {W1 W : World} (h : Hid (Res z W1 W)) : Hid (Res z W1 W.drew) := Res.call h.out (Below.refl _ _).drew
theorem res_store {z : Nat} {W1 W : World} (h : Hid (Res z W1 W)) (a b c : Value) : Hid (Res z W1 (((W.setCell ⟨z, 0, none⟩ a).setCell ⟨z, 1, none⟩ b).setCell ⟨z, 2, none⟩ c)) := by
  refine Res.mk (But.setCell (But.setCell (But.setCell h.out.but 0 a) 1 b) 2 c) ?_
  obtain ⟨v0, v1, v2, hc⟩ := h.out.cells
  refine ⟨a, b, c, ?_⟩
  simp [World.setCell, Array.getElem?_modify, hc]
theorem DyOut.low {z e : Int} {B : Nat} {r : Ending} {w' : World} (h : DyOut z e B r w') (k : Nat) : DyOut (z * 2 ^ k) (e - k) B r w' := by
  obtain ⟨neg, L, a, cap, e', rfl, h1, h2, h3, h4, h5⟩ := h
  exact ⟨neg, L, a, cap, e', rfl, h1, h2, h3.low k, h4, h5⟩
end Go.Proofs.YteidllapjokhlaaDoor
