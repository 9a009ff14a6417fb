
/- What dyad's Of does: a number, exactly. -/
import Derived.Test.YtphdinjmkhefmaaGreatDoorP29
import Derived.Test.YtphdinjmkhefmaaGreatDoorP25
namespace Go.Proofs.YtphdinjmkhefmaaGreatDoor
open Go.RowKit Go.IntWalk

theorem trim_words (n b : Nat) (w : World) (hn : n < 18446744073709551616) (h0 : w.cell? ⟨b, 0, none⟩ = some (.int .u32 (loW n))) (h1 : w.cell? ⟨b, 1, none⟩ = some (.int .u32 (hiW n))) :
    Calls Tryz.prog 30 #[.slice (some ⟨b, 0, none⟩) 2 2] w fun r w' => r = .returned (.slice (some ⟨b, 0, none⟩) (numW n) 2) ∧ w' = w := by
  refine (trim_some [loW n, hiW n] b 0 2 w (fun i hi => ?_) (show 2 ≤ 2 by decide) (show 2 ≤ 1099511627776 by decide)).mono ?_
  · have hi2 : i < 2 := hi
    rw [Nat.zero_add]
    rcases (show i = 0 ∨ i = 1 by omega) with rfl | rfl
    · exact h0
    · exact h1
  · rintro r w' ⟨⟨k, hk, rfl, hv, he⟩, rfl⟩
    have : k = numW n := end_unique _ k (numW n) (words_dig n hn) hk (by unfold numW; split <;> (try split) <;> simp) hv ((natL_words n).2.trans (natL_words n).1.symm) he (words_end n)
    exact ⟨by rw [this], rfl⟩
theorem mag_words (n b : Nat) (w : World) (h0 : w.cell? ⟨b, 0, none⟩ = some (.int .u32 (loW n))) (h1 : w.cell? ⟨b, 1, none⟩ = some (.int .u32 (hiW n))) : MagAt w (some ⟨b, 0, none⟩) ([loW n, hiW n].take (numW n)) := by
  apply MagAt.take
  intro i hi
  have hi2 : i < 2 := hi
  refine ⟨b, 0, rfl, World.block_lt_of_cell? w _ h0, ?_⟩
  rw [Nat.zero_add]
  rcases (show i = 0 ∨ i = 1 by omega) with rfl | rfl
  · exact h0
  · exact h1
theorem numW_le (n : Nat) : numW n ≤ 2 := by unfold numW; split <;> (try split) <;> omega
theorem words_take (n : Nat) (hn : n < 18446744073709551616) : DigL ([loW n, hiW n].take (numW n)) ∧ CanL ([loW n, hiW n].take (numW n)) ∧ ([loW n, hiW n].take (numW n)).length = numW n ∧ natL ([loW n, hiW n].take (numW n)) = n := by
  obtain ⟨hc, hl⟩ := can_take [loW n, hiW n] (numW n) (numW_le n) (words_end n)
  exact ⟨(words_dig n hn).take _, hc, hl, (natL_words n).2⟩
def sgnN (neg : Bool) (n : Nat) : Int := if neg = true then -(n : Int) else n
/-- written of a number's words. -/
theorem written_words (neg : Bool) (n b : Nat) (e : Int) (w : World) (hn : n < 18446744073709551616) (h0 : w.cell? ⟨b, 0, none⟩ = some (.int .u32 (loW n))) (h1 : w.cell? ⟨b, 1, none⟩ = some (.int .u32 (hiW n))) (he1 : -100000 ≤ e) (he2 : e ≤ 99000) (hT : Tab32 w) (hs : 1 < w.heap.size) :
    Calls Tryz.prog 32 #[.bool neg, .slice (some ⟨b, 0, none⟩) (numW n) 2, .int .i64 e] w fun r w' => DyOut (sgnN neg n) e w.heap.size r w' ∧ Below w.heap.size w w' := by
  obtain ⟨d1, d2, d3, d4⟩ := words_take n hn
  have hk := numW_le n
  have := written_any neg ([loW n, hiW n].take (numW n)) (some ⟨b, 0, none⟩) 2 e w (mag_words n b w h0 h1) d1 d2 (by rw [d3]; exact hk) (by rw [d3]; omega) he1 (by rw [d3]; omega) hT hs
  rw [d3] at this
  have e1 : intL neg ([loW n, hiW n].take (numW n)) = sgnN neg n := by unfold intL sgnN; rw [d4]
  rw [e1] at this
  exact this
theorem DyOut.but {z e : Int} {B B' y : Nat} {r : Ending} {w w' : World} (h : DyOut z e B r w) (hb : But y w w') (hy : y < B) (hB : B' ≤ B) : DyOut z e B' r w' := by
  obtain ⟨neg, L, a, cap, e', rfl, h1, h2, h3, h4, h5⟩ := h
  exact ⟨neg, L, a, cap, e', rfl, h1, h2.but hb (fun b off hp _ => by have := (h5 _ hp).1; simp at this; omega), h3, h4, fun p hp => ⟨Nat.le_trans hB (h5 p hp).1, (h5 p hp).2.of_block (hb.block _ (h5 p hp).2.lt (by have := (h5 p hp).1; omega))⟩⟩
/-- A dyad with its error, told by letters. -/
def DyRet (z e : Int) (B : Nat) (neg : Bool) (a : Option Addr) (n cap : Nat) (e' : Int) (w' : World) : Prop := DyOut z e B (.returned (.tuple #[.agg #[.bool neg, .slice a n cap, .int .i64 e'], .int .i64 0])) w'
theorem DyOut.ret {z e : Int} {B : Nat} {r : Ending} {w' : World} (h : DyOut z e B r w') : ∃ neg a n cap e', r = .returned (.tuple #[.agg #[.bool neg, .slice a n cap, .int .i64 e'], .int .i64 0]) ∧ DyRet z e B neg a n cap e' w' := by
  obtain ⟨neg, L, a, cap, e', rfl, h1⟩ := h
  exact ⟨neg, a, L.length, cap, e', rfl, neg, L, a, cap, e', rfl, h1⟩
/-- What stays while an answer is made: all but its own place, where three cells lie. -/
structure Res (z : Nat) (W1 W : World) : Prop where
  but : But z W1 W
  cells : ∃ v0 v1 v2, W.heap[z]? = some (.cells #[v0, v1, v2] 27)
theorem Res.facts {z : Nat} {W1 W : World} (h : Res z W1 W) : (∀ o, W.frozen? ⟨z, o, none⟩ = false) ∧ z < W.heap.size ∧ ∃ v0 v1 v2, W.cell? ⟨z, 0, none⟩ = some v0 ∧ W.cell? ⟨z, 1, none⟩ = some v1 ∧ W.cell? ⟨z, 2, none⟩ = some v2 := by
  obtain ⟨v0, v1, v2, h⟩ := h.cells
  exact ⟨fun o => by simp [World.frozen?, h], (Array.getElem?_eq_some_iff.1 h).1, v0, v1, v2, by simp [World.cell?, h], by simp [World.cell?, h], by simp [World.cell?, h]⟩
theorem Res.call {z : Nat} {W1 W W' : World} (h : Res z W1 W) (hb : Below W.heap.size W W') : Res z W1 W' := by
  refine ⟨h.but.trans (But.of_below hb), ?_⟩
  have hz := h.facts.2.1
  obtain ⟨v0, v1, v2, hc⟩ := h.cells
  exact ⟨v0, v1, v2, by rw [hb.block z hz]; exact hc⟩
theorem res_al {z : Nat} {W1 W : World} (h : Hid (Res z W1 W)) (o : Obj) : Hid (Res z W1 (W.alloc o)) := Res.call h.out ((Below.refl _ _).alloc (Nat.le_refl _) _)
theorem res_dr {z : Nat} {W1 W : World} (h : Hid (Res z W1 W)) : Hid (Res z W1 W.drew) := Res.call h.out (Below.refl _ _).drew
theorem res_store {z : Nat} {W1 W : World} (h : Hid (Res z W1 W)) (a b c : Value) : Hid (Res z W1 (((W.setCell ⟨z, 0, none⟩ a).setCell ⟨z, 1, none⟩ b).setCell ⟨z, 2, none⟩ c)) := by
  refine Res.mk (But.setCell (But.setCell (But.setCell h.out.but 0 a) 1 b) 2 c) ?_
  obtain ⟨v0, v1, v2, hc⟩ := h.out.cells
  refine ⟨a, b, c, ?_⟩
  simp [World.setCell, Array.getElem?_modify, hc]
set_option maxRecDepth 4000 in
set_option maxHeartbeats 2000000 in
theorem Of_parts (x m : Nat) (neg : Bool) (E : Int) (w : World) (hm : m < 18446744073709551616) (he1 : -100000 ≤ E) (he2 : E ≤ 99000) (hT : Tab32 w) (hs : 1 < w.heap.size)
    (hP : ∀ W, Below w.heap.size w W → Calls Tryz.prog 29 #[.float .f64 x] W fun r w' => r = .returned (.tuple #[.agg #[.bool neg, .int .u64 m, .int .i64 E], .int .i64 0]) ∧ Below W.heap.size W w') :
    Calls Tryz.prog 25 #[.float .f64 x] w fun r w' => DyOut (sgnN neg m) E w.heap.size r w' ∧ Below w.heap.size w w' := by
  have HP := hid hP
  have HT := hid hT
  have HS := hid hs
  have hlo : IntKind.u32.wrap (m : Int) = (loW m : Int) := by unfold loW; rw [IntKind.wrap_u32]; omega
  have hhi : IntKind.u32.wrap ((m : Int) / 4294967296) = (hiW m : Int) := by unfold hiW; rw [IntKind.wrap_u32]; omega
  have HTR := hid (fun (W : World) b h0 h1 => trim_words m b W hm h0 h1)
  have HWR := hid (fun (W : World) b h0 h1 ht hg => written_words neg m b E W hm h0 h1 he1 he2 ht hg)
  obtain ⟨l, hl⟩ : ∃ l, Hid (loW m = l) := ⟨_, rfl⟩
  obtain ⟨h, hh⟩ : ∃ h, Hid (hiW m = h) := ⟨_, rfl⟩
  obtain ⟨N, hN⟩ : ∃ N, Hid (numW m = N) := ⟨_, rfl⟩
  obtain ⟨Z, hZ⟩ : ∃ Z, Hid (sgnN neg m = Z) := ⟨_, rfl⟩
  rw [hl.out] at hlo HTR HWR
  rw [hh.out] at hhi HTR HWR
  rw [hN.out] at HTR HWR
  rw [hZ.out] at HWR ⊢
  clear hP hT hs hm he1 he2
  go_enter Tryz.func25, Tryz.ntmps25
  go_wp2_with fail
  refine (HP.out _ ((Below.refl _ _).alloc (Nat.le_refl _) _)).mono ?_
  rintro r w1 ⟨rfl, hb1⟩
  have hsz : w.heap.size < w1.heap.size := by have := hb1.size; simp at this; omega
  have HB1 := hid hb1
  clear hb1
  obtain ⟨W1, hW1⟩ : ∃ W1, Hid (w1.alloc (.cells #[.bool neg, .int .u64 m, .int .i64 E] 50) = W1) := ⟨_, rfl⟩
  have HW1b : Hid (Below w.heap.size w W1) := by
    rw [← hW1.out]
    exact (((Below.refl _ _).alloc (Nat.le_refl _) _).trans (HB1.out.mono (by simp))).alloc (by omega) _
  have HW1s := hid (show W1.heap.size = w1.heap.size + 1 by rw [← hW1.out]; simp)
  have HR0 : Hid (Res w.heap.size W1 W1) := by
    refine ⟨But.refl _ _, .bool false, .slice none 0 0, .int .i64 0, ?_⟩
    rw [← hW1.out, ((Below.refl w1.heap.size w1).alloc (Nat.le_refl _) _).block w.heap.size hsz, HB1.out.block w.heap.size (by simp)]
    exact Array.getElem?_push_size
  have HK : Hid (∀ W, Hid (Res w.heap.size W1 W) → (W.cell? ⟨w1.heap.size, 0, none⟩ = some (.bool neg) ∧ W.cell? ⟨w1.heap.size, 1, none⟩ = some (.int .u64 m) ∧ W.cell? ⟨w1.heap.size, 2, none⟩ = some (.int .i64 E)) ∧ Hid (Res w.heap.size W1 W)) := fun W hW => by
    have hne : w1.heap.size ≠ w.heap.size := by omega
    refine ⟨⟨hW.out.but.cell ?_ hne, hW.out.but.cell ?_ hne, hW.out.but.cell ?_ hne⟩, hW⟩ <;> (rw [← hW1.out]; simp [go_sem])
  have HWR2 : Hid (∀ W b, Hid (Res w.heap.size W1 W) → W.cell? ⟨b, 0, none⟩ = some (.int .u32 l) → W.cell? ⟨b, 1, none⟩ = some (.int .u32 h) → Calls Tryz.prog 32 #[.bool neg, .slice (some ⟨b, 0, none⟩) N 2, .int .i64 E] W fun r w' => ∃ neg' a' n' cap' e' v0 v1 v2, r = .returned (.tuple #[.agg #[.bool neg', .slice a' n' cap', .int .i64 e'], .int .i64 0]) ∧ Hid (DyRet Z E (w.heap.size + 1) neg' a' n' cap' e' w') ∧ Hid (Res w.heap.size W1 w') ∧ (∀ o, w'.frozen? ⟨w.heap.size, o, none⟩ = false) ∧ w'.cell? ⟨w.heap.size, 0, none⟩ = some v0 ∧ w'.cell? ⟨w.heap.size, 1, none⟩ = some v1 ∧ w'.cell? ⟨w.heap.size, 2, none⟩ = some v2) := fun W b hW g0 g1 => by
    have hsW : w1.heap.size + 1 ≤ W.heap.size := by have := hW.out.but.size; rw [HW1s.out] at this; exact this
    have hbW : Below w.heap.size w W := HW1b.out.trans (hW.out.but.below (by rw [HW1s.out]; omega) (Nat.le_refl _))
    refine (HWR.out W b g0 g1 (HT.out.below HS.out hbW) (Nat.lt_of_lt_of_le HS.out hbW.size)).mono ?_
    rintro r w' ⟨ho, hb⟩
    obtain ⟨neg', a', n', cap', e', rfl, hr⟩ := ho.ret
    have hres := hW.out.call hb
    obtain ⟨f1, _, v0, v1, v2, f2, f3, f4⟩ := hres.facts
    exact ⟨neg', a', n', cap', e', v0, v1, v2, rfl, DyOut.but hr (But.refl (w.heap.size) _) (by omega) (by omega), hres, f1, f2, f3, f4⟩
  go_wp2_with fail
  rw [hW1.out]
  have HQ0 := res_dr HR0
  go_region_held3 (fun W => (W.cell? ⟨w1.heap.size, 0, none⟩ = some (.bool neg) ∧ W.cell? ⟨w1.heap.size, 1, none⟩ = some (.int .u64 m) ∧ W.cell? ⟨w1.heap.size, 2, none⟩ = some (.int .i64 E)) ∧ Hid (Res w.heap.size W1 W))
    ((refine HK.out _ ?_; first | assumption | exact HQ0 | exact res_dr (by assumption) | exact res_al (by assumption) _ | exact res_dr (res_al (by assumption) _) | exact res_store (by assumption) _ _ _ | exact res_dr (res_store (by assumption) _ _ _)))
    (first
      | (go_at_call 30; refine (HTR.out _ _ (by simp [go_sem]) (by simp [go_sem])).mono ?_; rintro r w2 ⟨rfl, rfl⟩)
      | (go_at_call 32; refine (HWR2.out _ _ (And.right (by assumption)) (by simp [go_sem]) (by simp [go_sem])).mono ?_; rintro r w3 ⟨neg', a', n', cap', e', v0, v1, v2, rfl, HRT, HF3, fz, c0, c1, c2⟩))
  all_goals go_wp2
  all_goals exact bodyPost_ret (v := .tuple #[.agg #[.bool neg', .slice a' n' cap', .int .i64 e'], .int .i64 0]) (by simp [results, Tryz.results25, go_sem, c0, c1, c2]) rfl ⟨DyOut.but HRT.out (But.setCell (But.setCell (But.setCell (But.refl _ _) 0 _) 1 _) 2 _) (Nat.lt_succ_self _) (Nat.le_succ _), HW1b.out.trans ((res_store HF3 _ _ _).out.but.below (by rw [HW1s.out]; omega) (Nat.le_refl _))⟩
theorem DyOut.low {z e : Int} {B : Nat} {r : Ending} {w' : World} (h : DyOut z e B r w') (k : Nat) : DyOut (z * 2 ^ k) (e - k) B r w' := by
  obtain ⟨neg, L, a, cap, e', rfl, h1, h2, h3, h4, h5⟩ := h
  exact ⟨neg, L, a, cap, e', rfl, h1, h2, h3.low k, h4, h5⟩
end Go.Proofs.YtphdinjmkhefmaaGreatDoor

namespace Go.Proofs.YtphdinjmkhefmaaGreatDoor
open Go.RowKit Go.IntWalk

theorem dleft_nat (L : List Nat) (a : Option Addr) (cap n : Nat) (w : World) (hm : MagAt w a L) (hn : n ≤ 1000000) (hl : L.length ≤ 1000000) (hD : DigL L) :
    Calls Tryz.prog 91 #[.slice a L.length cap, .int .i64 (n : Nat)] w fun r w' => MagOk (natL L * 2 ^ n) (L.length + n / 32 + 1) r w' ∧ Below w.heap.size w w' := by
  have := dleft_any L a cap (n / 32) (n % 32) w hm (Nat.mod_lt _ (by decide)) (by omega) hl hD
  rw [show 32 * (n / 32) + n % 32 = n by omega] at this
  exact this
/-- A dyad in a block of its own. -/
def DyBox (neg : Bool) (a : Option Addr) (n cap : Nat) (e : Int) : Obj := .cells #[.bool neg, .slice a n cap, .int .i64 e] 27
def AlW (w : World) (n1 n2 : Bool) (a1 a2 : Option Addr) (l1 l2 c1 c2 : Nat) (e1 e2 : Int) : World := (w.alloc (DyBox n1 a1 l1 c1 e1)).alloc (DyBox n2 a2 l2 c2 e2)
def DCells (W : World) (b : Nat) (neg : Bool) (a : Option Addr) (n cap : Nat) (e : Int) : Prop := W.cell? ⟨b, 0, none⟩ = some (.bool neg) ∧ W.cell? ⟨b, 1, none⟩ = some (.slice a n cap) ∧ W.cell? ⟨b, 2, none⟩ = some (.int .i64 e)
theorem dcells_of {W : World} {b : Nat} {neg : Bool} {a : Option Addr} {n cap : Nat} {e : Int} (h : W.heap[b]? = some (DyBox neg a n cap e)) : DCells W b neg a n cap e :=
  ⟨by simp [World.cell?, h, DyBox], by simp [World.cell?, h, DyBox], by simp [World.cell?, h, DyBox]⟩
theorem new_blk (w : World) (o : Obj) (k : Nat) (hk : k = w.heap.size) : (w.alloc o).heap[k]? = some o := by
  rw [hk]
  exact Array.getElem?_push_size
theorem AlW.size (w : World) (n1 n2 : Bool) (a1 a2 : Option Addr) (l1 l2 c1 c2 : Nat) (e1 e2 : Int) : (AlW w n1 n2 a1 a2 l1 l2 c1 c2 e1 e2).heap.size = w.heap.size + 2 := by unfold AlW; simp
theorem AlW.below (w : World) (n1 n2 : Bool) (a1 a2 : Option Addr) (l1 l2 c1 c2 : Nat) (e1 e2 : Int) : Below w.heap.size w (AlW w n1 n2 a1 a2 l1 l2 c1 c2 e1 e2) := ((Below.refl _ _).alloc (Nat.le_refl _) _).alloc (by simp) _
theorem AlW.cells (w : World) (n1 n2 : Bool) (a1 a2 : Option Addr) (l1 l2 c1 c2 : Nat) (e1 e2 : Int) : (AlW w n1 n2 a1 a2 l1 l2 c1 c2 e1 e2).heap[w.heap.size]? = some (DyBox n1 a1 l1 c1 e1) ∧ (AlW w n1 n2 a1 a2 l1 l2 c1 c2 e1 e2).heap[w.heap.size + 1]? = some (DyBox n2 a2 l2 c2 e2) := by
  unfold AlW
  refine ⟨?_, new_blk _ _ _ (by simp)⟩
  rw [((Below.refl _ (w.alloc (DyBox n1 a1 l1 c1 e1))).alloc (Nat.le_refl _) _).block w.heap.size (by simp)]
  exact new_blk w _ _ rfl
/-- What stays while both are shifted. -/
def AlFr (w : World) (n1 n2 : Bool) (a1 a2 : Option Addr) (l1 l2 c1 c2 : Nat) (e1 e2 : Int) (W : World) : Prop := Below (w.heap.size + 2) (AlW w n1 n2 a1 a2 l1 l2 c1 c2 e1 e2) W
theorem AlFr.all {w : World} {n1 n2 : Bool} {a1 a2 : Option Addr} {l1 l2 c1 c2 : Nat} {e1 e2 : Int} {W : World} (h : AlFr w n1 n2 a1 a2 l1 l2 c1 c2 e1 e2 W) : DCells W w.heap.size n1 a1 l1 c1 e1 ∧ DCells W (w.heap.size + 1) n2 a2 l2 c2 e2 ∧ Below w.heap.size w W ∧ w.heap.size + 2 ≤ W.heap.size := by
  obtain ⟨a, b⟩ := AlW.cells w n1 n2 a1 a2 l1 l2 c1 c2 e1 e2
  have hs := h.size
  rw [AlW.size] at hs
  exact ⟨dcells_of ((h.block _ (by omega)).trans a), dcells_of ((h.block _ (by omega)).trans b), (AlW.below w n1 n2 a1 a2 l1 l2 c1 c2 e1 e2).trans (h.mono (by omega)), hs⟩
theorem AlFr.call {w : World} {n1 n2 : Bool} {a1 a2 : Option Addr} {l1 l2 c1 c2 : Nat} {e1 e2 : Int} {W W' : World} (h : AlFr w n1 n2 a1 a2 l1 l2 c1 c2 e1 e2 W) (hb : Below W.heap.size W W') : AlFr w n1 n2 a1 a2 l1 l2 c1 c2 e1 e2 W' := h.trans (hb.mono h.all.2.2.2)
set_option maxRecDepth 4000 in
set_option maxHeartbeats 2000000 in
theorem aligned_any (n1 n2 : Bool) (L1 L2 : List Nat) (a1 a2 : Option Addr) (c1 c2 i j : Nat) (e1 e2 m : Int) (w : World) (h1 : MagAt w a1 L1) (h2 : MagAt w a2 L2) (d1 : DigL L1) (d2 : DigL L2) (hl1 : L1.length ≤ 3000) (hl2 : L2.length ≤ 3000) (hm : min e1 e2 = m) (hi : e1 - m = (i : Int)) (hj : e2 - m = (j : Int)) (hi2 : i ≤ 300000) (hj2 : j ≤ 300000) :
    Calls Tryz.prog 75 #[.agg #[.bool n1, .slice a1 L1.length c1, .int .i64 e1], .agg #[.bool n2, .slice a2 L2.length c2, .int .i64 e2]] w fun r w' => ∃ X Y ax ay cx cy, r = .returned (.tuple #[.slice ax X.length cx, .slice ay Y.length cy, .int .i64 m]) ∧ MagIs (natL L1 * 2 ^ i) (L1.length + i / 32 + 1) X ax cx w' ∧ MagIs (natL L2 * 2 ^ j) (L2.length + j / 32 + 1) Y ay cy w' ∧ Below w.heap.size w w' := by
  have HLA : Hid (∀ W, Hid (AlFr w n1 n2 a1 a2 L1.length L2.length c1 c2 e1 e2 W) → Calls Tryz.prog 91 #[.slice a1 L1.length c1, .int .i64 (i : Nat)] W fun r w' => ∃ X ax cx, r = .returned (.slice ax X cx) ∧ Hid (∃ LX, LX.length = X ∧ MagIs (natL L1 * 2 ^ i) (L1.length + i / 32 + 1) LX ax cx w') ∧ Hid (Below W.heap.size W w') ∧ Hid (AlFr w n1 n2 a1 a2 L1.length L2.length c1 c2 e1 e2 w')) := fun W hW => by
    obtain ⟨_, _, hbw, _⟩ := hW.out.all
    refine (dleft_nat L1 a1 c1 i W (h1.below hbw) (by omega) (by omega) d1).mono ?_
    rintro r w' ⟨⟨LX, ax, cx, rfl, hok⟩, hb⟩
    exact ⟨LX.length, ax, cx, rfl, ⟨LX, rfl, hok⟩, hb, hW.out.call hb⟩
  have HLB : Hid (∀ W, Hid (AlFr w n1 n2 a1 a2 L1.length L2.length c1 c2 e1 e2 W) → Calls Tryz.prog 91 #[.slice a2 L2.length c2, .int .i64 (j : Nat)] W fun r w' => ∃ Y ay cy, r = .returned (.slice ay Y cy) ∧ Hid (∃ LY, LY.length = Y ∧ MagIs (natL L2 * 2 ^ j) (L2.length + j / 32 + 1) LY ay cy w') ∧ Hid (Below W.heap.size W w') ∧ Hid (AlFr w n1 n2 a1 a2 L1.length L2.length c1 c2 e1 e2 w')) := fun W hW => by
    obtain ⟨_, _, hbw, _⟩ := hW.out.all
    refine (dleft_nat L2 a2 c2 j W (h2.below hbw) (by omega) (by omega) d2).mono ?_
    rintro r w' ⟨⟨LY, ay, cy, rfl, hok⟩, hb⟩
    exact ⟨LY.length, ay, cy, rfl, ⟨LY, rfl, hok⟩, hb, hW.out.call hb⟩
  obtain ⟨l1, hl1'⟩ : ∃ l1, Hid (L1.length = l1) := ⟨_, rfl⟩
  obtain ⟨l2, hl2'⟩ : ∃ l2, Hid (L2.length = l2) := ⟨_, rfl⟩
  rw [hl1'.out, hl2'.out] at HLA HLB ⊢
  have HK : Hid (∀ W, Hid (AlFr w n1 n2 a1 a2 l1 l2 c1 c2 e1 e2 W) → ((W.cell? ⟨w.heap.size, 0, none⟩ = some (.bool n1) ∧ W.cell? ⟨w.heap.size, 1, none⟩ = some (.slice a1 l1 c1) ∧ W.cell? ⟨w.heap.size, 2, none⟩ = some (.int .i64 e1)) ∧ (W.cell? ⟨w.heap.size + 1, 0, none⟩ = some (.bool n2) ∧ W.cell? ⟨w.heap.size + 1, 1, none⟩ = some (.slice a2 l2 c2) ∧ W.cell? ⟨w.heap.size + 1, 2, none⟩ = some (.int .i64 e2))) ∧ Hid (AlFr w n1 n2 a1 a2 l1 l2 c1 c2 e1 e2 W)) := fun W h => ⟨⟨h.out.all.1, h.out.all.2.1⟩, h⟩
  have HQ0 : Hid (AlFr w n1 n2 a1 a2 l1 l2 c1 c2 e1 e2 (AlW w n1 n2 a1 a2 l1 l2 c1 c2 e1 e2).drew) := Below.drew (Below.refl _ _)
  have hd1 : IntKind.i64.wrap (e1 - m) = (i : Int) := by rw [IntWalk.i64_in _ (by omega)]; exact hi
  have hd2 : IntKind.i64.wrap (e2 - m) = (j : Int) := by rw [IntWalk.i64_in _ (by omega)]; exact hj
  have hi0 : IntKind.i64.wrap (i : Int) = (i : Int) := by rw [IntWalk.i64_in _ (by omega)]
  have hj0 : IntKind.i64.wrap (j : Int) = (j : Int) := by rw [IntWalk.i64_in _ (by omega)]
  unfold AlW DyBox at HQ0
  clear h1 h2 d1 d2 hl1 hl2 hi2 hj2 hi hj
  go_enter Tryz.func75, Tryz.ntmps75
  go_wp2_with fail
  go_region_held3 (fun W => ((W.cell? ⟨w.heap.size, 0, none⟩ = some (.bool n1) ∧ W.cell? ⟨w.heap.size, 1, none⟩ = some (.slice a1 l1 c1) ∧ W.cell? ⟨w.heap.size, 2, none⟩ = some (.int .i64 e1)) ∧ (W.cell? ⟨w.heap.size + 1, 0, none⟩ = some (.bool n2) ∧ W.cell? ⟨w.heap.size + 1, 1, none⟩ = some (.slice a2 l2 c2) ∧ W.cell? ⟨w.heap.size + 1, 2, none⟩ = some (.int .i64 e2))) ∧ Hid (AlFr w n1 n2 a1 a2 l1 l2 c1 c2 e1 e2 W))
    ((refine HK.out _ ?_; first | assumption | exact HQ0))
    (first
      | (go_at_call 91; with_reducible refine (HLA.out _ (And.right (by assumption))).mono ?_; rintro r w1 ⟨X, ax, cx, rfl, HX, HB1, HF1⟩)
      | (go_at_call 91; with_reducible refine (HLB.out _ (And.right (by assumption))).mono ?_; rintro r w2 ⟨Y, ay, cy, rfl, HY, HB2, HF2⟩))
  all_goals go_wp2
  all_goals go_ret3
  all_goals
    obtain ⟨LX, rfl, hX⟩ := HX.out
    obtain ⟨LY, rfl, hY⟩ := HY.out
    exact ⟨LX, LY, ax, ay, cx, cy, rfl, ⟨hX.1, hX.2.1, hX.2.2.1.below HB2.out, hX.2.2.2⟩, hY, HF2.out.all.2.2.1⟩
end Go.Proofs.YtphdinjmkhefmaaGreatDoor
