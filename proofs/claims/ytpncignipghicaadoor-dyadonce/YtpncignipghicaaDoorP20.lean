
/- What dyad's Of does: a number, exactly. -/
import Derived.Test.YtpncignipghicaaDoorDyH
import Derived.Test.YtpncignipghicaaDoorPartsAll
namespace Go.Proofs.YtpncignipghicaaDoor
open Go.RowKit Go.IntWalk

theorem trim_words (n b : Nat) (w : World) (hn : n < 18446744073709551616) (h0 : w.cell? ⟨b, 0, none⟩ = some (.int .u32 (loW n))) (h1 : w.cell? ⟨b, 1, none⟩ = some (.int .u32 (hiW n))) :
    Calls Tryd.prog 41 #[.slice (some ⟨b, 0, none⟩) 2 2] w fun r w' => r = .returned (.slice (some ⟨b, 0, none⟩) (numW n) 2) ∧ w' = w := by
  refine (trim_some [loW n, hiW n] b 0 2 w (fun i hi => ?_) (show 2 ≤ 2 by decide) (show 2 ≤ 1099511627776 by decide)).mono ?_
  · have hi2 : i < 2 := hi
    rw [Nat.zero_add]
    rcases (show i = 0 ∨ i = 1 by omega) with rfl | rfl
    · exact h0
    · exact h1
  · rintro r w' ⟨⟨k, hk, rfl, hv, he⟩, rfl⟩
    have : k = numW n := end_unique _ k (numW n) (words_dig n hn) hk (by unfold numW; split <;> (try split) <;> simp) hv ((natL_words n).2.trans (natL_words n).1.symm) he (words_end n)
    exact ⟨by rw [this], rfl⟩
theorem mag_words (n b : Nat) (w : World) (h0 : w.cell? ⟨b, 0, none⟩ = some (.int .u32 (loW n))) (h1 : w.cell? ⟨b, 1, none⟩ = some (.int .u32 (hiW n))) : MagAt w (some ⟨b, 0, none⟩) ([loW n, hiW n].take (numW n)) := by
  apply MagAt.take
  intro i hi
  have hi2 : i < 2 := hi
  refine ⟨b, 0, rfl, World.block_lt_of_cell? w _ h0, ?_⟩
  rw [Nat.zero_add]
  rcases (show i = 0 ∨ i = 1 by omega) with rfl | rfl
  · exact h0
  · exact h1
theorem numW_le (n : Nat) : numW n ≤ 2 := by unfold numW; split <;> (try split) <;> omega
theorem words_take (n : Nat) (hn : n < 18446744073709551616) : DigL ([loW n, hiW n].take (numW n)) ∧ CanL ([loW n, hiW n].take (numW n)) ∧ ([loW n, hiW n].take (numW n)).length = numW n ∧ natL ([loW n, hiW n].take (numW n)) = n := by
  obtain ⟨hc, hl⟩ := can_take [loW n, hiW n] (numW n) (numW_le n) (words_end n)
  exact ⟨(words_dig n hn).take _, hc, hl, (natL_words n).2⟩
def sgnN (neg : Bool) (n : Nat) : Int := if neg = true then -(n : Int) else n
/-- written of a number's words. -/
theorem written_words (neg : Bool) (n b : Nat) (e : Int) (w : World) (hn : n < 18446744073709551616) (h0 : w.cell? ⟨b, 0, none⟩ = some (.int .u32 (loW n))) (h1 : w.cell? ⟨b, 1, none⟩ = some (.int .u32 (hiW n))) (he1 : -100000 ≤ e) (he2 : e ≤ 99000) (hT : Tab32 w) (hs : 1 < w.heap.size) :
    Calls Tryd.prog 40 #[.bool neg, .slice (some ⟨b, 0, none⟩) (numW n) 2, .int .i64 e] w fun r w' => DyOut (sgnN neg n) e w.heap.size r w' ∧ Below w.heap.size w w' := by
  obtain ⟨d1, d2, d3, d4⟩ := words_take n hn
  have hk := numW_le n
  have := written_any neg ([loW n, hiW n].take (numW n)) (some ⟨b, 0, none⟩) 2 e w (mag_words n b w h0 h1) d1 d2 (by rw [d3]; exact hk) (by rw [d3]; omega) he1 (by rw [d3]; omega) hT hs
  rw [d3] at this
  have e1 : intL neg ([loW n, hiW n].take (numW n)) = sgnN neg n := by unfold intL sgnN; rw [d4]
  rw [e1] at this
  exact this
theorem DyOut.but {z e : Int} {B B' y : Nat} {r : Ending} {w w' : World} (h : DyOut z e B r w) (hb : But y w w') (hy : y < B) (hB : B' ≤ B) : DyOut z e B' r w' := by
  obtain ⟨neg, L, a, cap, e', rfl, h1, h2, h3, h4, h5⟩ := h
  exact ⟨neg, L, a, cap, e', rfl, h1, h2.but hb (fun b off hp _ => by have := (h5 _ hp).1; simp at this; omega), h3, h4, fun p hp => ⟨Nat.le_trans hB (h5 p hp).1, (h5 p hp).2.of_block (hb.block _ (h5 p hp).2.lt (by have := (h5 p hp).1; omega))⟩⟩
/-- A dyad with its error, told by letters. -/
def DyRet (z e : Int) (B : Nat) (neg : Bool) (a : Option Addr) (n cap : Nat) (e' : Int) (w' : World) : Prop := DyOut z e B (.returned (.tuple #[.agg #[.bool neg, .slice a n cap, .int .i64 e'], .int .i64 0])) w'
theorem DyOut.ret {z e : Int} {B : Nat} {r : Ending} {w' : World} (h : DyOut z e B r w') : ∃ neg a n cap e', r = .returned (.tuple #[.agg #[.bool neg, .slice a n cap, .int .i64 e'], .int .i64 0]) ∧ DyRet z e B neg a n cap e' w' := by
  obtain ⟨neg, L, a, cap, e', rfl, h1⟩ := h
  exact ⟨neg, a, L.length, cap, e', rfl, neg, L, a, cap, e', rfl, h1⟩
/-- What stays while an answer is made: all but its own place, where three cells lie. -/
structure Res (z : Nat) (W1 W : World) : Prop where
  but : But z W1 W
  cells : ∃ v0 v1 v2, W.heap[z]? = some (.cells #[v0, v1, v2] 25)
theorem Res.facts {z : Nat} {W1 W : World} (h : Res z W1 W) : (∀ o, W.frozen? ⟨z, o, none⟩ = false) ∧ z < W.heap.size ∧ ∃ v0 v1 v2, W.cell? ⟨z, 0, none⟩ = some v0 ∧ W.cell? ⟨z, 1, none⟩ = some v1 ∧ W.cell? ⟨z, 2, none⟩ = some v2 := by
  obtain ⟨v0, v1, v2, h⟩ := h.cells
  exact ⟨fun o => by simp [World.frozen?, h], (Array.getElem?_eq_some_iff.1 h).1, v0, v1, v2, by simp [World.cell?, h], by simp [World.cell?, h], by simp [World.cell?, h]⟩
theorem Res.call {z : Nat} {W1 W W' : World} (h : Res z W1 W) (hb : Below W.heap.size W W') : Res z W1 W' := by
  refine ⟨h.but.trans (But.of_below hb), ?_⟩
  have hz := h.facts.2.1
  obtain ⟨v0, v1, v2, hc⟩ := h.cells
  exact ⟨v0, v1, v2, by rw [hb.block z hz]; exact hc⟩
theorem res_al {z : Nat} {W1 W : World} (h : Hid (Res z W1 W)) (o : Obj) : Hid (Res z W1 (W.alloc o)) := Res.call h.out ((Below.refl _ _).alloc (Nat.le_refl _) _)
theorem res_dr {z : Nat} {W1 W : World} (h : Hid (Res z W1 W)) : Hid (Res z W1 W.drew) := Res.call h.out (Below.refl _ _).drew
theorem res_store {z : Nat} {W1 W : World} (h : Hid (Res z W1 W)) (a b c : Value) : Hid (Res z W1 (((W.setCell ⟨z, 0, none⟩ a).setCell ⟨z, 1, none⟩ b).setCell ⟨z, 2, none⟩ c)) := by
  refine Res.mk (But.setCell (But.setCell (But.setCell h.out.but 0 a) 1 b) 2 c) ?_
  obtain ⟨v0, v1, v2, hc⟩ := h.out.cells
  refine ⟨a, b, c, ?_⟩
  simp [World.setCell, Array.getElem?_modify, hc]
set_option maxRecDepth 4000 in
set_option maxHeartbeats 2000000 in
theorem Of_parts (x m : Nat) (neg : Bool) (E : Int) (w : World) (hm : m < 18446744073709551616) (he1 : -100000 ≤ E) (he2 : E ≤ 99000) (hT : Tab32 w) (hs : 1 < w.heap.size)
    (hP : ∀ W, Below w.heap.size w W → Calls Tryd.prog 39 #[.float .f64 x] W fun r w' => r = .returned (.tuple #[.agg #[.bool neg, .int .u64 m, .int .i64 E], .int .i64 0]) ∧ Below W.heap.size W w') :
    Calls Tryd.prog 9 #[.float .f64 x] w fun r w' => DyOut (sgnN neg m) E w.heap.size r w' ∧ Below w.heap.size w w' := by
  have HP := hid hP
  have HT := hid hT
  have HS := hid hs
  have hlo : IntKind.u32.wrap (m : Int) = (loW m : Int) := by unfold loW; rw [IntKind.wrap_u32]; omega
  have hhi : IntKind.u32.wrap ((m : Int) / 4294967296) = (hiW m : Int) := by unfold hiW; rw [IntKind.wrap_u32]; omega
  have HTR := hid (fun (W : World) b h0 h1 => trim_words m b W hm h0 h1)
  have HWR := hid (fun (W : World) b h0 h1 ht hg => written_words neg m b E W hm h0 h1 he1 he2 ht hg)
  obtain ⟨l, hl⟩ : ∃ l, Hid (loW m = l) := ⟨_, rfl⟩
  obtain ⟨h, hh⟩ : ∃ h, Hid (hiW m = h) := ⟨_, rfl⟩
  obtain ⟨N, hN⟩ : ∃ N, Hid (numW m = N) := ⟨_, rfl⟩
  obtain ⟨Z, hZ⟩ : ∃ Z, Hid (sgnN neg m = Z) := ⟨_, rfl⟩
  rw [hl.out] at hlo HTR HWR
  rw [hh.out] at hhi HTR HWR
  rw [hN.out] at HTR HWR
  rw [hZ.out] at HWR ⊢
  clear hP hT hs hm he1 he2
  go_enter Tryd.func9, Tryd.ntmps9
  go_wp2_with fail
  refine (HP.out _ ((Below.refl _ _).alloc (Nat.le_refl _) _)).mono ?_
  rintro r w1 ⟨rfl, hb1⟩
  have hsz : w.heap.size < w1.heap.size := by have := hb1.size; simp at this; omega
  have HB1 := hid hb1
  clear hb1
  obtain ⟨W1, hW1⟩ : ∃ W1, Hid (w1.alloc (.cells #[.bool neg, .int .u64 m, .int .i64 E] 69) = W1) := ⟨_, rfl⟩
  have HW1b : Hid (Below w.heap.size w W1) := by
    rw [← hW1.out]
    exact (((Below.refl _ _).alloc (Nat.le_refl _) _).trans (HB1.out.mono (by simp))).alloc (by omega) _
  have HW1s := hid (show W1.heap.size = w1.heap.size + 1 by rw [← hW1.out]; simp)
  have HR0 : Hid (Res w.heap.size W1 W1) := by
    refine ⟨But.refl _ _, .bool false, .slice none 0 0, .int .i64 0, ?_⟩
    rw [← hW1.out, ((Below.refl w1.heap.size w1).alloc (Nat.le_refl _) _).block w.heap.size hsz, HB1.out.block w.heap.size (by simp)]
    exact Array.getElem?_push_size
  have HK : Hid (∀ W, Hid (Res w.heap.size W1 W) → (W.cell? ⟨w1.heap.size, 0, none⟩ = some (.bool neg) ∧ W.cell? ⟨w1.heap.size, 1, none⟩ = some (.int .u64 m) ∧ W.cell? ⟨w1.heap.size, 2, none⟩ = some (.int .i64 E)) ∧ Hid (Res w.heap.size W1 W)) := fun W hW => by
    have hne : w1.heap.size ≠ w.heap.size := by omega
    refine ⟨⟨hW.out.but.cell ?_ hne, hW.out.but.cell ?_ hne, hW.out.but.cell ?_ hne⟩, hW⟩ <;> (rw [← hW1.out]; simp [go_sem])
  have HWR2 : Hid (∀ W b, Hid (Res w.heap.size W1 W) → W.cell? ⟨b, 0, none⟩ = some (.int .u32 l) → W.cell? ⟨b, 1, none⟩ = some (.int .u32 h) → Calls Tryd.prog 40 #[.bool neg, .slice (some ⟨b, 0, none⟩) N 2, .int .i64 E] W fun r w' => ∃ neg' a' n' cap' e' v0 v1 v2, r = .returned (.tuple #[.agg #[.bool neg', .slice a' n' cap', .int .i64 e'], .int .i64 0]) ∧ Hid (DyRet Z E (w.heap.size + 1) neg' a' n' cap' e' w') ∧ Hid (Res w.heap.size W1 w') ∧ (∀ o, w'.frozen? ⟨w.heap.size, o, none⟩ = false) ∧ w'.cell? ⟨w.heap.size, 0, none⟩ = some v0 ∧ w'.cell? ⟨w.heap.size, 1, none⟩ = some v1 ∧ w'.cell? ⟨w.heap.size, 2, none⟩ = some v2) := fun W b hW g0 g1 => by
    have hsW : w1.heap.size + 1 ≤ W.heap.size := by have := hW.out.but.size; rw [HW1s.out] at this; exact this
    have hbW : Below w.heap.size w W := HW1b.out.trans (hW.out.but.below (by rw [HW1s.out]; omega) (Nat.le_refl _))
    refine (HWR.out W b g0 g1 (HT.out.below HS.out hbW) (Nat.lt_of_lt_of_le HS.out hbW.size)).mono ?_
    rintro r w' ⟨ho, hb⟩
    obtain ⟨neg', a', n', cap', e', rfl, hr⟩ := ho.ret
    have hres := hW.out.call hb
    obtain ⟨f1, _, v0, v1, v2, f2, f3, f4⟩ := hres.facts
    exact ⟨neg', a', n', cap', e', v0, v1, v2, rfl, DyOut.but hr (But.refl (w.heap.size) _) (by omega) (by omega), hres, f1, f2, f3, f4⟩
  go_wp2_with fail
  rw [hW1.out]
  have HQ0 := res_dr HR0
  go_region_held3 (fun W => (W.cell? ⟨w1.heap.size, 0, none⟩ = some (.bool neg) ∧ W.cell? ⟨w1.heap.size, 1, none⟩ = some (.int .u64 m) ∧ W.cell? ⟨w1.heap.size, 2, none⟩ = some (.int .i64 E)) ∧ Hid (Res w.heap.size W1 W))
    ((refine HK.out _ ?_; first | assumption | exact HQ0 | exact res_dr (by assumption) | exact res_al (by assumption) _ | exact res_dr (res_al (by assumption) _) | exact res_store (by assumption) _ _ _ | exact res_dr (res_store (by assumption) _ _ _)))
    (first
      | (go_at_call 41; refine (HTR.out _ _ (by simp [go_sem]) (by simp [go_sem])).mono ?_; rintro r w2 ⟨rfl, rfl⟩)
      | (go_at_call 40; refine (HWR2.out _ _ (And.right (by assumption)) (by simp [go_sem]) (by simp [go_sem])).mono ?_; rintro r w3 ⟨neg', a', n', cap', e', v0, v1, v2, rfl, HRT, HF3, fz, c0, c1, c2⟩))
  all_goals go_wp2
  all_goals exact bodyPost_ret (v := .tuple #[.agg #[.bool neg', .slice a' n' cap', .int .i64 e'], .int .i64 0]) (by simp [results, Tryd.results9, go_sem, c0, c1, c2]) rfl ⟨DyOut.but HRT.out (But.setCell (But.setCell (But.setCell (But.refl _ _) 0 _) 1 _) 2 _) (Nat.lt_succ_self _) (Nat.le_succ _), HW1b.out.trans ((res_store HF3 _ _ _).out.but.below (by rw [HW1s.out]; omega) (Nat.le_refl _))⟩
theorem DyOut.low {z e : Int} {B : Nat} {r : Ending} {w' : World} (h : DyOut z e B r w') (k : Nat) : DyOut (z * 2 ^ k) (e - k) B r w' := by
  obtain ⟨neg, L, a, cap, e', rfl, h1, h2, h3, h4, h5⟩ := h
  exact ⟨neg, L, a, cap, e', rfl, h1, h2, h3.low k, h4, h5⟩
end Go.Proofs.YtpncignipghicaaDoor

namespace Go.Proofs.YtpncignipghicaaDoor
open Go.RowKit Go.IntWalk

/-- The words from a place on. -/
def seg (b : Nat) (o : Nat → Nat) : Nat → Nat := fun j => o (b + j)
def digN (V t : Nat) : Nat := V / 4294967296 ^ t % 4294967296
/-- What holds ahead of the t-th round of put. -/
def PutI (o0 o : Nat → Nat) (b q s V c U t : Nat) : Prop :=
  natF (seg b o) 134 + 4294967296 ^ (q + t) * (c + U) = natF (seg b o0) 134 + 4294967296 ^ q * (V % 4294967296 ^ t * 2 ^ s) ∧ c ≤ 1 ∧ U < 2 ^ s ∧ (∀ j, o j < 4294967296) ∧ ∀ j, (j < b ∨ b + 134 ≤ j) → o j = o0 j
theorem PutI.zero (o : Nat → Nat) (b q s V : Nat) (ho : ∀ j, o j < 4294967296) : PutI o o b q s V 0 0 0 := by
  refine ⟨?_, by decide, Nat.two_pow_pos s, ho, fun _ _ => rfl⟩
  rw [Nat.pow_zero, Nat.mod_one, Nat.zero_mul, Nat.mul_zero, Nat.mul_zero]
theorem seg_set (b : Nat) (o : Nat → Nat) (i v : Nat) : seg b (fun j => if j = b + i then v else o j) = fun j => if j = i then v else seg b o j := by
  funext j
  show (if b + j = b + i then v else o (b + j)) = if j = i then v else o (b + j)
  by_cases h : j = i
  · rw [if_pos (by omega), if_pos h]
  · rw [if_neg (by omega), if_neg h]
theorem PutI.step {o0 o : Nat → Nat} {b q s V c U t : Nat} (h : PutI o0 o b q s V c U t) (hs : s < 32) (ht : q + t < 134) :
    PutI o0 (fun j => if j = b + (q + t) then (c + (o (b + (q + t)) + (U + digN V t * 2 ^ s) % 4294967296)) % 4294967296 else o j) b q s V ((c + (o (b + (q + t)) + (U + digN V t * 2 ^ s) % 4294967296)) / 4294967296) ((U + digN V t * 2 ^ s) / 4294967296) (t + 1) ∧ U + digN V t * 2 ^ s < 18446744073709551616 := by
  obtain ⟨h1, h2, h3, h4, h5⟩ := h
  have hd : digN V t < 4294967296 := Nat.mod_lt _ (by decide)
  have hx := h4 (b + (q + t))
  have hp := Nat.two_pow_pos s
  have h32 : (2 : Nat) ^ s ≤ 2 ^ 32 := Nat.pow_le_pow_right (by decide) (by omega)
  have e32 : (2 : Nat) ^ 32 = 4294967296 := by decide
  have hT : U + digN V t * 2 ^ s < 4294967296 * 2 ^ s := by
    have : (digN V t + 1) * 2 ^ s ≤ 4294967296 * 2 ^ s := Nat.mul_le_mul_right _ hd
    rw [Nat.add_mul, Nat.one_mul] at this
    omega
  have hT2 : U + digN V t * 2 ^ s < 18446744073709551616 := by
    have : 4294967296 * 2 ^ s ≤ 4294967296 * 4294967296 := Nat.mul_le_mul_left _ (by omega)
    omega
  have hmod : V % 4294967296 ^ (t + 1) = V % 4294967296 ^ t + 4294967296 ^ t * digN V t := by
    unfold digN
    rw [Nat.pow_succ, Nat.mod_mul]
  obtain ⟨T, hTT⟩ : ∃ T, U + digN V t * 2 ^ s = T := ⟨_, rfl⟩
  obtain ⟨x, hxx⟩ : ∃ x, o (b + (q + t)) = x := ⟨_, rfl⟩
  rw [hTT] at hT hT2 ⊢
  rw [hxx] at hx ⊢
  refine ⟨⟨?_, by omega, ?_, fun j => ?_, fun j hj => ?_⟩, hT2⟩
  · rw [seg_set]
    have e1 := natF_set (seg b o) 134 (q + t) ((c + (x + T % 4294967296)) % 4294967296) ht
    have e2 : seg b o (q + t) = x := hxx
    rw [e2] at e1
    have e3 : 4294967296 ^ q * (4294967296 ^ t * digN V t * 2 ^ s) = 4294967296 ^ (q + t) * (digN V t * 2 ^ s) := by
      rw [Nat.mul_assoc, ← Nat.mul_assoc, ← Nat.pow_add]
    have hr : 4294967296 ^ q * (V % 4294967296 ^ (t + 1) * 2 ^ s) = 4294967296 ^ q * (V % 4294967296 ^ t * 2 ^ s) + 4294967296 ^ (q + t) * (digN V t * 2 ^ s) := by rw [hmod, Nat.add_mul, Nat.mul_add, e3]
    have e4 : q + (t + 1) = q + t + 1 := by omega
    rw [hr, e4, Nat.pow_succ]
    have d1 := Nat.div_add_mod (c + (x + T % 4294967296)) 4294967296
    have d2 := Nat.div_add_mod T 4294967296
    obtain ⟨P, hP⟩ : ∃ P, 4294967296 ^ (q + t) = P := ⟨_, rfl⟩
    obtain ⟨F, hF⟩ : ∃ F, natF (seg b o) 134 = F := ⟨_, rfl⟩
    obtain ⟨F', hF'⟩ : ∃ F', natF (fun j => if j = q + t then (c + (x + T % 4294967296)) % 4294967296 else seg b o j) 134 = F' := ⟨_, rfl⟩
    obtain ⟨Z, hZ⟩ : ∃ Z, 4294967296 ^ q * (V % 4294967296 ^ t * 2 ^ s) = Z := ⟨_, rfl⟩
    obtain ⟨D, hD⟩ : ∃ D, digN V t * 2 ^ s = D := ⟨_, rfl⟩
    rw [hP, hF, hF'] at e1
    rw [hP, hF, hZ] at h1
    rw [hF', hP, hZ, hD]
    rw [hD] at hTT
    obtain ⟨R, hR⟩ : ∃ R, (c + (x + T % 4294967296)) % 4294967296 = R := ⟨_, rfl⟩
    obtain ⟨Q, hQ⟩ : ∃ Q, (c + (x + T % 4294967296)) / 4294967296 = Q := ⟨_, rfl⟩
    obtain ⟨l, hl⟩ : ∃ l, T % 4294967296 = l := ⟨_, rfl⟩
    obtain ⟨k, hk⟩ : ∃ k, T / 4294967296 = k := ⟨_, rfl⟩
    rw [hR, hQ, hl] at d1
    rw [hR] at e1
    rw [hl, hk] at d2
    rw [hQ, hk]
    have m1 : P * (4294967296 * Q + R) = P * (c + (x + l)) := by rw [d1]
    have m2 : P * (4294967296 * k + l) = P * T := by rw [d2]
    have m3 : P * T = P * U + P * D := by rw [← hTT, Nat.mul_add]
    rw [Nat.mul_add, Nat.mul_add, Nat.mul_add, ← Nat.mul_assoc] at m1
    rw [Nat.mul_add, ← Nat.mul_assoc] at m2
    rw [Nat.mul_add] at h1 ⊢
    omega
  · rw [Nat.div_lt_iff_lt_mul (by decide), Nat.mul_comm (2 ^ s)]
    exact hT
  · show (if j = b + (q + t) then _ else o j) < _
    split
    · exact Nat.mod_lt _ (by decide)
    · exact h4 j
  · show (if j = b + (q + t) then _ else o j) = _
    rw [if_neg (by omega)]
    exact h5 j hj
/-- What put has done, when nothing is carried any more. -/
theorem PutI.done {o0 o : Nat → Nat} {b q s V t : Nat} (h : PutI o0 o b q s V 0 0 t) (hV : V < 340282366920938463463374607431768211456) (ht : 4 ≤ t) : natF (seg b o) 134 = natF (seg b o0) 134 + V * 2 ^ (32 * q + s) ∧ (∀ j, o j < 4294967296) ∧ ∀ j, (j < b ∨ b + 134 ≤ j) → o j = o0 j := by
  obtain ⟨h1, _, _, h4, h5⟩ := h
  have hp : (340282366920938463463374607431768211456 : Nat) ≤ 4294967296 ^ t := by
    have : (4294967296 : Nat) ^ 4 ≤ 4294967296 ^ t := Nat.pow_le_pow_right (by decide) ht
    have e : (4294967296 : Nat) ^ 4 = 340282366920938463463374607431768211456 := by decide
    omega
  rw [Nat.mod_eq_of_lt (Nat.lt_of_lt_of_le hV hp), Nat.add_zero, Nat.mul_zero, Nat.add_zero, pow32, Nat.mul_left_comm, ← Nat.pow_add] at h1
  exact ⟨h1, h4, h5⟩
theorem PutI.last {o0 o : Nat → Nat} {b q s V c U t : Nat} (h : PutI o0 o b q s V c U t) (ht : q + t = 134) (hlt : natF (seg b o0) 134 + V * 2 ^ (32 * q + s) < 4294967296 ^ 134) : natF (seg b o) 134 = natF (seg b o0) 134 + V * 2 ^ (32 * q + s) ∧ (∀ j, o j < 4294967296) ∧ ∀ j, (j < b ∨ b + 134 ≤ j) → o j = o0 j := by
  obtain ⟨h1, _, _, h4, h5⟩ := h
  have e0 : V * 2 ^ (32 * q + s) = 4294967296 ^ q * (V * 2 ^ s) := by rw [pow32, Nat.mul_left_comm, ← Nat.pow_add]
  have hVt : V < 4294967296 ^ t := by
    apply Classical.byContradiction
    intro hc
    have a1 : 4294967296 ^ t ≤ V := by omega
    have a2 : 4294967296 ^ q * 4294967296 ^ t ≤ 4294967296 ^ q * (V * 2 ^ s) := Nat.mul_le_mul_left _ (Nat.le_trans a1 (Nat.le_mul_of_pos_right _ (Nat.two_pow_pos s)))
    rw [← Nat.pow_add, ht] at a2
    omega
  rw [Nat.mod_eq_of_lt hVt, ht, ← e0] at h1
  have hcu : c + U = 0 := by
    apply Classical.byContradiction
    intro hc
    have : 4294967296 ^ 134 * 1 ≤ 4294967296 ^ 134 * (c + U) := Nat.mul_le_mul_left _ (by omega)
    omega
  rw [hcu, Nat.mul_zero, Nat.add_zero] at h1
  exact ⟨h1, h4, h5⟩
end Go.Proofs.YtpncignipghicaaDoor
