
/- What eft's refusal, refusalWith, Is and told do with the first examples' lists. -/
import Derived.Test.YteidllapjokhlaaDoorP40
import Derived.Test.YteidllapjokhlaaDoorDzA
namespace Go.Proofs.YteidllapjokhlaaDoor
open Go.RowKit Go.IntWalk

def exL : List Nat := [4607182418800017408, 4877398396442247168]
theorem exL_fin (n : Nat) (hn : n = 1 ∨ n = 2) : allFin (exL.take n) = true ∧ (exL.take n).length = n := by
  rcases hn with rfl | rfl <;> decide +kernel
/-- The first n of the two numbers lie at the block. -/
def ExAt (w : World) (b n : Nat) : Prop := (n = 1 ∨ n = 2) ∧ w.cell? ⟨b, 0, none⟩ = some (.float .f64 4607182418800017408) ∧ (n = 2 → w.cell? ⟨b, 1, none⟩ = some (.float .f64 4877398396442247168))
theorem ExAt.below {w w' : World} {b n : Nat} (h : ExAt w b n) (hb : Below w.heap.size w w') : ExAt w' b n := by
  have hlt0 := World.block_lt_of_cell? w _ h.2.1
  exact ⟨h.1, by rw [hb.cell (p := ⟨b, 0, none⟩) hlt0]; exact h.2.1, fun c => by rw [hb.cell (p := ⟨b, 1, none⟩) hlt0]; exact h.2.2 c⟩
theorem ex_fin (n cap b : Nat) (w : World) (h : ExAt w b n) : Calls Tryd.prog 51 #[.slice (some ⟨b, 0, none⟩) n cap] w fun r w' => r = .returned (.bool true) ∧ Below w.heap.size w w' := by
  obtain ⟨hn, h0, h1⟩ := h
  obtain ⟨f1, f2⟩ := exL_fin n hn
  have := Finite_any (exL.take n) b 0 cap w (World.block_lt_of_cell? w _ h0) (fun i hi => by
    rw [f2] at hi
    rcases hn with rfl | rfl
    · have : i = 0 := by omega
      subst this; exact h0
    · rcases (show i = 0 ∨ i = 1 by omega) with rfl | rfl
      · exact h0
      · exact h1 rfl) (fun i hi => by
    rw [f2] at hi
    rcases hn with rfl | rfl
    · have : i = 0 := by omega
      subst this; decide
    · rcases (show i = 0 ∨ i = 1 by omega) with rfl | rfl <;> decide) (by rw [f2]; omega)
  rw [f1, f2] at this
  exact this
set_option maxHeartbeats 1000000 in
theorem refusal_ex (n cap b : Nat) (w : World) (h : ExAt w b n) (hT : Tab w) (hg : 2 < w.heap.size) :
    Calls Tryd.prog 50 #[.slice (some ⟨b, 0, none⟩) n cap] w fun r w' => r = .returned (.int .i64 0) ∧ Below w.heap.size w w' := by
  have HF := hid (ex_fin n cap b w h)
  have HS : Hid (∀ W, Below w.heap.size w W → Calls Tryd.prog 73 #[.slice (some ⟨b, 0, none⟩) n cap] W fun r w' => r = .returned (.bool true) ∧ Below W.heap.size W w') := fun W hW => by
    obtain ⟨e1, e2, e3⟩ := h.below hW
    exact stands_two n cap b W e1 e2 e3 (hT.below hg hW) (Nat.lt_of_lt_of_le hg hW.size)
  have hn : n ≤ 2 := by have := h.1; omega
  have hnI : (n : Int) ≤ 64 := by omega
  clear h hT hg hn
  go_enter Tryd.func50, Tryd.ntmps50
  go_wp2_with fail
  refine HF.out.mono ?_
  rintro r w1 ⟨rfl, hb1⟩
  have HB1 := hid hb1
  clear hb1
  go_wp2_with fail
  refine (HS.out _ HB1.out).mono ?_
  rintro r w2 ⟨rfl, hb2⟩
  have HB2 := hid (HB1.out.trans (hb2.mono HB1.out.size))
  clear hb2
  go_wp2
  go_ret
  exact ⟨rfl, HB2.out⟩
set_option maxHeartbeats 1000000 in
theorem Is_ex (n cap b : Nat) (w : World) (h : ExAt w b n) (hT : Tab w) (hg : 2 < w.heap.size) :
    Calls Tryd.prog 27 #[.slice (some ⟨b, 0, none⟩) n cap] w fun r w' => r = .returned (.bool true) ∧ Below w.heap.size w w' := by
  have HR := hid (refusal_ex n cap b w h hT hg)
  clear h hT hg
  go_enter Tryd.func27, Tryd.ntmps27
  go_wp2_with fail
  refine HR.out.mono ?_
  rintro r w1 ⟨rfl, hb1⟩
  have HB1 := hid hb1
  clear hb1
  go_wp2
  go_ret
  exact ⟨rfl, HB1.out⟩
set_option maxHeartbeats 1000000 in
theorem told_ex (n cap b : Nat) (w : World) (h : ExAt w b n) :
    Calls Tryd.prog 49 #[.slice (some ⟨b, 0, none⟩) n cap] w fun r w' => r = .returned (.tuple #[.slice (some ⟨b, 0, none⟩) n cap, .int .i64 0]) ∧ Below w.heap.size w w' := by
  have HF := hid (ex_fin n cap b w h)
  have hn : n ≤ 2 := by have := h.1; omega
  have hnI : (n : Int) ≤ 64 := by omega
  clear h hn
  go_enter Tryd.func49, Tryd.ntmps49
  go_wp2_with fail
  refine HF.out.mono ?_
  rintro r w1 ⟨rfl, hb1⟩
  have HB1 := hid hb1
  clear hb1
  go_wp2
  go_ret2
  exact ⟨rfl, HB1.out⟩
theorem fin60 : allFin [4877398396442247168] = true := by decide +kernel
set_option maxHeartbeats 1000000 in
theorem refusalWith_ex (n cap b : Nat) (w : World) (h : ExAt w b n) (hT : Tab w) (hg : 2 < w.heap.size) :
    Calls Tryd.prog 47 #[.slice (some ⟨b, 0, none⟩) n cap, .float .f64 4877398396442247168] w fun r w' => r = .returned (.int .i64 0) ∧ Below w.heap.size w w' := by
  have HR := hid (refusal_ex n cap b w h hT hg)
  have HF : Hid (∀ W b, b < W.heap.size → W.cell? ⟨b, 0, none⟩ = some (.float .f64 4877398396442247168) → Calls Tryd.prog 51 #[.slice (some ⟨b, 0, none⟩) 1 1] W fun r w' => r = .returned (.bool true) ∧ Below W.heap.size W w') := fun W b hb h0 => by
    have := Finite_any [4877398396442247168] b 0 1 W hb (fun i hi => by
      have hi2 : i < 1 := hi
      have : i = 0 := by omega
      subst this; exact h0) (fun i hi => by
      have hi2 : i < 1 := hi
      have : i = 0 := by omega
      subst this; decide) (by simp)
    rw [fin60] at this
    exact this
  clear h hT hg
  go_enter Tryd.func47, Tryd.ntmps47
  go_wp2_with fail
  refine HR.out.mono ?_
  rintro r w1 ⟨rfl, hb1⟩
  have HB1 := hid hb1
  clear hb1
  go_wp2_with fail
  refine (HF.out _ _ (by simp) (by simp [go_sem])).mono ?_
  rintro r w2 ⟨rfl, hb2⟩
  have HB2 := hid ((HB1.out.alloc HB1.out.size _).trans (hb2.mono (by have := HB1.out.size; simp; omega)))
  clear hb2
  go_wp2
  go_ret
  exact ⟨rfl, HB2.out⟩
end Go.Proofs.YteidllapjokhlaaDoor

namespace Go.Proofs.YteidllapjokhlaaDoor
open Go.RowKit Go.IntWalk

/-- The sum of a list's numbers, in steps of 2^-1074. -/
def sumSv (zs : List Nat) : Nat → Int
  | 0 => 0
  | k + 1 => sumSv zs k + sv (zs.getD k 0)
def kS : Nat := 1074
theorem kS_is : kS = 1074 := rfl
/-- A list of numbers in memory. -/
def NumsAt (w : World) (b off : Nat) (zs : List Nat) : Prop := b < w.heap.size ∧ ∀ i, i < zs.length → w.cell? ⟨b, off + i, none⟩ = some (.float .f64 (zs.getD i 0))
theorem NumsAt.below {w w' : World} {b off : Nat} {zs : List Nat} (h : NumsAt w b off zs) (hb : Below w.heap.size w w') : NumsAt w' b off zs :=
  ⟨Nat.lt_of_lt_of_le h.1 hb.size, fun i hi => by rw [hb.cell (p := ⟨b, off + i, none⟩) h.1]; exact h.2 i hi⟩
theorem NumsAt.but {w w' : World} {b off z : Nat} {zs : List Nat} (h : NumsAt w b off zs) (hb : But z w w') (hz : b ≠ z) : NumsAt w' b off zs :=
  ⟨Nat.lt_of_lt_of_le h.1 hb.size, fun i hi => hb.cell (h.2 i hi) hz⟩
def FinL (zs : List Nat) : Prop := ∀ i, i < zs.length → zs.getD i 0 < 18446744073709551616 ∧ zs.getD i 0 % 9223372036854775808 < 9218868437227405312
theorem exp_fin (x : Nat) (h : x % 9223372036854775808 < 9218868437227405312) : (expOf x == 2047) = false := by
  rw [beq_eq_false_iff_ne]
  unfold expOf canonOf
  split <;> omega
theorem fin_take (zs : List Nat) (h : FinL zs) : ∀ k, k ≤ zs.length → allFin (zs.take k) = true
  | 0, _ => rfl
  | k + 1, hk => by
    rw [allFin_take zs k hk, fin_take zs h k (by omega), exp_fin _ (h k hk).2]
    rfl
theorem fin_all (zs : List Nat) (h : FinL zs) : allFin zs = true := by
  have := fin_take zs h zs.length (Nat.le_refl _)
  rwa [List.take_of_length_le (Nat.le_refl _)] at this
/-- One number more. -/
theorem sum_put (zs : List Nat) (b k : Nat) (W0 w : World) (h : AccI W0 b (sumSv zs k * 2 ^ kS) k w) (hf : FinL zs) (hk : k < zs.length) (hn : zs.length < 18446744073709551616) :
    Calls Tryd.prog 54 #[.pointer (some ⟨b, 0, none⟩), .bool (pNeg (zs.getD k 0)), .int .u64 0, .int .u64 (pMant (zs.getD k 0)), .int .i64 (pExp (zs.getD k 0))] w fun r w' => r = .returned (.tuple #[]) ∧ AccI W0 b (sumSv zs (k + 1) * 2 ^ kS) (k + 1) w' := by
  obtain ⟨x1, x2⟩ := hf k hk
  obtain ⟨x, hx⟩ : ∃ x, zs.getD k 0 = x := ⟨_, rfl⟩
  have hs : sumSv zs (k + 1) = sumSv zs k + sv x := by rw [← hx]; rfl
  rw [hs]
  rw [hx] at x1 x2 ⊢
  obtain ⟨j, j1, j2, j3, j4, j5, j6, j7⟩ := sv_parts x x2
  have hkS := kS_is
  have habs : pMant x * 2 ^ j = (sv x).natAbs := by
    rw [← j1, Int.natAbs_mul, Int.natAbs_pow]
    congr 1
    unfold sgnN
    split <;> simp
  have hv : (pMant x + 18446744073709551616 * 0) * 2 ^ (j + kS) < 2 ^ kT := by
    rw [Nat.mul_zero, Nat.add_zero, Nat.pow_add, ← Nat.mul_assoc, habs]
    refine Nat.lt_of_lt_of_le (Nat.mul_lt_mul_of_pos_right j3 (Nat.two_pow_pos kS)) ?_
    rw [← Nat.pow_add]
    exact Nat.pow_le_pow_right (by decide) (by decide)
  have hp := acc_put (pNeg x) b (pMant x) 0 (j + kS) k (pExp x) _ W0 w h j7 (by decide) (by omega) (by omega) hv (by omega)
  refine hp.mono ?_
  rintro r w' ⟨rfl, ha⟩
  refine ⟨rfl, ?_⟩
  have e : sgnN (pNeg x) ((pMant x + 18446744073709551616 * 0) * 2 ^ (j + kS)) = sv x * 2 ^ kS := by
    rw [← j1, Nat.mul_zero, Nat.add_zero, Int.mul_assoc, ← Int.pow_add]
    unfold sgnN
    split
    · rw [Int.natCast_mul, Int.natCast_pow, Int.neg_mul]; rfl
    · rw [Int.natCast_mul, Int.natCast_pow]; rfl
  rw [e, ← Int.add_mul] at ha
  exact ha
set_option maxRecDepth 20000 in
theorem zero_tot : Tryd.zeroCells82 = Array.replicate 268 (.int .u32 0) := by rfl
/-- A new total. -/
theorem acc_new (w : World) : AccI (w.alloc (.cells Tryd.zeroCells82 82)) w.heap.size 0 0 (w.alloc (.cells Tryd.zeroCells82 82)) := by
  refine ⟨fun _ => 0, ⟨?_, fun _ => (by decide : 0 < 4294967296)⟩, ?_, ?_, ?_, But.refl _ _⟩
  · have := World.rowIs_alloc w (Array.replicate 268 (.int .u32 0)) 82 (fun _ => .int .u32 0) (fun i hi => by simp at hi; simp [hi])
    rw [Array.size_replicate] at this
    rw [zero_tot]
    exact this
  · show (natF (fun _ => 0) 134 : Int) - (natF (fun _ => 0) 134 : Int) = 0
    omega
  · show natF (fun _ => 0) 134 ≤ _
    rw [natF_zero]; exact Nat.zero_le _
  · show natF (fun _ => 0) 134 ≤ _
    rw [natF_zero]; exact Nat.zero_le _
/-- The end of an adding up. -/
theorem acc_end {W0 wr w : World} {t k : Nat} {S : Int} (h : AccI W0 t S k wr) (h0 : Below w.heap.size w W0) (ht : w.heap.size < t) (hbx : W0.heap[w.heap.size]? = some (DyBox false none 0 0 0)) (hT3 : Tab32 w) (hs : 1 < w.heap.size) :
    Calls Tryd.prog 55 #[.pointer (some ⟨t, 0, none⟩)] wr fun r w' => ∃ neg' a' n' cap' e' v0 v1 v2, r = .returned (.tuple #[.agg #[.bool neg', .slice a' n' cap', .int .i64 e'], .int .i64 0]) ∧ Hid (DyRet S (-2148) (w.heap.size + 1) neg' a' n' cap' e' w') ∧ Hid (Res w.heap.size wr w') ∧ Hid (Below w.heap.size w wr) ∧ (∀ o, w'.frozen? ⟨w.heap.size, o, none⟩ = false) ∧ w'.cell? ⟨w.heap.size, 0, none⟩ = some v0 ∧ w'.cell? ⟨w.heap.size, 1, none⟩ = some v1 ∧ w'.cell? ⟨w.heap.size, 2, none⟩ = some v2 := by
  obtain ⟨o, h1, h2, h3, h4, h5⟩ := h
  have hlt : w.heap.size < W0.heap.size := (Array.getElem?_eq_some_iff.1 hbx).1
  have hbw : Below w.heap.size w wr := h0.trans (h5.below (Nat.le_of_lt hlt) (Nat.le_of_lt ht))
  have hbx2 : wr.heap[w.heap.size]? = some (DyBox false none 0 0 0) := by rw [h5.block _ hlt (by omega)]; exact hbx
  refine (tdyad_any t o wr h1 (hT3.below hs hbw) (Nat.lt_of_lt_of_le hs hbw.size)).mono ?_
  rintro r w' ⟨ho, hb⟩
  rw [h2] at ho
  obtain ⟨neg', a', n', cap', e', rfl, hr⟩ := ho.ret
  have hres : Res w.heap.size wr w' := Res.call ⟨But.refl _ _, _, _, _, hbx2⟩ hb
  obtain ⟨f1, _, v0, v1, v2, f2, f3, f4⟩ := hres.facts
  have hlt2 : w.heap.size < wr.heap.size := (Array.getElem?_eq_some_iff.1 hbx2).1
  exact ⟨neg', a', n', cap', e', v0, v1, v2, rfl, DyOut.but hr (But.refl w.heap.size _) hlt2 hlt2, hres, hbw, f1, f2, f3, f4⟩
end Go.Proofs.YteidllapjokhlaaDoor
