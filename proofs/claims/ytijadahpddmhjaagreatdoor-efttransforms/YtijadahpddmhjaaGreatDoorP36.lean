
/- What the document's AllFinite does (as in FieldsWalk). -/
import Derived.Test.YtijadahpddmhjaaGreatDoorP28
import Derived.Test.YtijadahpddmhjaaGreatDoorP35
import Derived.Test.YtijadahpddmhjaaGreatDoorP26
import Derived.Test.YtijadahpddmhjaaGreatDoorP16
namespace Go.Proofs.YtijadahpddmhjaaGreatDoor
open Go.RowKit Go.IntWalk

set_option maxHeartbeats 1000000 in
theorem rallfin_any (zs : List Nat) (b off cap : Nat) (w : World) (hcell : ∀ i, i < zs.length → w.cell? ⟨b, off + i, none⟩ = some (.float .f64 (zs.getD i 0))) (hz : ∀ i, i < zs.length → zs.getD i 0 < 18446744073709551616) (hn : zs.length ≤ 140737488355328) :
    Calls Tryz.prog 36 #[.slice (some ⟨b, off, none⟩) zs.length cap] w fun r w' => r = .returned (.bool (allFin zs)) ∧ w' = w := by
  have HC := hid hcell
  have HZ := hid hz
  obtain ⟨n, hnl⟩ : ∃ n, Hid (zs.length = n) := ⟨_, rfl⟩
  rw [hnl.out] at hn ⊢
  clear hcell hz
  go_enter Tryz.func36, Tryz.ntmps36
  go_wp2
  go_loop [7] (fun i => ∃ k : Nat, k ≤ n ∧ i = .int .i64 k ∧ Hid (allFin (zs.take k) = true)) (fun i => n - (intOf i).toNat)
  case atStart => exact ⟨0, Nat.zero_le _, rfl, rfl⟩
  case round =>
    obtain ⟨k, hkn, rfl, HA⟩ := hrel
    by_cases hlt : k < n
    · have hck := HC.out k (by rw [hnl.out]; exact hlt)
      have HZK : Hid (zs.getD k 0 < 18446744073709551616) := HZ.out k (by rw [hnl.out]; exact hlt)
      have HTK : Hid (allFin (zs.take (k + 1)) = (allFin (zs.take k) && !(expOf (zs.getD k 0) == 2047))) := allFin_take zs k (by rw [hnl.out]; exact hlt)
      obtain ⟨z, hzz⟩ : ∃ z, Hid (zs.getD k 0 = z) := ⟨_, rfl⟩
      rw [hzz.out] at hck HZK HTK
      by_cases he : expOf z = 2047
      · have hq : (expOf z == 2047) = true := by rw [he]; rfl
        have HQ := hid hq
        clear he hq
        go_wp2_with (first | (go_at_call 59; refine (rfinite_any z _ HZK.out).mono ?_; rw [HQ.out]; rintro e w1 ⟨rfl, rfl⟩))
        go_ret
        exact ⟨ret_bool (allFin_false zs (k + 1) (by rw [HTK.out, HQ.out]; simp)).symm, rfl⟩
      · have HQ : Hid ((expOf z == 2047) = false) := by show (expOf z == 2047) = false; simpa using he
        clear he
        go_wp2_with (first | (go_at_call 59; refine (rfinite_any z _ HZK.out).mono ?_; rw [HQ.out]; rintro e w1 ⟨rfl, rfl⟩))
        go_round
        case rel => exact ⟨k + 1, by omega, by go_num, by show allFin _ = true; rw [HTK.out, HA.out, HQ.out]; rfl⟩
        case measure => simp [intOf]; omega
    · go_wp2
      go_ret
      exact ⟨ret_bool (allFin_all zs k (by rw [hnl.out]; omega) HA.out).symm, rfl⟩
end Go.Proofs.YtijadahpddmhjaaGreatDoor

namespace Go.Proofs.YtijadahpddmhjaaGreatDoor
open Go.RowKit Go.IntWalk

/-- The sum of a list's numbers, in steps of 2^-1074. -/
def sumSv (zs : List Nat) : Nat → Int
  | 0 => 0
  | k + 1 => sumSv zs k + sv (zs.getD k 0)
def kS : Nat := 1074
theorem kS_is : kS = 1074 := rfl
/-- A list of numbers in memory. -/
def NumsAt (w : World) (b off : Nat) (zs : List Nat) : Prop := b < w.heap.size ∧ ∀ i, i < zs.length → w.cell? ⟨b, off + i, none⟩ = some (.float .f64 (zs.getD i 0))
theorem NumsAt.below {w w' : World} {b off : Nat} {zs : List Nat} (h : NumsAt w b off zs) (hb : Below w.heap.size w w') : NumsAt w' b off zs :=
  ⟨Nat.lt_of_lt_of_le h.1 hb.size, fun i hi => by rw [hb.cell (p := ⟨b, off + i, none⟩) h.1]; exact h.2 i hi⟩
theorem NumsAt.but {w w' : World} {b off z : Nat} {zs : List Nat} (h : NumsAt w b off zs) (hb : But z w w') (hz : b ≠ z) : NumsAt w' b off zs :=
  ⟨Nat.lt_of_lt_of_le h.1 hb.size, fun i hi => hb.cell (h.2 i hi) hz⟩
def FinL (zs : List Nat) : Prop := ∀ i, i < zs.length → zs.getD i 0 < 18446744073709551616 ∧ zs.getD i 0 % 9223372036854775808 < 9218868437227405312
theorem exp_fin (x : Nat) (h : x % 9223372036854775808 < 9218868437227405312) : (expOf x == 2047) = false := by
  rw [beq_eq_false_iff_ne]
  unfold expOf canonOf
  split <;> omega
theorem fin_take (zs : List Nat) (h : FinL zs) : ∀ k, k ≤ zs.length → allFin (zs.take k) = true
  | 0, _ => rfl
  | k + 1, hk => by
    rw [allFin_take zs k hk, fin_take zs h k (by omega), exp_fin _ (h k hk).2]
    rfl
theorem fin_all (zs : List Nat) (h : FinL zs) : allFin zs = true := by
  have := fin_take zs h zs.length (Nat.le_refl _)
  rwa [List.take_of_length_le (Nat.le_refl _)] at this
/-- One number more. -/
theorem sum_put (zs : List Nat) (b k : Nat) (W0 w : World) (h : AccI W0 b (sumSv zs k * 2 ^ kS) k w) (hf : FinL zs) (hk : k < zs.length) (hn : zs.length < 18446744073709551616) :
    Calls Tryz.prog 94 #[.pointer (some ⟨b, 0, none⟩), .bool (pNeg (zs.getD k 0)), .int .u64 0, .int .u64 (pMant (zs.getD k 0)), .int .i64 (pExp (zs.getD k 0))] w fun r w' => r = .returned (.tuple #[]) ∧ AccI W0 b (sumSv zs (k + 1) * 2 ^ kS) (k + 1) w' := by
  obtain ⟨x1, x2⟩ := hf k hk
  obtain ⟨x, hx⟩ : ∃ x, zs.getD k 0 = x := ⟨_, rfl⟩
  have hs : sumSv zs (k + 1) = sumSv zs k + sv x := by rw [← hx]; rfl
  rw [hs]
  rw [hx] at x1 x2 ⊢
  obtain ⟨j, j1, j2, j3, j4, j5, j6, j7⟩ := sv_parts x x2
  have hkS := kS_is
  have habs : pMant x * 2 ^ j = (sv x).natAbs := by
    rw [← j1, Int.natAbs_mul, Int.natAbs_pow]
    congr 1
    unfold sgnN
    split <;> simp
  have hv : (pMant x + 18446744073709551616 * 0) * 2 ^ (j + kS) < 2 ^ kT := by
    rw [Nat.mul_zero, Nat.add_zero, Nat.pow_add, ← Nat.mul_assoc, habs]
    refine Nat.lt_of_lt_of_le (Nat.mul_lt_mul_of_pos_right j3 (Nat.two_pow_pos kS)) ?_
    rw [← Nat.pow_add]
    exact Nat.pow_le_pow_right (by decide) (by decide)
  have hp := acc_put (pNeg x) b (pMant x) 0 (j + kS) k (pExp x) _ W0 w h j7 (by decide) (by omega) (by omega) hv (by omega)
  refine hp.mono ?_
  rintro r w' ⟨rfl, ha⟩
  refine ⟨rfl, ?_⟩
  have e : sgnN (pNeg x) ((pMant x + 18446744073709551616 * 0) * 2 ^ (j + kS)) = sv x * 2 ^ kS := by
    rw [← j1, Nat.mul_zero, Nat.add_zero, Int.mul_assoc, ← Int.pow_add]
    unfold sgnN
    split
    · rw [Int.natCast_mul, Int.natCast_pow, Int.neg_mul]; rfl
    · rw [Int.natCast_mul, Int.natCast_pow]; rfl
  rw [e, ← Int.add_mul] at ha
  exact ha
set_option maxRecDepth 20000 in
theorem zero_tot : Tryz.zeroCells105 = Array.replicate 268 (.int .u32 0) := by rfl
/-- A new total. -/
theorem acc_new (w : World) : AccI (w.alloc (.cells Tryz.zeroCells105 105)) w.heap.size 0 0 (w.alloc (.cells Tryz.zeroCells105 105)) := by
  refine ⟨fun _ => 0, ⟨?_, fun _ => (by decide : 0 < 4294967296)⟩, ?_, ?_, ?_, But.refl _ _⟩
  · have := World.rowIs_alloc w (Array.replicate 268 (.int .u32 0)) 105 (fun _ => .int .u32 0) (fun i hi => by simp at hi; simp [hi])
    rw [Array.size_replicate] at this
    rw [zero_tot]
    exact this
  · show (natF (fun _ => 0) 134 : Int) - (natF (fun _ => 0) 134 : Int) = 0
    omega
  · show natF (fun _ => 0) 134 ≤ _
    rw [natF_zero]; exact Nat.zero_le _
  · show natF (fun _ => 0) 134 ≤ _
    rw [natF_zero]; exact Nat.zero_le _
/-- The end of an adding up. -/
theorem acc_end {W0 wr w : World} {t k : Nat} {S : Int} (h : AccI W0 t S k wr) (h0 : Below w.heap.size w W0) (ht : w.heap.size < t) (hbx : W0.heap[w.heap.size]? = some (DyBox false none 0 0 0)) (hT3 : Tab32 w) (hs : 1 < w.heap.size) :
    Calls Tryz.prog 95 #[.pointer (some ⟨t, 0, none⟩)] wr fun r w' => ∃ neg' a' n' cap' e' v0 v1 v2, r = .returned (.tuple #[.agg #[.bool neg', .slice a' n' cap', .int .i64 e'], .int .i64 0]) ∧ Hid (DyRet S (-2148) (w.heap.size + 1) neg' a' n' cap' e' w') ∧ Hid (Res w.heap.size wr w') ∧ Hid (Below w.heap.size w wr) ∧ (∀ o, w'.frozen? ⟨w.heap.size, o, none⟩ = false) ∧ w'.cell? ⟨w.heap.size, 0, none⟩ = some v0 ∧ w'.cell? ⟨w.heap.size, 1, none⟩ = some v1 ∧ w'.cell? ⟨w.heap.size, 2, none⟩ = some v2 := by
  obtain ⟨o, h1, h2, h3, h4, h5⟩ := h
  have hlt : w.heap.size < W0.heap.size := (Array.getElem?_eq_some_iff.1 hbx).1
  have hbw : Below w.heap.size w wr := h0.trans (h5.below (Nat.le_of_lt hlt) (Nat.le_of_lt ht))
  have hbx2 : wr.heap[w.heap.size]? = some (DyBox false none 0 0 0) := by rw [h5.block _ hlt (by omega)]; exact hbx
  refine (tdyad_any t o wr h1 (hT3.below hs hbw) (Nat.lt_of_lt_of_le hs hbw.size)).mono ?_
  rintro r w' ⟨ho, hb⟩
  rw [h2] at ho
  obtain ⟨neg', a', n', cap', e', rfl, hr⟩ := ho.ret
  have hres : Res w.heap.size wr w' := Res.call ⟨But.refl _ _, _, _, _, hbx2⟩ hb
  obtain ⟨f1, _, v0, v1, v2, f2, f3, f4⟩ := hres.facts
  have hlt2 : w.heap.size < wr.heap.size := (Array.getElem?_eq_some_iff.1 hbx2).1
  exact ⟨neg', a', n', cap', e', v0, v1, v2, rfl, DyOut.but hr (But.refl w.heap.size _) hlt2 hlt2, hres, hbw, f1, f2, f3, f4⟩
end Go.Proofs.YtijadahpddmhjaaGreatDoor

namespace Go.Proofs.YtijadahpddmhjaaGreatDoor
open Go.RowKit Go.IntWalk

theorem p60 : pNeg 4877398396442247168 = false ∧ pMant 4877398396442247168 = 1 ∧ pExp 4877398396442247168 = 60 ∧ pErr 4877398396442247168 = 0 := by decide +kernel
set_option maxHeartbeats 1000000 in
theorem lastExp_60 (w : World) (hT : Tab w) (hg : 2 < w.heap.size) : Calls Tryz.prog 120 #[.float .f64 4877398396442247168] w fun r w' => r = .returned (.int .i64 60) ∧ Below w.heap.size w w' := by
  have HP := Parts_any 4877398396442247168 w (by decide) hT hg
  obtain ⟨e1, e2, e3, e4⟩ := p60
  rw [e1, e2, e3, e4] at HP
  have HP := hid HP
  clear e1 e2 e3 e4 hT hg
  go_enter Tryz.func120, Tryz.ntmps120
  go_wp2_with fail
  refine HP.out.mono ?_
  rintro r w1 ⟨rfl, hb1⟩
  have HB1 := hid hb1
  clear hb1
  go_wp2
  go_ret
  exact ⟨rfl, HB1.out.alloc HB1.out.size _⟩
set_option maxHeartbeats 1000000 in
theorem lastDigit_60 (w : World) (hT : Tab w) (hg : 2 < w.heap.size) : Calls Tryz.prog 112 #[.float .f64 4877398396442247168] w fun r w' => r = .returned (.float .f64 4877398396442247168) ∧ Below w.heap.size w w' := by
  have HP := hid (lastExp_60 w hT hg)
  clear hT hg
  go_enter Tryz.func112, Tryz.ntmps112
  go_wp2_with fail
  refine HP.out.mono ?_
  rintro r w1 ⟨rfl, hb1⟩
  have HB1 := hid hb1
  clear hb1
  go_wp2_with fail
  refine (Ldexp_60 _).mono ?_
  rintro r w2 ⟨rfl, rfl⟩
  go_wp2
  go_ret
  exact ⟨rfl, HB1.out⟩
theorem g60 : (FloatKind.f64.format.order 4607182418800017408 0 == some .eq) = false ∧ (FloatKind.f64.format.order 4877398396442247168 0 == some .eq) = false ∧ FloatKind.f64.format.order 4607182418800017408 4877398396442247168 = some .lt := by decide +kernel
set_option maxRecDepth 4000 in
set_option maxHeartbeats 1000000 in
theorem stands_two (n cap b : Nat) (w : World) (hn : n = 1 ∨ n = 2) (h0 : w.cell? ⟨b, 0, none⟩ = some (.float .f64 4607182418800017408)) (h1 : n = 2 → w.cell? ⟨b, 1, none⟩ = some (.float .f64 4877398396442247168)) (hT : Tab w) (hg : 2 < w.heap.size) :
    Calls Tryz.prog 96 #[.slice (some ⟨b, 0, none⟩) n cap] w fun r w' => r = .returned (.bool true) ∧ Below w.heap.size w w' := by
  obtain ⟨g1, g2, g3⟩ := g60
  have HL := hid (fun (W : World) hT hg => lastDigit_60 W hT hg)
  have HT := hid (And.intro hT hg)
  clear hT hg
  go_enter Tryz.func96, Tryz.ntmps96
  go_wp2_with fail
  go_loopw [6] (fun i wr => ∃ k : Nat, k ≤ n ∧ i = .int .i64 k ∧ Hid (Below w.heap.size w wr)) (fun i _ => n - (intOf i).toNat)
  case atStart => exact ⟨0, by omega, rfl, Below.refl _ _⟩
  case round =>
    obtain ⟨k, hk, rfl, HB⟩ := hrel
    have hlt0 := World.block_lt_of_cell? w _ h0
    have c0 : wr.cell? ⟨b, 0, none⟩ = some (.float .f64 4607182418800017408) := by rw [HB.out.cell (p := ⟨b, 0, none⟩) hlt0]; exact h0
    by_cases hlt : k < n
    · rcases (show k = 0 ∨ (k = 1 ∧ n = 2) by omega) with rfl | ⟨rfl, hn2⟩
      · have hnI : (1 : Int) ≤ (n : Int) := by omega
        clear hlt0
        go_wp2
        go_quiet (fail)
        go_wp2
        refine ⟨⟨1, by omega, by go_num, bl_drewN _ HB.out⟩, ?_⟩
        simp [intOf]; omega
      · have c1 : wr.cell? ⟨b, 1, none⟩ = some (.float .f64 4877398396442247168) := by rw [HB.out.cell (p := ⟨b, 1, none⟩) hlt0]; exact h1 hn2
        have HTW : Hid (∀ W, Below w.heap.size w W → Tab W ∧ 2 < W.heap.size) := fun W hW => ⟨HT.out.1.below HT.out.2 hW, Nat.lt_of_lt_of_le HT.out.2 hW.size⟩
        have HC : Hid (∀ W, Below w.heap.size w W → W.cell? ⟨b, 0, none⟩ = some (.float .f64 4607182418800017408) ∧ W.cell? ⟨b, 1, none⟩ = some (.float .f64 4877398396442247168)) := fun W hW => ⟨by rw [hW.cell (p := ⟨b, 0, none⟩) hlt0]; exact h0, by rw [hW.cell (p := ⟨b, 1, none⟩) hlt0]; exact h1 hn2⟩
        have HN2 := hid hn2
        have hnI : (2 : Int) ≤ (n : Int) := by omega
        clear h1 h0 hn2 hn hk hlt
        go_wp2_with fail
        have HK : Hid (∀ W, Hid (Below w.heap.size w W) → (W.cell? ⟨b, 0, none⟩ = some (.float .f64 4607182418800017408) ∧ W.cell? ⟨b, 1, none⟩ = some (.float .f64 4877398396442247168)) ∧ Hid (Below w.heap.size w W)) := fun W hW => ⟨HC.out W hW.out, hW⟩
        have HQ0 : Hid (Below w.heap.size w wr.drew) := HB.out.drew
        have HLD : Hid (∀ W, Hid (Below w.heap.size w W) → Calls Tryz.prog 112 #[.float .f64 4877398396442247168] W fun r w' => r = .returned (.float .f64 4877398396442247168) ∧ Hid (Below w.heap.size w w')) := fun W hW => by
          refine (HL.out W (HTW.out W hW.out).1 (HTW.out W hW.out).2).mono ?_
          rintro r w' ⟨rfl, hb⟩
          exact ⟨rfl, hW.out.trans (hb.mono hW.out.size)⟩
        have HAB := hid (fun (W : World) => abs_one W)
        have hw1 : IntKind.i64.wrap (1 - 1) = 0 := by decide +kernel
        have hw2 : IntKind.i64.wrap 0 = 0 := by decide +kernel
        have hw3 : ((1 : Int) - 1) = 0 := by decide
        have hw4 : wrap64 0 = 0 := by decide +kernel
        have hw5 : wrap64 (1 - 1) = 0 := by decide +kernel
        have hnI0 : (0 : Int) < (n : Int) := by omega
        have hnN0 : 0 < n := by omega
        have hnI1 : (1 : Int) < (n : Int) := by omega
        clear c0 c1 HL HTW HT
        go_region_held3 (fun W => (W.cell? ⟨b, 0, none⟩ = some (.float .f64 4607182418800017408) ∧ W.cell? ⟨b, 1, none⟩ = some (.float .f64 4877398396442247168)) ∧ Hid (Below w.heap.size w W))
          ((refine HK.out _ ?_; first | assumption | exact HQ0))
          (first
            | (go_at_call 44; refine (HAB.out _).mono ?_; rintro r w2 ⟨rfl, rfl⟩)
            | (go_at_call 112; refine (HLD.out _ (And.right (by assumption))).mono ?_; rintro r w3 ⟨rfl, HF3⟩))
        go_wp2
        have hn3 : 2 ≤ n := by have := HN2.out; omega
        refine ⟨⟨2, hn3, by go_num, HF3⟩, ?_⟩
        simp [intOf]; omega
    · have : k = n := by omega
      subst this
      go_wp2
      go_ret
      exact ⟨rfl, HB.out⟩
end Go.Proofs.YtijadahpddmhjaaGreatDoor

namespace Go.Proofs.YtijadahpddmhjaaGreatDoor
open Go.RowKit Go.IntWalk

def exL : List Nat := [4607182418800017408, 4877398396442247168]
theorem exL_fin (n : Nat) (hn : n = 1 ∨ n = 2) : allFin (exL.take n) = true ∧ (exL.take n).length = n := by
  rcases hn with rfl | rfl <;> decide +kernel
/-- The first n of the two numbers lie at the block. -/
def ExAt (w : World) (b n : Nat) : Prop := (n = 1 ∨ n = 2) ∧ w.cell? ⟨b, 0, none⟩ = some (.float .f64 4607182418800017408) ∧ (n = 2 → w.cell? ⟨b, 1, none⟩ = some (.float .f64 4877398396442247168))
theorem ExAt.below {w w' : World} {b n : Nat} (h : ExAt w b n) (hb : Below w.heap.size w w') : ExAt w' b n := by
  have hlt0 := World.block_lt_of_cell? w _ h.2.1
  exact ⟨h.1, by rw [hb.cell (p := ⟨b, 0, none⟩) hlt0]; exact h.2.1, fun c => by rw [hb.cell (p := ⟨b, 1, none⟩) hlt0]; exact h.2.2 c⟩
theorem ex_fin (n cap b : Nat) (w : World) (h : ExAt w b n) : Calls Tryz.prog 33 #[.slice (some ⟨b, 0, none⟩) n cap] w fun r w' => r = .returned (.bool true) ∧ Below w.heap.size w w' := by
  obtain ⟨hn, h0, h1⟩ := h
  obtain ⟨f1, f2⟩ := exL_fin n hn
  have := Finite_any (exL.take n) b 0 cap w (World.block_lt_of_cell? w _ h0) (fun i hi => by
    rw [f2] at hi
    rcases hn with rfl | rfl
    · have : i = 0 := by omega
      subst this; exact h0
    · rcases (show i = 0 ∨ i = 1 by omega) with rfl | rfl
      · exact h0
      · exact h1 rfl) (fun i hi => by
    rw [f2] at hi
    rcases hn with rfl | rfl
    · have : i = 0 := by omega
      subst this; decide
    · rcases (show i = 0 ∨ i = 1 by omega) with rfl | rfl <;> decide) (by rw [f2]; omega)
  rw [f1, f2] at this
  exact this
set_option maxHeartbeats 1000000 in
theorem refusal_ex (n cap b : Nat) (w : World) (h : ExAt w b n) (hT : Tab w) (hg : 2 < w.heap.size) :
    Calls Tryz.prog 72 #[.slice (some ⟨b, 0, none⟩) n cap] w fun r w' => r = .returned (.int .i64 0) ∧ Below w.heap.size w w' := by
  have HF := hid (ex_fin n cap b w h)
  have HS : Hid (∀ W, Below w.heap.size w W → Calls Tryz.prog 96 #[.slice (some ⟨b, 0, none⟩) n cap] W fun r w' => r = .returned (.bool true) ∧ Below W.heap.size W w') := fun W hW => by
    obtain ⟨e1, e2, e3⟩ := h.below hW
    exact stands_two n cap b W e1 e2 e3 (hT.below hg hW) (Nat.lt_of_lt_of_le hg hW.size)
  have hn : n ≤ 2 := by have := h.1; omega
  have hnI : (n : Int) ≤ 64 := by omega
  clear h hT hg hn
  go_enter Tryz.func72, Tryz.ntmps72
  go_wp2_with fail
  refine HF.out.mono ?_
  rintro r w1 ⟨rfl, hb1⟩
  have HB1 := hid hb1
  clear hb1
  go_wp2_with fail
  refine (HS.out _ HB1.out).mono ?_
  rintro r w2 ⟨rfl, hb2⟩
  have HB2 := hid (HB1.out.trans (hb2.mono HB1.out.size))
  clear hb2
  go_wp2
  go_ret
  exact ⟨rfl, HB2.out⟩
set_option maxHeartbeats 1000000 in
theorem Is_ex (n cap b : Nat) (w : World) (h : ExAt w b n) (hT : Tab w) (hg : 2 < w.heap.size) :
    Calls Tryz.prog 43 #[.slice (some ⟨b, 0, none⟩) n cap] w fun r w' => r = .returned (.bool true) ∧ Below w.heap.size w w' := by
  have HR := hid (refusal_ex n cap b w h hT hg)
  clear h hT hg
  go_enter Tryz.func43, Tryz.ntmps43
  go_wp2_with fail
  refine HR.out.mono ?_
  rintro r w1 ⟨rfl, hb1⟩
  have HB1 := hid hb1
  clear hb1
  go_wp2
  go_ret
  exact ⟨rfl, HB1.out⟩
set_option maxHeartbeats 1000000 in
theorem told_ex (n cap b : Nat) (w : World) (h : ExAt w b n) :
    Calls Tryz.prog 69 #[.slice (some ⟨b, 0, none⟩) n cap] w fun r w' => r = .returned (.tuple #[.slice (some ⟨b, 0, none⟩) n cap, .int .i64 0]) ∧ Below w.heap.size w w' := by
  have HF := hid (ex_fin n cap b w h)
  have hn : n ≤ 2 := by have := h.1; omega
  have hnI : (n : Int) ≤ 64 := by omega
  clear h hn
  go_enter Tryz.func69, Tryz.ntmps69
  go_wp2_with fail
  refine HF.out.mono ?_
  rintro r w1 ⟨rfl, hb1⟩
  have HB1 := hid hb1
  clear hb1
  go_wp2
  go_ret2
  exact ⟨rfl, HB1.out⟩
theorem fin60 : allFin [4877398396442247168] = true := by decide +kernel
set_option maxHeartbeats 1000000 in
theorem refusalWith_ex (n cap b : Nat) (w : World) (h : ExAt w b n) (hT : Tab w) (hg : 2 < w.heap.size) :
    Calls Tryz.prog 67 #[.slice (some ⟨b, 0, none⟩) n cap, .float .f64 4877398396442247168] w fun r w' => r = .returned (.int .i64 0) ∧ Below w.heap.size w w' := by
  have HR := hid (refusal_ex n cap b w h hT hg)
  have HF : Hid (∀ W b, b < W.heap.size → W.cell? ⟨b, 0, none⟩ = some (.float .f64 4877398396442247168) → Calls Tryz.prog 33 #[.slice (some ⟨b, 0, none⟩) 1 1] W fun r w' => r = .returned (.bool true) ∧ Below W.heap.size W w') := fun W b hb h0 => by
    have := Finite_any [4877398396442247168] b 0 1 W hb (fun i hi => by
      have hi2 : i < 1 := hi
      have : i = 0 := by omega
      subst this; exact h0) (fun i hi => by
      have hi2 : i < 1 := hi
      have : i = 0 := by omega
      subst this; decide) (by simp)
    rw [fin60] at this
    exact this
  clear h hT hg
  go_enter Tryz.func67, Tryz.ntmps67
  go_wp2_with fail
  refine HR.out.mono ?_
  rintro r w1 ⟨rfl, hb1⟩
  have HB1 := hid hb1
  clear hb1
  go_wp2_with fail
  refine (HF.out _ _ (by simp) (by simp [go_sem])).mono ?_
  rintro r w2 ⟨rfl, hb2⟩
  have HB2 := hid ((HB1.out.alloc HB1.out.size _).trans (hb2.mono (by have := HB1.out.size; simp; omega)))
  clear hb2
  go_wp2
  go_ret
  exact ⟨rfl, HB2.out⟩
end Go.Proofs.YtijadahpddmhjaaGreatDoor
