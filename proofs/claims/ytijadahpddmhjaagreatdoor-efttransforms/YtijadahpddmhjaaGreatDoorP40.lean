
/- The document's Odd. -/
import Derived.Test.YtijadahpddmhjaaGreatDoorP39
namespace Go.Proofs.YtijadahpddmhjaaGreatDoor
open Go.RowKit Go.IntWalk

/-- z * 2^B with an odd magnitude, or 0 with the exponent 0. -/
def OddV (w : World) (q : Nat) (e B z : Int) (bd : Nat) : Prop := (z = 0 ∧ NumAt w q 0 bd ∧ e = 0) ∨ ∃ v : Int, ∃ k : Nat, v % 2 = 1 ∧ NumAt w q v bd ∧ e = B + k ∧ z = v * 2 ^ k
set_option maxRecDepth 4000 in
set_option maxHeartbeats 1000000 in
theorem xOdd_zero (p bd : Nat) (e : Int) (w : World) (h : NumAt w p 0 bd) :
    Calls Tryz.prog 25 #[.agg #[.pointer (some ⟨p, 0, none⟩), .int .i64 e]] w fun r w' => ∃ q, r = .returned (.agg #[.pointer (some ⟨q, 0, none⟩), .int .i64 0]) ∧ w.heap.size ≤ q ∧ NumAt w' q 0 0 ∧ Below w.heap.size w w' := by
  obtain ⟨W0, hW0⟩ : ∃ V, Hid ((w.alloc (XBox (some ⟨p, 0, none⟩) e)).alloc (XBox none 0) = V) := ⟨_, rfl⟩
  obtain ⟨g1, g2⟩ := two_blk w (XBox (some ⟨p, 0, none⟩) e) (XBox none 0)
  have HS0 : Hid (W0.heap.size = w.heap.size + 2) := by
    show W0.heap.size = w.heap.size + 2
    rw [← hW0.out]; simp
  have HB0 : Hid (Below w.heap.size w W0) := by
    rw [← hW0.out]
    exact ((Below.refl _ _).alloc (Nat.le_refl _) _).alloc (by simp) _
  rw [hW0.out] at g1 g2
  have HSG : Hid (Calls Tryz.prog 24 #[.pointer (some ⟨p, 0, none⟩)] W0 fun r w' => r = .returned (.int .i64 0) ∧ w' = W0) := NSign p 0 bd W0 (h.below HB0.out)
  obtain ⟨d1, d2, _⟩ := xcells_of (show W0.heap[w.heap.size]? = some (.cells #[.pointer (some ⟨p, 0, none⟩), .int .i64 e] 34) from g1)
  obtain ⟨V1, hV1⟩ : ∃ V, Hid (W0.alloc (.cells #[.bool false, .slice none 0 0] 63) = V) := ⟨_, rfl⟩
  have hr : V1.heap[w.heap.size + 1]? = some (XBox none 0) := by
    rw [← hV1.out]
    show (W0.alloc _).heap[w.heap.size + 1]? = _
    rw [((Below.refl W0.heap.size W0).alloc (Nat.le_refl _) _).block _ (by have := HS0.out; omega)]
    exact g2
  have HNF : Hid (NumAt V1 W0.heap.size 0 0) := by rw [← hV1.out]; exact fresh_num W0
  have HBV : Hid (Below w.heap.size w V1) := by rw [← hV1.out]; exact HB0.out.alloc HB0.out.size _
  obtain ⟨z1, z2, z3⟩ := xcells_of (show V1.heap[w.heap.size + 1]? = some (.cells #[.pointer none, .int .i64 0] 34) from hr)
  have HR := hid hr
  unfold XBox at hW0
  have hW0' := hW0.out
  have hV1' := hV1.out
  clear h g1 g2 hr
  go_enter Tryz.func25, Tryz.ntmps25
  go_wp2_with fail
  refine HSG.out.mono ?_
  rintro r w1 ⟨rfl, rfl⟩
  go_wp2
  exact bodyPost_ret (v := .agg #[.pointer (some ⟨w1.heap.size, 0, none⟩), .int .i64 0]) (by simp [results, Tryz.results25, go_sem, z1, z2]) rfl ⟨w1.heap.size, rfl, by have := HS0.out; omega, HNF.out.stored (by have := HS0.out; omega) HR.out _ _, Below.setCell (Below.setCell HBV.out (by simp) _) (by simp) _⟩
set_option maxRecDepth 4000 in
set_option maxHeartbeats 1000000 in
theorem xOdd_some (p bd : Nat) (v e : Int) (w : World) (h : NumAt w p v bd) (hv : v ≠ 0) (hbd : bd ≤ 400000) (he1 : -1000000 ≤ e) (he2 : e ≤ 1000000) (hT : Tab32 w) (hs : 1 < w.heap.size) :
    Calls Tryz.prog 25 #[.agg #[.pointer (some ⟨p, 0, none⟩), .int .i64 e]] w fun r w' => ∃ q, ∃ T m : Nat, r = .returned (.agg #[.pointer (some ⟨q, 0, none⟩), .int .i64 (e + T)]) ∧ w.heap.size ≤ q ∧ v.natAbs = 2 ^ T * m ∧ m % 2 = 1 ∧ T ≤ 32 * bd ∧ NumAt w' q (sgM v m) (bd + 1) ∧ Below w.heap.size w w' := by
  obtain ⟨W0, hW0⟩ : ∃ V, Hid ((w.alloc (XBox (some ⟨p, 0, none⟩) e)).alloc (XBox none 0) = V) := ⟨_, rfl⟩
  obtain ⟨g1, g2⟩ := two_blk w (XBox (some ⟨p, 0, none⟩) e) (XBox none 0)
  have HS0 : Hid (W0.heap.size = w.heap.size + 2) := by
    show W0.heap.size = w.heap.size + 2
    rw [← hW0.out]; simp
  have HB0 : Hid (Below w.heap.size w W0) := by
    rw [← hW0.out]
    exact ((Below.refl _ _).alloc (Nat.le_refl _) _).alloc (by simp) _
  rw [hW0.out] at g1 g2
  have hs1 : ¬ sgnZ v = 0 := by unfold sgnZ; split <;> (try split) <;> omega
  have HSG : Hid (Calls Tryz.prog 24 #[.pointer (some ⟨p, 0, none⟩)] W0 fun r w' => r = .returned (.int .i64 (sgnZ v)) ∧ w' = W0) := NSign p v bd W0 (h.below HB0.out)
  obtain ⟨S, hS⟩ : ∃ S, Hid (sgnZ v = S) := ⟨_, rfl⟩
  rw [hS.out] at HSG hs1
  have HTZ : Hid (Calls Tryz.prog 52 #[.pointer (some ⟨p, 0, none⟩)] W0 fun r w' => ∃ T m : Nat, r = .returned (.int .u64 T) ∧ Hid (v.natAbs = 2 ^ T * m ∧ m % 2 = 1) ∧ T ≤ 32 * bd ∧ Hid (Below W0.heap.size W0 w')) := by
    refine (NTz p bd v W0 (h.below HB0.out) hv (by omega) (hT.below hs HB0.out) (Nat.lt_of_lt_of_le hs HB0.out.size)).mono ?_
    rintro r w' ⟨T, m, rfl, f1, f2, f3, f4⟩
    exact ⟨T, m, rfl, ⟨f1, f2⟩, f3, f4⟩
  obtain ⟨d1, d2, _⟩ := xcells_of (show W0.heap[w.heap.size]? = some (.cells #[.pointer (some ⟨p, 0, none⟩), .int .i64 e] 34) from g1)
  have H := hid h
  have HG := hid (And.intro g1 g2)
  unfold XBox at hW0
  have hW0' := hW0.out
  clear h hv g1 g2 hT hs
  go_enter Tryz.func25, Tryz.ntmps25
  go_wp2_with fail
  refine HSG.out.mono ?_
  rintro r w1 ⟨rfl, rfl⟩
  go_wp2_with fail
  refine HTZ.out.mono ?_
  rintro r w2 ⟨T, m, rfl, HTM, hTl, HB2⟩
  have hs0 := HS0.out
  have hsz : w.heap.size + 2 ≤ w2.heap.size := by have := HB2.out.size; omega
  have g1 : w2.heap[w.heap.size]? = some (XBox (some ⟨p, 0, none⟩) e) := by rw [HB2.out.block _ (by omega)]; exact HG.out.1
  have g2 : w2.heap[w.heap.size + 1]? = some (XBox none 0) := by rw [HB2.out.block _ (by omega)]; exact HG.out.2
  have HBw2 : Hid (Below w.heap.size w w2) := HB0.out.trans (HB2.out.mono HB0.out.size)
  have HK : Hid (∀ W, Hid (XRes (w.heap.size + 1) w2 W) → (W.cell? ⟨w.heap.size, 0, none⟩ = some (.pointer (some ⟨p, 0, none⟩)) ∧ W.cell? ⟨w.heap.size, 1, none⟩ = some (.int .i64 e)) ∧ Hid (XRes (w.heap.size + 1) w2 W)) := fun W hW => by
    have := xcells_of ((hW.out.1.block _ (by omega) (by omega)).trans g1)
    exact ⟨⟨this.1, this.2.1⟩, hW⟩
  have HQR : Hid (XRes (w.heap.size + 1) w2 w2) := ⟨But.refl _ _, _, _, g2⟩
  have hm1 : 1 ≤ m := by have := HTM.out.2; omega
  have HN : Hid (Calls Tryz.prog 53 #[.pointer (some ⟨w2.heap.size, 0, none⟩), .pointer (some ⟨p, 0, none⟩), .int .u64 T] (w2.alloc (.cells #[.bool false, .slice none 0 0] 63)).drew fun r w' => r = .returned (.pointer (some ⟨w2.heap.size, 0, none⟩)) ∧ Hid (NumAt w' w2.heap.size (sgM v m) (bd + 1) ∧ w'.heap[w.heap.size + 1]? = some (XBox none 0)) ∧ (∀ o, w'.frozen? ⟨w.heap.size + 1, o, none⟩ = false) ∧ w'.cell? ⟨w.heap.size + 1, 0, none⟩ = some (.pointer none) ∧ w'.cell? ⟨w.heap.size + 1, 1, none⟩ = some (.int .i64 0) ∧ Hid (XRes (w.heap.size + 1) w2 w')) := by
    have hx := xr_dr (xr_al HQR (.cells #[.bool false, .slice none 0 0] 63))
    have hbw : Below w.heap.size w (w2.alloc (.cells #[.bool false, .slice none 0 0] 63)).drew := (HBw2.out.alloc HBw2.out.size _).drew
    refine (NRshX w2.heap.size p T m bd v _ (zok_dr (fresh_zok w2)) (H.out.below hbw) (by omega) (by omega) HTM.out.1 hm1).mono ?_
    rintro r w' ⟨rfl, hn, hbt⟩
    have hB' := hx.out.but hbt (Nat.le_refl _) (by omega)
    have hr : w'.heap[w.heap.size + 1]? = some (XBox none 0) := by
      rw [hbt.block (w.heap.size + 1) (by show _ < (w2.alloc _).heap.size; simp; omega) (by omega)]
      show (w2.alloc _).heap[w.heap.size + 1]? = _
      rw [((Below.refl w2.heap.size w2).alloc (Nat.le_refl _) _).block _ (by omega)]
      exact g2
    obtain ⟨f1, f2, f3⟩ := xcells_of hr
    exact ⟨rfl, ⟨hn, hr⟩, f3, f1, f2, hB'⟩
  obtain ⟨N, hN⟩ : ∃ N : Int, Hid ((T : Int) = N) := ⟨_, rfl⟩
  rw [hN.out] at HN
  have hNT := hN.out
  obtain ⟨E, hE⟩ : ∃ E : Int, Hid (e + N = E) := ⟨_, rfl⟩
  have u0 : (T : Int) = N := hNT
  have u1 : IntKind.i64.wrap N = N := by rw [IntWalk.i64_in _ (by omega)]
  have u2 : IntKind.i64.wrap (e + N) = E := by rw [← hE.out, IntWalk.i64_in _ (by omega)]
  have u3 : e + N = E := hE.out
  have u4 : wrap64 E = E := by have := hE.out; unfold wrap64; omega
  have u5 : IntKind.i64.wrap E = E := by have := hE.out; rw [IntWalk.i64_in _ (by omega)]
  have u6 : wrap64 N = N := by unfold wrap64; omega
  obtain ⟨y0, y1⟩ := (HK.out _ HQR).1
  have HTL := hid hTl
  clear g1 g2 hTl hNT hm1 hs0 he1 he2
  go_wp2_with fail
  go_region_held3 (fun W => (W.cell? ⟨w.heap.size, 0, none⟩ = some (.pointer (some ⟨p, 0, none⟩)) ∧ W.cell? ⟨w.heap.size, 1, none⟩ = some (.int .i64 e)) ∧ Hid (XRes (w.heap.size + 1) w2 W))
    ((refine HK.out _ ?_; repeat' (first | with_reducible assumption | with_reducible exact HQR | with_reducible refine xr_al ?_ _ | with_reducible refine xr_dr ?_ | with_reducible refine xr_store ?_ _ _)))
    (first
      | (go_at_call 53; refine HN.out.mono ?_; rintro r w3 ⟨rfl, HF, fz, c0, c1, HB3⟩)
      | fail)
  go_wp2
  exact bodyPost_ret (v := .agg #[.pointer (some ⟨w2.heap.size, 0, none⟩), .int .i64 E]) (by simp [results, Tryz.results25, go_sem, c0, c1]) rfl ⟨w2.heap.size, T, m, by rw [hN.out, hE.out], by omega, HTM.out.1, HTM.out.2, HTL.out, HF.out.1.stored (by omega) HF.out.2 _ _, HBw2.out.trans ((xr_store HB3 _ _).out.1.below HBw2.out.size (by omega))⟩
theorem sgM_odd (v : Int) (m : Nat) (h : m % 2 = 1) : sgM v m % 2 = 1 := by unfold sgM; split <;> omega
theorem sgM_val (v : Int) (T m : Nat) (h : v.natAbs = 2 ^ T * m) : v = sgM v m * 2 ^ T := by
  have h2 : ((v.natAbs : Nat) : Int) = (m : Int) * 2 ^ T := by rw [h, Nat.mul_comm, Int.natCast_mul, Int.natCast_pow]; rfl
  unfold sgM
  split
  · rw [Int.neg_mul, ← h2]; omega
  · rw [← h2]; omega
/-- Odd, by values. -/
theorem xOdd_val (p bd : Nat) (e B z : Int) (w : World) (h : ExV w p e B z bd) (hbd : bd ≤ 400000) (he1 : -1000000 ≤ e) (he2 : e ≤ 1000000) (hT : Tab32 w) (hs : 1 < w.heap.size) :
    Calls Tryz.prog 25 #[.agg #[.pointer (some ⟨p, 0, none⟩), .int .i64 e]] w fun r w' => ∃ q e', r = .returned (.agg #[.pointer (some ⟨q, 0, none⟩), .int .i64 e']) ∧ OddV w' q e' B z (bd + 1) ∧ (e' = 0 ∨ e ≤ e' ∧ e' ≤ e + 32 * bd) ∧ Below w.heap.size w w' := by
  obtain ⟨v, k, f1, f2, f3⟩ := h
  by_cases hv : v = 0
  · subst hv
    refine (xOdd_zero p bd e w f1).mono ?_
    rintro r w' ⟨q, rfl, hq, hn, hb⟩
    exact ⟨q, 0, rfl, Or.inl ⟨by rw [f3, Int.zero_mul], hn.more (by omega), rfl⟩, Or.inl rfl, hb⟩
  · refine (xOdd_some p bd v e w f1 hv hbd he1 he2 hT hs).mono ?_
    rintro r w' ⟨q, T, m, rfl, hq, h1, h2, h3, hn, hb⟩
    refine ⟨q, e + T, rfl, Or.inr ⟨sgM v m, T + k, sgM_odd v m h2, hn, by omega, ?_⟩, Or.inr (by omega), hb⟩
    rw [f3, Int.pow_add, ← Int.mul_assoc, ← sgM_val v T m h1]
end Go.Proofs.YtijadahpddmhjaaGreatDoor

namespace Go.Proofs.YtijadahpddmhjaaGreatDoor
open Go.RowKit Go.IntWalk

set_option maxRecDepth 4000 in
set_option maxHeartbeats 2000000 in
theorem Rsh_floor (z x q s m : Nat) (L : List Nat) (w : World) (hz : ZOk z w w) (hx : BigAt w x true L) (hs : s < 32) (hq : q ≤ 1000000) (hn : L.length ≤ 900000) (hv : (natL L - 1) / 2 ^ (32 * q + s) + 1 = m) (hpos : 1 ≤ natL L) :
    Calls Tryz.prog 53 #[.pointer (some ⟨z, 0, none⟩), .pointer (some ⟨x, 0, none⟩), .int .u64 ((32 * q + s : Nat) : Int)] w fun r w' => r = .returned (.pointer (some ⟨z, 0, none⟩)) ∧ PutIs z true m (L.length + 1) w w' := by
  obtain ⟨a, cap, ho, hcap, hm, hd, hc, hneg⟩ := hx
  obtain ⟨c0, c1, hf, hlt⟩ := int_cells ho
  have HZ := hid hz
  have hm1 : 1 ≤ m := by rw [← hv]; exact Nat.le_add_left _ _
  have HMI : Hid (∀ W b, Below w.heap.size w W → W.cell? ⟨b, 0, none⟩ = some (.int .u32 1) → Calls Tryz.prog 83 #[.slice a L.length cap, .slice (some ⟨b, 0, none⟩) 1 1] W fun r w' => ∃ l' a' cap', r = .returned (.slice a' l' cap') ∧ Hid (∃ L', L'.length = l' ∧ MagIs (natL L - 1) L.length L' a' cap' w') ∧ Below W.heap.size W w') := fun W b hW hb => by
    refine (minus_any L [1] a (some ⟨b, 0, none⟩) cap 1 W (hm.below hW) (mag_one W b hb) hd dig_one can_one (by omega) hpos).mono ?_
    rintro r w' ⟨⟨L', a', cap', rfl, h1⟩, hb'⟩
    exact ⟨L'.length, a', cap', rfl, ⟨L', rfl, h1⟩, hb'⟩
  have HRI : Hid (∀ W l' a' cap', Hid (∃ L', L'.length = l' ∧ MagIs (natL L - 1) L.length L' a' cap' W) → Calls Tryz.prog 82 #[.slice a' l' cap', .int .u64 ((32 * q + s : Nat) : Int)] W fun r w' => ∃ l' a' cap', r = .returned (.slice a' l' cap') ∧ Hid (∃ L', L'.length = l' ∧ MagIs (m - 1) L.length L' a' cap' w') ∧ Below W.heap.size W w') := fun W l' a' cap' h => by
    obtain ⟨L', rfl, h1, h2, h3, h4, h5, h6⟩ := h.out
    refine (right_any L' a' cap' q s W h3 hs hq (by omega) h4).mono ?_
    rintro r w' ⟨⟨L2, a2, cap2, rfl, g1, g2, g3, g4, g5, g6⟩, hb'⟩
    refine ⟨L2.length, a2, cap2, rfl, ⟨L2, rfl, g1, by omega, g3, g4, g5, ?_⟩, hb'⟩
    rw [g6, h6, ← hv, Nat.add_sub_cancel]
  have HPL : Hid (∀ W l' a' cap' b, Hid (∃ L', L'.length = l' ∧ MagIs (m - 1) L.length L' a' cap' W) → W.cell? ⟨b, 0, none⟩ = some (.int .u32 1) → Calls Tryz.prog 84 #[.slice a' l' cap', .slice (some ⟨b, 0, none⟩) 1 1] W fun r w' => ∃ l' a' cap', r = .returned (.slice a' l' cap') ∧ Hid (∃ L', L'.length = l' ∧ MagIs m (L.length + 1) L' a' cap' w') ∧ Below W.heap.size W w') := fun W l' a' cap' b h hb => by
    obtain ⟨L', rfl, h1, h2, h3, h4, h5, h6⟩ := h.out
    refine (plus_any L' [1] a' (some ⟨b, 0, none⟩) cap' 1 W h3 (mag_one W b hb) h4 dig_one (by omega) (by simp)).mono ?_
    rintro r w' ⟨⟨L2, a2, cap2, rfl, g1, g2, g3, g4, g5, g6⟩, hb'⟩
    refine ⟨L2.length, a2, cap2, rfl, ⟨L2, rfl, g1, ?_, g3, g4, g5, ?_⟩, hb'⟩
    · have : ([1] : List Nat).length = 1 := rfl
      have hl : L.length ≠ 0 := by
        intro c
        rw [List.length_eq_zero_iff.1 c] at hpos
        exact absurd hpos (by decide)
      omega
    · rw [g6, h6]
      show m - 1 + (1 + 4294967296 * 0) = m
      omega
  have HPU : Hid (∀ W l' a' cap', Hid (ZOk z w W) → Hid (∃ L', L'.length = l' ∧ MagIs m (L.length + 1) L' a' cap' W) → Calls Tryz.prog 77 #[.pointer (some ⟨z, 0, none⟩), .bool true, .slice a' l' cap'] W fun r w' => r = .returned (.pointer (some ⟨z, 0, none⟩)) ∧ Hid (PutIs z true m (L.length + 1) w w')) := fun W l' a' cap' h1 h2 => by
    obtain ⟨L', rfl, h3⟩ := h2.out
    have := put_is z true m (L.length + 1) w W L' a' cap' h1.out h3 (by omega)
    rw [decide_eq_true (by omega : m ≠ 0), Bool.and_true] at this
    exact this
  obtain ⟨N, hN⟩ : ∃ N : Int, Hid (((32 * q + s : Nat) : Int) = N) := ⟨_, rfl⟩
  rw [hN.out] at HRI ⊢
  obtain ⟨n, hnl⟩ : ∃ n, Hid (L.length = n) := ⟨_, rfl⟩
  rw [hnl.out] at HMI HRI HPL HPU c1 ⊢
  have HXC : Hid (∀ W, Below w.heap.size w W → W.cell? ⟨x, 0, none⟩ = some (.bool true) ∧ W.cell? ⟨x, 1, none⟩ = some (.slice a n cap)) := fun W hW => ⟨by rw [hW.cell (p := ⟨x, 0, none⟩) hlt]; exact c0, by rw [hW.cell (p := ⟨x, 1, none⟩) hlt]; exact c1⟩
  clear hz hs hq hn hm hd hc hneg ho hcap hf hv hpos
  go_enter Tryz.func53, Tryz.ntmps53
  go_wp2_with fail
  refine (HMI.out _ _ ((Below.refl _ _).alloc (Nat.le_refl _) _) (by simp [go_sem])).mono ?_
  rintro r w1 ⟨l1, a1, k1, rfl, HM1, hb1⟩
  have HB1 : Hid (Below w.heap.size w w1) := ((Below.refl _ _).alloc (Nat.le_refl _) _).trans (hb1.mono (by simp))
  clear hb1
  go_wp2_with fail
  refine (HRI.out _ _ _ _ HM1).mono ?_
  rintro r w2 ⟨l2, a2, k2, rfl, HM2, hb2⟩
  have HB2 : Hid (Below w.heap.size w w2) := HB1.out.trans (hb2.mono HB1.out.size)
  have HM2' : Hid (∀ o, ∃ L', L'.length = l2 ∧ MagIs (m - 1) n L' a2 k2 (w2.alloc o)) := fun o => by
    obtain ⟨L', e1, h1, h2, h3, h4, h5, h6⟩ := HM2.out
    exact ⟨L', e1, h1, h2, h3.below ((Below.refl _ _).alloc (Nat.le_refl _) _), h4, h5, h6⟩
  clear hb2
  go_wp2_with fail
  refine (HPL.out _ _ _ _ _ (HM2'.out _) (by simp [go_sem])).mono ?_
  rintro r w3 ⟨l3, a3, k3, rfl, HM3, hb3⟩
  have HZ3 : Hid (ZOk z w w3) := HZ.out.below ((HB2.out.alloc HB2.out.size _).trans (hb3.mono (by have := HB2.out.size; simp; omega)))
  clear hb3
  go_wp2_with fail
  refine (HPU.out _ _ _ _ HZ3 HM3).mono ?_
  rintro r w4 ⟨rfl, HE⟩
  go_wp2
  go_ret
  exact ⟨rfl, HE.out⟩
theorem floor_neg (a P : Nat) (hP : 0 < P) (ha : 1 ≤ a) : (-(a : Int)) / (P : Int) = -((((a - 1) / P + 1 : Nat)) : Int) := by
  have h := Nat.div_add_mod (a - 1) P
  have hr := Nat.mod_lt (a - 1) hP
  obtain ⟨q, hq⟩ : ∃ q, (a - 1) / P = q := ⟨_, rfl⟩
  obtain ⟨r, hr'⟩ : ∃ r, (a - 1) % P = r := ⟨_, rfl⟩
  rw [hq, hr'] at h
  rw [hr'] at hr
  rw [hq]
  have e : -(a : Int) = ((P - 1 - r : Nat) : Int) + (P : Int) * (-((q + 1 : Nat) : Int)) := by
    have : ((P * q : Nat) : Int) = (P : Int) * (q : Int) := Int.natCast_mul _ _
    have e2 : (P : Int) * (-((q + 1 : Nat) : Int)) = -((P : Int) * (q : Int)) - (P : Int) := by
      rw [Int.natCast_add, Int.mul_neg, Int.mul_add, show ((1 : Nat) : Int) = 1 from rfl, Int.mul_one]
      omega
    rw [e2, ← this]
    omega
  rw [e, Int.add_mul_ediv_left _ _ (by omega), Int.ediv_eq_zero_of_lt (by omega) (by omega)]
  omega
/-- Rsh: the floor. -/
theorem NRshZ (z x n bd : Nat) (v : Int) (w : World) (hz : ZOk z w w) (hx : NumAt w x v bd) (hb : bd ≤ 800000) (hn : n ≤ 30000000) :
    Calls Tryz.prog 53 #[.pointer (some ⟨z, 0, none⟩), .pointer (some ⟨x, 0, none⟩), .int .u64 n] w fun r w' => r = .returned (.pointer (some ⟨z, 0, none⟩)) ∧ NumAt w' z (v / ((2 ^ n : Nat) : Int)) (bd + 1) ∧ But z w w' := by
  by_cases h : v < 0
  · obtain ⟨neg, L, hiv, hL, hB⟩ := hx
    have hneg : neg = true := (sign_natL hB).1.2 (by rw [hiv]; exact h)
    subst hneg
    have habs : natL L = v.natAbs := by rw [← hiv, intL_abs]
    have e : ((32 * (n / 32) + n % 32 : Nat) : Int) = (n : Int) := by omega
    have e2 : 32 * (n / 32) + n % 32 = n := by omega
    have := Rsh_floor z x (n / 32) (n % 32) _ L w hz hB (Nat.mod_lt _ (by decide)) (by omega) (by omega) rfl (by omega)
    rw [e, e2, habs] at this
    refine this.mono ?_
    rintro r w' ⟨rfl, L', f1, f2, f3, f4⟩
    refine ⟨rfl, ⟨true, L', ?_, by omega, f3⟩, f4⟩
    have hf := floor_neg v.natAbs (2 ^ n) (Nat.two_pow_pos n) (by omega)
    rw [show -((v.natAbs : Nat) : Int) = v by omega] at hf
    rw [hf, ← f1]
    unfold intL
    rw [if_pos rfl]
  · obtain ⟨u, hu⟩ := Int.eq_ofNat_of_zero_le (show 0 ≤ v by omega)
    subst hu
    refine (NRsh z x u n bd w hz hx (by omega) hn).mono ?_
    rintro r w' ⟨rfl, f1, f2⟩
    rw [Int.natCast_ediv] at f1
    exact ⟨rfl, f1.more (by omega), f2⟩
set_option maxRecDepth 4000 in
set_option maxHeartbeats 2000000 in
theorem Bit0_neg (x : Nat) (L : List Nat) (w : World) (h : BigAt w x true L) (hn : L.length ≤ 900000) (hpos : 1 ≤ natL L) :
    Calls Tryz.prog 105 #[.pointer (some ⟨x, 0, none⟩), .int .i64 0] w fun r w' => r = .returned (.int .u64 ((natL L % 2 : Nat) : Int)) ∧ Below w.heap.size w w' := by
  obtain ⟨a, cap, ho, hcap, hm, hd, hc, hneg⟩ := h
  obtain ⟨c0, c1, hf, hlt⟩ := int_cells ho
  have HMI : Hid (∀ W b, Below w.heap.size w W → W.cell? ⟨b, 0, none⟩ = some (.int .u32 1) → Calls Tryz.prog 83 #[.slice a L.length cap, .slice (some ⟨b, 0, none⟩) 1 1] W fun r w' => ∃ l' a' cap' d, r = .returned (.slice a' l' cap') ∧ ((l' = 0 ∧ natL L % 2 = 1) ∨ ((0 : Int) < (l' : Int) ∧ d < 4294967296 ∧ (natL L % 2 + d) % 2 = 1 ∧ ∃ b off, a' = some ⟨b, off, none⟩ ∧ b < w'.heap.size ∧ w'.cell? ⟨b, off, none⟩ = some (.int .u32 d))) ∧ Below W.heap.size W w') := fun W b hW hb => by
    refine (minus_any L [1] a (some ⟨b, 0, none⟩) cap 1 W (hm.below hW) (mag_one W b hb) hd dig_one can_one (by omega) hpos).mono ?_
    rintro r w' ⟨⟨L', a', cap', rfl, h1, h2, h3, h4, h5, h6⟩, hb'⟩
    have h6' : natL L' = natL L - 1 := h6
    by_cases h0 : L'.length = 0
    · refine ⟨L'.length, a', cap', 0, rfl, Or.inl ⟨h0, ?_⟩, hb'⟩
      rw [List.length_eq_zero_iff.1 h0] at h6'
      have : natL [] = 0 := rfl
      omega
    · obtain ⟨b2, off2, g1, g2, g3⟩ := h3 0 (by omega)
      refine ⟨L'.length, a', cap', L'.getD 0 0, rfl, Or.inr ⟨by omega, h4.get 0, ?_, b2, off2, g1, g2, g3⟩, hb'⟩
      have e1 : natL L' % 2 = L'.getD 0 0 % 2 := by
        match L', h0 with
        | d :: t, _ => show (d + 4294967296 * natL t) % 2 = d % 2; omega
      omega
  obtain ⟨n, hnl⟩ : ∃ n, Hid (L.length = n) := ⟨_, rfl⟩
  obtain ⟨z, hz⟩ : ∃ z, Hid (natL L % 2 = z) := ⟨_, rfl⟩
  have HZ2 : Hid (z < 2) := by show z < 2; rw [← hz.out]; omega
  rw [hnl.out] at c1 HMI
  rw [hz.out] at HMI ⊢
  clear hm hd hc hneg ho hcap hf hn hpos
  go_enter Tryz.func105, Tryz.ntmps105
  go_wp2_with fail
  refine (HMI.out _ _ ((Below.refl _ _).alloc (Nat.le_refl _) _) (by simp [go_sem])).mono ?_
  rintro r w1 ⟨l, a1, k1, d, rfl, hcase, hb1⟩
  have HB1 : Hid (Below w.heap.size w w1) := ((Below.refl _ _).alloc (Nat.le_refl _) _).trans (hb1.mono (by simp))
  have x0 : w1.cell? ⟨x, 0, none⟩ = some (.bool true) := by rw [HB1.out.cell (p := ⟨x, 0, none⟩) hlt]; exact c0
  clear hb1
  rcases hcase with ⟨rfl, hz1⟩ | ⟨hl0, hdl, hpar, b, off, rfl, hbl, hc0⟩
  · subst hz1
    go_wp2
    go_ret
    exact ⟨rfl, HB1.out⟩
  · have hand : bits .and .u32 (d : Int) 1 = ((d % 2 : Nat) : Int) := by
      rw [show (1 : Int) = ((1 : Nat) : Int) from rfl, u32_and_nat d 1 hdl (by decide), Nat.and_one_is_mod]
    obtain ⟨y, hy⟩ : ∃ y, Hid (d % 2 = y) := ⟨_, rfl⟩
    rw [hy.out] at hand
    have hzy : z + y = 1 := by have := HZ2.out; have := hy.out; omega
    have hw1 : IntKind.u32.wrap (1 - (y : Int)) = (z : Int) := by rw [IntKind.wrap_u32]; omega
    have hw2 : IntKind.u64.wrap (z : Int) = (z : Int) := by rw [IntKind.wrap_u64]; omega
    clear hpar hdl hzy
    go_wp2
    go_ret
    exact ⟨rfl, HB1.out⟩
/-- Bit(0): whether it is odd. -/
theorem NBit0Z (x bd : Nat) (v : Int) (w : World) (hx : NumAt w x v bd) (hb : bd ≤ 900000) :
    Calls Tryz.prog 105 #[.pointer (some ⟨x, 0, none⟩), .int .i64 0] w fun r w' => r = .returned (.int .u64 (v % 2)) ∧ Below w.heap.size w w' := by
  by_cases h : v < 0
  · obtain ⟨neg, L, hiv, hL, hB⟩ := hx
    have hneg : neg = true := (sign_natL hB).1.2 (by rw [hiv]; exact h)
    subst hneg
    have habs : natL L = v.natAbs := by rw [← hiv, intL_abs]
    refine (Bit0_neg x L w hB (by omega) (by omega)).mono ?_
    rintro r w' ⟨rfl, hb'⟩
    rw [habs]
    exact ⟨by rw [show ((v.natAbs % 2 : Nat) : Int) = v % 2 by omega], hb'⟩
  · obtain ⟨u, hu⟩ := Int.eq_ofNat_of_zero_le (show 0 ≤ v by omega)
    subst hu
    refine (NBit0 x u bd w hx hb).mono ?_
    rintro r w' ⟨rfl, m, rfl⟩
    exact ⟨by rw [show ((u % 2 : Nat) : Int) = (u : Int) % 2 by omega], bl_drewN _ (Below.refl _ _)⟩
end Go.Proofs.YtijadahpddmhjaaGreatDoor
