
/- The document's Odd. -/
import Derived.Test.YtphdinjmkhefmaaGreatDoorP39
import Derived.Test.YtphdinjmkhefmaaGreatDoorP34
import Derived.Test.YtphdinjmkhefmaaGreatDoorP27
import Derived.Test.YtphdinjmkhefmaaGreatDoorP25
import Derived.Test.YtphdinjmkhefmaaGreatDoorP17
namespace Go.Proofs.YtphdinjmkhefmaaGreatDoor
open Go.RowKit Go.IntWalk

/-- z * 2^B with an odd magnitude, or 0 with the exponent 0. -/
def OddV (w : World) (q : Nat) (e B z : Int) (bd : Nat) : Prop := (z = 0 ∧ NumAt w q 0 bd ∧ e = 0) ∨ ∃ v : Int, ∃ k : Nat, v % 2 = 1 ∧ NumAt w q v bd ∧ e = B + k ∧ z = v * 2 ^ k
set_option maxRecDepth 4000 in
set_option maxHeartbeats 1000000 in
theorem xOdd_zero (p bd : Nat) (e : Int) (w : World) (h : NumAt w p 0 bd) :
    Calls Tryz.prog 42 #[.agg #[.pointer (some ⟨p, 0, none⟩), .int .i64 e]] w fun r w' => ∃ q, r = .returned (.agg #[.pointer (some ⟨q, 0, none⟩), .int .i64 0]) ∧ w.heap.size ≤ q ∧ NumAt w' q 0 0 ∧ Below w.heap.size w w' := by
  obtain ⟨W0, hW0⟩ : ∃ V, Hid ((w.alloc (XBox (some ⟨p, 0, none⟩) e)).alloc (XBox none 0) = V) := ⟨_, rfl⟩
  obtain ⟨g1, g2⟩ := two_blk w (XBox (some ⟨p, 0, none⟩) e) (XBox none 0)
  have HS0 : Hid (W0.heap.size = w.heap.size + 2) := by
    show W0.heap.size = w.heap.size + 2
    rw [← hW0.out]; simp
  have HB0 : Hid (Below w.heap.size w W0) := by
    rw [← hW0.out]
    exact ((Below.refl _ _).alloc (Nat.le_refl _) _).alloc (by simp) _
  rw [hW0.out] at g1 g2
  have HSG : Hid (Calls Tryz.prog 35 #[.pointer (some ⟨p, 0, none⟩)] W0 fun r w' => r = .returned (.int .i64 0) ∧ w' = W0) := NSign p 0 bd W0 (h.below HB0.out)
  obtain ⟨d1, d2, _⟩ := xcells_of (show W0.heap[w.heap.size]? = some (.cells #[.pointer (some ⟨p, 0, none⟩), .int .i64 e] 34) from g1)
  obtain ⟨V1, hV1⟩ : ∃ V, Hid (W0.alloc (.cells #[.bool false, .slice none 0 0] 57) = V) := ⟨_, rfl⟩
  have hr : V1.heap[w.heap.size + 1]? = some (XBox none 0) := by
    rw [← hV1.out]
    show (W0.alloc _).heap[w.heap.size + 1]? = _
    rw [((Below.refl W0.heap.size W0).alloc (Nat.le_refl _) _).block _ (by have := HS0.out; omega)]
    exact g2
  have HNF : Hid (NumAt V1 W0.heap.size 0 0) := by rw [← hV1.out]; exact fresh_num W0
  have HBV : Hid (Below w.heap.size w V1) := by rw [← hV1.out]; exact HB0.out.alloc HB0.out.size _
  obtain ⟨z1, z2, z3⟩ := xcells_of (show V1.heap[w.heap.size + 1]? = some (.cells #[.pointer none, .int .i64 0] 34) from hr)
  have HR := hid hr
  unfold XBox at hW0
  have hW0' := hW0.out
  have hV1' := hV1.out
  clear h g1 g2 hr
  go_enter Tryz.func42, Tryz.ntmps42
  go_wp2_with fail
  refine HSG.out.mono ?_
  rintro r w1 ⟨rfl, rfl⟩
  go_wp2
  exact bodyPost_ret (v := .agg #[.pointer (some ⟨w1.heap.size, 0, none⟩), .int .i64 0]) (by simp [results, Tryz.results42, go_sem, z1, z2]) rfl ⟨w1.heap.size, rfl, by have := HS0.out; omega, HNF.out.stored (by have := HS0.out; omega) HR.out _ _, Below.setCell (Below.setCell HBV.out (by simp) _) (by simp) _⟩
set_option maxRecDepth 4000 in
set_option maxHeartbeats 1000000 in
theorem xOdd_some (p bd : Nat) (v e : Int) (w : World) (h : NumAt w p v bd) (hv : v ≠ 0) (hbd : bd ≤ 400000) (he1 : -1000000 ≤ e) (he2 : e ≤ 1000000) (hT : Tab32 w) (hs : 1 < w.heap.size) :
    Calls Tryz.prog 42 #[.agg #[.pointer (some ⟨p, 0, none⟩), .int .i64 e]] w fun r w' => ∃ q, ∃ T m : Nat, r = .returned (.agg #[.pointer (some ⟨q, 0, none⟩), .int .i64 (e + T)]) ∧ w.heap.size ≤ q ∧ v.natAbs = 2 ^ T * m ∧ m % 2 = 1 ∧ T ≤ 32 * bd ∧ NumAt w' q (sgM v m) (bd + 1) ∧ Below w.heap.size w w' := by
  obtain ⟨W0, hW0⟩ : ∃ V, Hid ((w.alloc (XBox (some ⟨p, 0, none⟩) e)).alloc (XBox none 0) = V) := ⟨_, rfl⟩
  obtain ⟨g1, g2⟩ := two_blk w (XBox (some ⟨p, 0, none⟩) e) (XBox none 0)
  have HS0 : Hid (W0.heap.size = w.heap.size + 2) := by
    show W0.heap.size = w.heap.size + 2
    rw [← hW0.out]; simp
  have HB0 : Hid (Below w.heap.size w W0) := by
    rw [← hW0.out]
    exact ((Below.refl _ _).alloc (Nat.le_refl _) _).alloc (by simp) _
  rw [hW0.out] at g1 g2
  have hs1 : ¬ sgnZ v = 0 := by unfold sgnZ; split <;> (try split) <;> omega
  have HSG : Hid (Calls Tryz.prog 35 #[.pointer (some ⟨p, 0, none⟩)] W0 fun r w' => r = .returned (.int .i64 (sgnZ v)) ∧ w' = W0) := NSign p v bd W0 (h.below HB0.out)
  obtain ⟨S, hS⟩ : ∃ S, Hid (sgnZ v = S) := ⟨_, rfl⟩
  rw [hS.out] at HSG hs1
  have HTZ : Hid (Calls Tryz.prog 69 #[.pointer (some ⟨p, 0, none⟩)] W0 fun r w' => ∃ T m : Nat, r = .returned (.int .u64 T) ∧ Hid (v.natAbs = 2 ^ T * m ∧ m % 2 = 1) ∧ T ≤ 32 * bd ∧ Hid (Below W0.heap.size W0 w')) := by
    refine (NTz p bd v W0 (h.below HB0.out) hv (by omega) (hT.below hs HB0.out) (Nat.lt_of_lt_of_le hs HB0.out.size)).mono ?_
    rintro r w' ⟨T, m, rfl, f1, f2, f3, f4⟩
    exact ⟨T, m, rfl, ⟨f1, f2⟩, f3, f4⟩
  obtain ⟨d1, d2, _⟩ := xcells_of (show W0.heap[w.heap.size]? = some (.cells #[.pointer (some ⟨p, 0, none⟩), .int .i64 e] 34) from g1)
  have H := hid h
  have HG := hid (And.intro g1 g2)
  unfold XBox at hW0
  have hW0' := hW0.out
  clear h hv g1 g2 hT hs
  go_enter Tryz.func42, Tryz.ntmps42
  go_wp2_with fail
  refine HSG.out.mono ?_
  rintro r w1 ⟨rfl, rfl⟩
  go_wp2_with fail
  refine HTZ.out.mono ?_
  rintro r w2 ⟨T, m, rfl, HTM, hTl, HB2⟩
  have hs0 := HS0.out
  have hsz : w.heap.size + 2 ≤ w2.heap.size := by have := HB2.out.size; omega
  have g1 : w2.heap[w.heap.size]? = some (XBox (some ⟨p, 0, none⟩) e) := by rw [HB2.out.block _ (by omega)]; exact HG.out.1
  have g2 : w2.heap[w.heap.size + 1]? = some (XBox none 0) := by rw [HB2.out.block _ (by omega)]; exact HG.out.2
  have HBw2 : Hid (Below w.heap.size w w2) := HB0.out.trans (HB2.out.mono HB0.out.size)
  have HK : Hid (∀ W, Hid (XRes (w.heap.size + 1) w2 W) → (W.cell? ⟨w.heap.size, 0, none⟩ = some (.pointer (some ⟨p, 0, none⟩)) ∧ W.cell? ⟨w.heap.size, 1, none⟩ = some (.int .i64 e)) ∧ Hid (XRes (w.heap.size + 1) w2 W)) := fun W hW => by
    have := xcells_of ((hW.out.1.block _ (by omega) (by omega)).trans g1)
    exact ⟨⟨this.1, this.2.1⟩, hW⟩
  have HQR : Hid (XRes (w.heap.size + 1) w2 w2) := ⟨But.refl _ _, _, _, g2⟩
  have hm1 : 1 ≤ m := by have := HTM.out.2; omega
  have HN : Hid (Calls Tryz.prog 46 #[.pointer (some ⟨w2.heap.size, 0, none⟩), .pointer (some ⟨p, 0, none⟩), .int .u64 T] (w2.alloc (.cells #[.bool false, .slice none 0 0] 57)).drew fun r w' => r = .returned (.pointer (some ⟨w2.heap.size, 0, none⟩)) ∧ Hid (NumAt w' w2.heap.size (sgM v m) (bd + 1) ∧ w'.heap[w.heap.size + 1]? = some (XBox none 0)) ∧ (∀ o, w'.frozen? ⟨w.heap.size + 1, o, none⟩ = false) ∧ w'.cell? ⟨w.heap.size + 1, 0, none⟩ = some (.pointer none) ∧ w'.cell? ⟨w.heap.size + 1, 1, none⟩ = some (.int .i64 0) ∧ Hid (XRes (w.heap.size + 1) w2 w')) := by
    have hx := xr_dr (xr_al HQR (.cells #[.bool false, .slice none 0 0] 57))
    have hbw : Below w.heap.size w (w2.alloc (.cells #[.bool false, .slice none 0 0] 57)).drew := (HBw2.out.alloc HBw2.out.size _).drew
    refine (NRshX w2.heap.size p T m bd v _ (zok_dr (fresh_zok w2)) (H.out.below hbw) (by omega) (by omega) HTM.out.1 hm1).mono ?_
    rintro r w' ⟨rfl, hn, hbt⟩
    have hB' := hx.out.but hbt (Nat.le_refl _) (by omega)
    have hr : w'.heap[w.heap.size + 1]? = some (XBox none 0) := by
      rw [hbt.block (w.heap.size + 1) (by show _ < (w2.alloc _).heap.size; simp; omega) (by omega)]
      show (w2.alloc _).heap[w.heap.size + 1]? = _
      rw [((Below.refl w2.heap.size w2).alloc (Nat.le_refl _) _).block _ (by omega)]
      exact g2
    obtain ⟨f1, f2, f3⟩ := xcells_of hr
    exact ⟨rfl, ⟨hn, hr⟩, f3, f1, f2, hB'⟩
  obtain ⟨N, hN⟩ : ∃ N : Int, Hid ((T : Int) = N) := ⟨_, rfl⟩
  rw [hN.out] at HN
  have hNT := hN.out
  obtain ⟨E, hE⟩ : ∃ E : Int, Hid (e + N = E) := ⟨_, rfl⟩
  have u0 : (T : Int) = N := hNT
  have u1 : IntKind.i64.wrap N = N := by rw [IntWalk.i64_in _ (by omega)]
  have u2 : IntKind.i64.wrap (e + N) = E := by rw [← hE.out, IntWalk.i64_in _ (by omega)]
  have u3 : e + N = E := hE.out
  have u4 : wrap64 E = E := by have := hE.out; unfold wrap64; omega
  have u5 : IntKind.i64.wrap E = E := by have := hE.out; rw [IntWalk.i64_in _ (by omega)]
  have u6 : wrap64 N = N := by unfold wrap64; omega
  obtain ⟨y0, y1⟩ := (HK.out _ HQR).1
  have HTL := hid hTl
  clear g1 g2 hTl hNT hm1 hs0 he1 he2
  go_wp2_with fail
  go_region_held3 (fun W => (W.cell? ⟨w.heap.size, 0, none⟩ = some (.pointer (some ⟨p, 0, none⟩)) ∧ W.cell? ⟨w.heap.size, 1, none⟩ = some (.int .i64 e)) ∧ Hid (XRes (w.heap.size + 1) w2 W))
    ((refine HK.out _ ?_; repeat' (first | with_reducible assumption | with_reducible exact HQR | with_reducible refine xr_al ?_ _ | with_reducible refine xr_dr ?_ | with_reducible refine xr_store ?_ _ _)))
    (first
      | (go_at_call 46; refine HN.out.mono ?_; rintro r w3 ⟨rfl, HF, fz, c0, c1, HB3⟩)
      | fail)
  go_wp2
  exact bodyPost_ret (v := .agg #[.pointer (some ⟨w2.heap.size, 0, none⟩), .int .i64 E]) (by simp [results, Tryz.results42, go_sem, c0, c1]) rfl ⟨w2.heap.size, T, m, by rw [hN.out, hE.out], by omega, HTM.out.1, HTM.out.2, HTL.out, HF.out.1.stored (by omega) HF.out.2 _ _, HBw2.out.trans ((xr_store HB3 _ _).out.1.below HBw2.out.size (by omega))⟩
theorem sgM_odd (v : Int) (m : Nat) (h : m % 2 = 1) : sgM v m % 2 = 1 := by unfold sgM; split <;> omega
theorem sgM_val (v : Int) (T m : Nat) (h : v.natAbs = 2 ^ T * m) : v = sgM v m * 2 ^ T := by
  have h2 : ((v.natAbs : Nat) : Int) = (m : Int) * 2 ^ T := by rw [h, Nat.mul_comm, Int.natCast_mul, Int.natCast_pow]; rfl
  unfold sgM
  split
  · rw [Int.neg_mul, ← h2]; omega
  · rw [← h2]; omega
/-- Odd, by values. -/
theorem xOdd_val (p bd : Nat) (e B z : Int) (w : World) (h : ExV w p e B z bd) (hbd : bd ≤ 400000) (he1 : -1000000 ≤ e) (he2 : e ≤ 1000000) (hT : Tab32 w) (hs : 1 < w.heap.size) :
    Calls Tryz.prog 42 #[.agg #[.pointer (some ⟨p, 0, none⟩), .int .i64 e]] w fun r w' => ∃ q e', r = .returned (.agg #[.pointer (some ⟨q, 0, none⟩), .int .i64 e']) ∧ OddV w' q e' B z (bd + 1) ∧ (e' = 0 ∨ e ≤ e' ∧ e' ≤ e + 32 * bd) ∧ Below w.heap.size w w' := by
  obtain ⟨v, k, f1, f2, f3⟩ := h
  by_cases hv : v = 0
  · subst hv
    refine (xOdd_zero p bd e w f1).mono ?_
    rintro r w' ⟨q, rfl, hq, hn, hb⟩
    exact ⟨q, 0, rfl, Or.inl ⟨by rw [f3, Int.zero_mul], hn.more (by omega), rfl⟩, Or.inl rfl, hb⟩
  · refine (xOdd_some p bd v e w f1 hv hbd he1 he2 hT hs).mono ?_
    rintro r w' ⟨q, T, m, rfl, hq, h1, h2, h3, hn, hb⟩
    refine ⟨q, e + T, rfl, Or.inr ⟨sgM v m, T + k, sgM_odd v m h2, hn, by omega, ?_⟩, Or.inr (by omega), hb⟩
    rw [f3, Int.pow_add, ← Int.mul_assoc, ← sgM_val v T m h1]
end Go.Proofs.YtphdinjmkhefmaaGreatDoor

namespace Go.Proofs.YtphdinjmkhefmaaGreatDoor
open Go.RowKit Go.IntWalk

theorem natL_low (L : List Nat) : natL L % 4294967296 = L.getD 0 0 % 4294967296 := by
  match L with
  | [] => rfl
  | d :: t => show (d + 4294967296 * natL t) % 4294967296 = d % 4294967296; omega
set_option maxHeartbeats 400000 in
theorem NUlow (x v bd : Nat) (w : World) (hx : NumAt w x (v : Int) bd) :
    Calls Tryz.prog 45 #[.pointer (some ⟨x, 0, none⟩)] w fun r w' => ∃ u : Nat, r = .returned (.int .u64 u) ∧ u < 18446744073709551616 ∧ u % 4294967296 = v % 4294967296 ∧ w' = w := by
  obtain ⟨L, rfl, hL, hB⟩ := num_pos hx
  by_cases h2 : L.length ≤ 2
  · refine (Uint64_any x false L w hB h2).mono ?_
    obtain ⟨a, cap, ho, hcap, hm, hd, hc, hn⟩ := id hB
    rintro r w' ⟨rfl, rfl⟩
    have h0 := hd.get 0
    have h1 := hd.get 1
    exact ⟨natL L, rfl, by rw [natL_two L h2]; omega, rfl, rfl⟩
  · obtain ⟨a, cap, ho, hcap, hm, hd, hc, hn⟩ := hB
    obtain ⟨c0, c1, hf, hlt⟩ := int_cells ho
    have h0 := hd.get 0
    have h1 := hd.get 1
    have hor := or_words _ _ h0 h1
    obtain ⟨b, off, rfl, hb, m0'⟩ := hm 0 (by omega)
    have m0 : w.cell? ⟨b, off, none⟩ = some (.int .u32 (L.getD 0 0)) := m0'
    clear m0'
    obtain ⟨b', off', e', hb', m1⟩ := hm 1 (by omega)
    cases e'
    have HLOW := hid (natL_low L)
    obtain ⟨n, hnl⟩ : ∃ n, Hid (L.length = n) := ⟨_, rfl⟩
    rw [hnl.out] at c1 h2 hL
    obtain ⟨d, hdd⟩ : ∃ d, Hid (L.getD 0 0 = d) := ⟨_, rfl⟩
    obtain ⟨e, hee⟩ : ∃ e, Hid (L.getD 1 0 = e) := ⟨_, rfl⟩
    rw [hdd.out] at m0 hor h0 HLOW
    rw [hee.out] at m1 hor h1
    have hw0 : IntKind.u64.wrap (d : Int) = (d : Int) := by rw [IntKind.wrap_u64]; omega
    have hw1 : IntKind.u64.wrap (e : Int) = (e : Int) := by rw [IntKind.wrap_u64]; omega
    have HB1 := hid (And.intro h0 h1)
    obtain ⟨z, hz⟩ : ∃ z, Hid (d + 4294967296 * e = z) := ⟨_, rfl⟩
    rw [hz.out] at hor
    have hn0 : (0 : Int) < (n : Int) := by omega
    have hn1 : (1 : Int) < (n : Int) := by omega
    have hnN0 : 0 < n := by omega
    have hnN1 : 1 < n := by omega
    clear hm hd hc hn ho hcap hf h0 h1 h2 hL
    go_enter Tryz.func45, Tryz.ntmps45
    go_wp2
    go_ret
    refine ⟨z, by first | rfl | exact ret_int hor, ?_, ?_, rfl⟩
    · have := HB1.out; have := hz.out; omega
    · rw [HLOW.out]; have := hz.out; omega
end Go.Proofs.YtphdinjmkhefmaaGreatDoor

namespace Go.Proofs.YtphdinjmkhefmaaGreatDoor
open Go.RowKit Go.IntWalk

set_option maxHeartbeats 1000000 in
theorem size_any (L : List Nat) (a : Option Addr) (cap : Nat) (w : World) (hm : MagAt w a L) (hd : DigL L) (hc : CanL L) (hn : L.length ≤ 1000000) :
    Calls Tryz.prog 78 #[.slice a L.length cap] w fun r w' => r = .returned (.int .i64 (bitLen (natL L))) ∧ w' = w := by
  by_cases h0 : L.length = 0
  · have e : L = [] := List.length_eq_zero_iff.1 h0
    subst e
    show Calls Tryz.prog 78 #[.slice a 0 cap] w _
    clear hm hd hc h0 hn
    go_enter Tryz.func78, Tryz.ntmps78
    go_wp2
    go_ret
    exact ⟨rfl, rfl⟩
  · obtain ⟨k, hk⟩ : ∃ k, L.length = k + 1 := ⟨L.length - 1, by omega⟩
    obtain ⟨b, off, rfl, hb, hcell⟩ := hm k (by omega)
    have hne := hc (fun c => h0 (by rw [c]; rfl))
    rw [hk, Nat.add_sub_cancel] at hne
    rw [bitLen_words L k hk hd hne]
    have hdl := hd.get k
    obtain ⟨d, hdd⟩ : ∃ d, Hid (L.getD k 0 = d) := ⟨_, rfl⟩
    rw [hdd.out] at hcell hdl ⊢
    have hbl := bitLen_le d 32 (by simpa using hdl)
    obtain ⟨l, hl⟩ : ∃ l, Hid (bitLen d = l) := ⟨_, rfl⟩
    have HL : Hid (∀ w : World, Calls Tryz.prog 70 #[.int .u32 d] w fun r w' => r = .returned (.int .i64 l) ∧ w' = w) := fun w => by
      rw [← hl.out]; exact len32_any d w hdl
    rw [hl.out] at hbl ⊢
    obtain ⟨n, hnn⟩ : ∃ n : Nat, Hid (k + 1 = n) := ⟨_, rfl⟩
    have hk1 : (n : Int) - 1 = (k : Int) := by have := hnn.out; omega
    have hwk : IntKind.i64.wrap ((n : Int) - 1) = (k : Int) := by have := hnn.out; rw [IntWalk.i64_in _ (by omega)]; omega
    have hkI : (k : Int) < (n : Int) := by have := hnn.out; omega
    have hkn : k ≤ 1000000 := by omega
    have hnz : ((n : Int) == 0) = false := by have := hnn.out; simp; omega
    rw [hk, hnn.out]
    clear hm hd hc h0 hn hne hdl hk
    go_enter Tryz.func78, Tryz.ntmps78
    go_wp2_with fail
    refine (HL.out _).mono ?_
    rintro r w1 ⟨rfl, rfl⟩
    go_wp2
    go_ret
    exact ⟨ret_int (by omega), rfl⟩
set_option maxHeartbeats 400000 in
theorem dbinary64_any (w : World) :
    Calls Tryz.prog 50 #[] w fun r w' => r = .returned (.agg #[.int .i64 53, .int .i64 (-1074), .int .i64 1023]) ∧ Below w.heap.size w w' := by
  go_enter Tryz.func50, Tryz.ntmps50
  go_wp2
  exact bodyPost_ret (v := .agg #[.int .i64 53, .int .i64 (-1074), .int .i64 1023]) (by simp [results, Tryz.results50, go_sem]) rfl ⟨rfl, (Below.refl _ _).alloc (Nat.le_refl _) _⟩
/-- The function that a mode has. -/
def grF (mode : Int) : FuncId := if mode = 0 then 93 else if mode = 1 then 94 else if mode = 2 then 95 else if mode = 3 then 96 else 97
set_option maxHeartbeats 1000000 in
theorem grows_any (mode : Int) (w : World) (h1 : 0 ≤ mode) (h2 : mode ≤ 4) :
    Calls Tryz.prog 77 #[.int .i64 mode] w fun r w' => r = .returned (.func (.func (grF mode)) #[] #[]) ∧ Below w.heap.size w w' := by
  have hst : ∀ (W : World) (a : Addr) (f : FuncId), (store a (.func (.func f) #[] #[])).run Tryz.prog W = stored Tryz.prog W a (.func (.func f) #[] #[]) .plain := fun W a f => run_store _ _ _ _ _ rfl
  rcases (show mode = 0 ∨ mode = 1 ∨ mode = 2 ∨ mode = 3 ∨ mode = 4 by omega) with rfl | rfl | rfl | rfl | rfl
  all_goals
    clear h1 h2
    go_enter Tryz.func77, Tryz.ntmps77
    go_wp2
    go_ret
    exact ⟨rfl, (Below.refl _ _).alloc (Nat.le_refl _) _⟩
set_option maxRecDepth 4000 in
set_option maxHeartbeats 1000000 in
theorem steps_left (neg : Bool) (L : List Nat) (a : Option Addr) (cap s : Nat) (e u : Int) (g : Value) (w : World) (hm : MagAt w a L) (hd : DigL L) (hn : L.length ≤ 3000) (hu : e - u = (s : Int)) (hs : s ≤ 100000) :
    Calls Tryz.prog 79 #[.agg #[.bool neg, .slice a L.length cap, .int .i64 e], .int .i64 u, g] w fun r w' => MagOk (natL L * 2 ^ s) (L.length + s / 32 + 1) r w' ∧ Below w.heap.size w w' := by
  have HL : Hid (∀ W, Below w.heap.size w W → Calls Tryz.prog 91 #[.slice a L.length cap, .int .i64 (s : Nat)] W fun r w' => MagOk (natL L * 2 ^ s) (L.length + s / 32 + 1) r w' ∧ Below W.heap.size W w') := fun W hW => dleft_nat L a cap s W (hm.below hW) (by omega) (by omega) hd
  obtain ⟨n, hnl⟩ : ∃ n, Hid (L.length = n) := ⟨_, rfl⟩
  rw [hnl.out] at HL hn ⊢
  obtain ⟨D, hD⟩ : ∃ D : Int, Hid (u - e = D) := ⟨_, rfl⟩
  have hD1 : IntKind.i64.wrap (u - e) = D := by have := hD.out; rw [IntWalk.i64_in _ (by omega)]; exact this
  have hD0 : D ≤ 0 := by have := hD.out; omega
  have hDs : -D = (s : Int) := by have := hD.out; omega
  have hDw : IntKind.i64.wrap (-D) = (s : Int) := by rw [IntWalk.i64_in _ (by omega)]; exact hDs
  have hsw : IntKind.i64.wrap (s : Int) = (s : Int) := by rw [IntWalk.i64_in _ (by omega)]
  have HA : Hid (∀ k, Below w.heap.size w ((w.alloc (.cells #[.bool neg, .slice a n cap, .int .i64 e] 27)).drewN k)) := fun k => bl_drewN k ((Below.refl _ _).alloc (Nat.le_refl _) _)
  clear hm hd hn hu hs
  go_enter Tryz.func79, Tryz.ntmps79
  go_wp2_with fail
  go_quiet (fail)
  go_wp2_with fail
  refine (HL.out _ (HA.out _)).mono ?_
  rintro r w1 ⟨⟨L', a', cap', rfl, hr2⟩, hb⟩
  have HE := hid hr2
  have HB : Hid (Below w.heap.size w w1) := (HA.out _).trans (hb.mono (HA.out _).size)
  clear hr2 hb
  go_wp2
  go_ret
  exact ⟨⟨L', a', cap', rfl, HE.out⟩, HB.out⟩
end Go.Proofs.YtphdinjmkhefmaaGreatDoor
