
/- The document's Odd. -/
import Derived.Test.YtphdinjmkhefmaaGreatDoorP29
import Derived.Test.YtphdinjmkhefmaaGreatDoorP24
namespace Go.Proofs.YtphdinjmkhefmaaGreatDoor
open Go.RowKit Go.IntWalk

/-- z * 2^B with an odd magnitude, or 0 with the exponent 0. -/
def OddV (w : World) (q : Nat) (e B z : Int) (bd : Nat) : Prop := (z = 0 ∧ NumAt w q 0 bd ∧ e = 0) ∨ ∃ v : Int, ∃ k : Nat, v % 2 = 1 ∧ NumAt w q v bd ∧ e = B + k ∧ z = v * 2 ^ k
set_option maxRecDepth 4000 in
set_option maxHeartbeats 1000000 in
theorem xOdd_zero (p bd : Nat) (e : Int) (w : World) (h : NumAt w p 0 bd) :
    Calls Tryz.prog 42 #[.agg #[.pointer (some ⟨p, 0, none⟩), .int .i64 e]] w fun r w' => ∃ q, r = .returned (.agg #[.pointer (some ⟨q, 0, none⟩), .int .i64 0]) ∧ w.heap.size ≤ q ∧ NumAt w' q 0 0 ∧ Below w.heap.size w w' := by
  obtain ⟨W0, hW0⟩ : ∃ V, Hid ((w.alloc (XBox (some ⟨p, 0, none⟩) e)).alloc (XBox none 0) = V) := ⟨_, rfl⟩
  obtain ⟨g1, g2⟩ := two_blk w (XBox (some ⟨p, 0, none⟩) e) (XBox none 0)
  have HS0 : Hid (W0.heap.size = w.heap.size + 2) := by
    show W0.heap.size = w.heap.size + 2
    rw [← hW0.out]; simp
  have HB0 : Hid (Below w.heap.size w W0) := by
    rw [← hW0.out]
    exact ((Below.refl _ _).alloc (Nat.le_refl _) _).alloc (by simp) _
  rw [hW0.out] at g1 g2
  have HSG : Hid (Calls Tryz.prog 35 #[.pointer (some ⟨p, 0, none⟩)] W0 fun r w' => r = .returned (.int .i64 0) ∧ w' = W0) := NSign p 0 bd W0 (h.below HB0.out)
  obtain ⟨d1, d2, _⟩ := xcells_of (show W0.heap[w.heap.size]? = some (.cells #[.pointer (some ⟨p, 0, none⟩), .int .i64 e] 34) from g1)
  obtain ⟨V1, hV1⟩ : ∃ V, Hid (W0.alloc (.cells #[.bool false, .slice none 0 0] 57) = V) := ⟨_, rfl⟩
  have hr : V1.heap[w.heap.size + 1]? = some (XBox none 0) := by
    rw [← hV1.out]
    show (W0.alloc _).heap[w.heap.size + 1]? = _
    rw [((Below.refl W0.heap.size W0).alloc (Nat.le_refl _) _).block _ (by have := HS0.out; omega)]
    exact g2
  have HNF : Hid (NumAt V1 W0.heap.size 0 0) := by rw [← hV1.out]; exact fresh_num W0
  have HBV : Hid (Below w.heap.size w V1) := by rw [← hV1.out]; exact HB0.out.alloc HB0.out.size _
  obtain ⟨z1, z2, z3⟩ := xcells_of (show V1.heap[w.heap.size + 1]? = some (.cells #[.pointer none, .int .i64 0] 34) from hr)
  have HR := hid hr
  unfold XBox at hW0
  have hW0' := hW0.out
  have hV1' := hV1.out
  clear h g1 g2 hr
  go_enter Tryz.func42, Tryz.ntmps42
  go_wp2_with fail
  refine HSG.out.mono ?_
  rintro r w1 ⟨rfl, rfl⟩
  go_wp2
  exact bodyPost_ret (v := .agg #[.pointer (some ⟨w1.heap.size, 0, none⟩), .int .i64 0]) (by simp [results, Tryz.results42, go_sem, z1, z2]) rfl ⟨w1.heap.size, rfl, by have := HS0.out; omega, HNF.out.stored (by have := HS0.out; omega) HR.out _ _, Below.setCell (Below.setCell HBV.out (by simp) _) (by simp) _⟩
set_option maxRecDepth 4000 in
set_option maxHeartbeats 1000000 in
theorem xOdd_some (p bd : Nat) (v e : Int) (w : World) (h : NumAt w p v bd) (hv : v ≠ 0) (hbd : bd ≤ 400000) (he1 : -1000000 ≤ e) (he2 : e ≤ 1000000) (hT : Tab32 w) (hs : 1 < w.heap.size) :
    Calls Tryz.prog 42 #[.agg #[.pointer (some ⟨p, 0, none⟩), .int .i64 e]] w fun r w' => ∃ q, ∃ T m : Nat, r = .returned (.agg #[.pointer (some ⟨q, 0, none⟩), .int .i64 (e + T)]) ∧ w.heap.size ≤ q ∧ v.natAbs = 2 ^ T * m ∧ m % 2 = 1 ∧ T ≤ 32 * bd ∧ NumAt w' q (sgM v m) (bd + 1) ∧ Below w.heap.size w w' := by
  obtain ⟨W0, hW0⟩ : ∃ V, Hid ((w.alloc (XBox (some ⟨p, 0, none⟩) e)).alloc (XBox none 0) = V) := ⟨_, rfl⟩
  obtain ⟨g1, g2⟩ := two_blk w (XBox (some ⟨p, 0, none⟩) e) (XBox none 0)
  have HS0 : Hid (W0.heap.size = w.heap.size + 2) := by
    show W0.heap.size = w.heap.size + 2
    rw [← hW0.out]; simp
  have HB0 : Hid (Below w.heap.size w W0) := by
    rw [← hW0.out]
    exact ((Below.refl _ _).alloc (Nat.le_refl _) _).alloc (by simp) _
  rw [hW0.out] at g1 g2
  have hs1 : ¬ sgnZ v = 0 := by unfold sgnZ; split <;> (try split) <;> omega
  have HSG : Hid (Calls Tryz.prog 35 #[.pointer (some ⟨p, 0, none⟩)] W0 fun r w' => r = .returned (.int .i64 (sgnZ v)) ∧ w' = W0) := NSign p v bd W0 (h.below HB0.out)
  obtain ⟨S, hS⟩ : ∃ S, Hid (sgnZ v = S) := ⟨_, rfl⟩
  rw [hS.out] at HSG hs1
  have HTZ : Hid (Calls Tryz.prog 69 #[.pointer (some ⟨p, 0, none⟩)] W0 fun r w' => ∃ T m : Nat, r = .returned (.int .u64 T) ∧ Hid (v.natAbs = 2 ^ T * m ∧ m % 2 = 1) ∧ T ≤ 32 * bd ∧ Hid (Below W0.heap.size W0 w')) := by
    refine (NTz p bd v W0 (h.below HB0.out) hv (by omega) (hT.below hs HB0.out) (Nat.lt_of_lt_of_le hs HB0.out.size)).mono ?_
    rintro r w' ⟨T, m, rfl, f1, f2, f3, f4⟩
    exact ⟨T, m, rfl, ⟨f1, f2⟩, f3, f4⟩
  obtain ⟨d1, d2, _⟩ := xcells_of (show W0.heap[w.heap.size]? = some (.cells #[.pointer (some ⟨p, 0, none⟩), .int .i64 e] 34) from g1)
  have H := hid h
  have HG := hid (And.intro g1 g2)
  unfold XBox at hW0
  have hW0' := hW0.out
  clear h hv g1 g2 hT hs
  go_enter Tryz.func42, Tryz.ntmps42
  go_wp2_with fail
  refine HSG.out.mono ?_
  rintro r w1 ⟨rfl, rfl⟩
  go_wp2_with fail
  refine HTZ.out.mono ?_
  rintro r w2 ⟨T, m, rfl, HTM, hTl, HB2⟩
  have hs0 := HS0.out
  have hsz : w.heap.size + 2 ≤ w2.heap.size := by have := HB2.out.size; omega
  have g1 : w2.heap[w.heap.size]? = some (XBox (some ⟨p, 0, none⟩) e) := by rw [HB2.out.block _ (by omega)]; exact HG.out.1
  have g2 : w2.heap[w.heap.size + 1]? = some (XBox none 0) := by rw [HB2.out.block _ (by omega)]; exact HG.out.2
  have HBw2 : Hid (Below w.heap.size w w2) := HB0.out.trans (HB2.out.mono HB0.out.size)
  have HK : Hid (∀ W, Hid (XRes (w.heap.size + 1) w2 W) → (W.cell? ⟨w.heap.size, 0, none⟩ = some (.pointer (some ⟨p, 0, none⟩)) ∧ W.cell? ⟨w.heap.size, 1, none⟩ = some (.int .i64 e)) ∧ Hid (XRes (w.heap.size + 1) w2 W)) := fun W hW => by
    have := xcells_of ((hW.out.1.block _ (by omega) (by omega)).trans g1)
    exact ⟨⟨this.1, this.2.1⟩, hW⟩
  have HQR : Hid (XRes (w.heap.size + 1) w2 w2) := ⟨But.refl _ _, _, _, g2⟩
  have hm1 : 1 ≤ m := by have := HTM.out.2; omega
  have HN : Hid (Calls Tryz.prog 46 #[.pointer (some ⟨w2.heap.size, 0, none⟩), .pointer (some ⟨p, 0, none⟩), .int .u64 T] (w2.alloc (.cells #[.bool false, .slice none 0 0] 57)).drew fun r w' => r = .returned (.pointer (some ⟨w2.heap.size, 0, none⟩)) ∧ Hid (NumAt w' w2.heap.size (sgM v m) (bd + 1) ∧ w'.heap[w.heap.size + 1]? = some (XBox none 0)) ∧ (∀ o, w'.frozen? ⟨w.heap.size + 1, o, none⟩ = false) ∧ w'.cell? ⟨w.heap.size + 1, 0, none⟩ = some (.pointer none) ∧ w'.cell? ⟨w.heap.size + 1, 1, none⟩ = some (.int .i64 0) ∧ Hid (XRes (w.heap.size + 1) w2 w')) := by
    have hx := xr_dr (xr_al HQR (.cells #[.bool false, .slice none 0 0] 57))
    have hbw : Below w.heap.size w (w2.alloc (.cells #[.bool false, .slice none 0 0] 57)).drew := (HBw2.out.alloc HBw2.out.size _).drew
    refine (NRshX w2.heap.size p T m bd v _ (zok_dr (fresh_zok w2)) (H.out.below hbw) (by omega) (by omega) HTM.out.1 hm1).mono ?_
    rintro r w' ⟨rfl, hn, hbt⟩
    have hB' := hx.out.but hbt (Nat.le_refl _) (by omega)
    have hr : w'.heap[w.heap.size + 1]? = some (XBox none 0) := by
      rw [hbt.block (w.heap.size + 1) (by show _ < (w2.alloc _).heap.size; simp; omega) (by omega)]
      show (w2.alloc _).heap[w.heap.size + 1]? = _
      rw [((Below.refl w2.heap.size w2).alloc (Nat.le_refl _) _).block _ (by omega)]
      exact g2
    obtain ⟨f1, f2, f3⟩ := xcells_of hr
    exact ⟨rfl, ⟨hn, hr⟩, f3, f1, f2, hB'⟩
  obtain ⟨N, hN⟩ : ∃ N : Int, Hid ((T : Int) = N) := ⟨_, rfl⟩
  rw [hN.out] at HN
  have hNT := hN.out
  obtain ⟨E, hE⟩ : ∃ E : Int, Hid (e + N = E) := ⟨_, rfl⟩
  have u0 : (T : Int) = N := hNT
  have u1 : IntKind.i64.wrap N = N := by rw [IntWalk.i64_in _ (by omega)]
  have u2 : IntKind.i64.wrap (e + N) = E := by rw [← hE.out, IntWalk.i64_in _ (by omega)]
  have u3 : e + N = E := hE.out
  have u4 : wrap64 E = E := by have := hE.out; unfold wrap64; omega
  have u5 : IntKind.i64.wrap E = E := by have := hE.out; rw [IntWalk.i64_in _ (by omega)]
  have u6 : wrap64 N = N := by unfold wrap64; omega
  obtain ⟨y0, y1⟩ := (HK.out _ HQR).1
  have HTL := hid hTl
  clear g1 g2 hTl hNT hm1 hs0 he1 he2
  go_wp2_with fail
  go_region_held3 (fun W => (W.cell? ⟨w.heap.size, 0, none⟩ = some (.pointer (some ⟨p, 0, none⟩)) ∧ W.cell? ⟨w.heap.size, 1, none⟩ = some (.int .i64 e)) ∧ Hid (XRes (w.heap.size + 1) w2 W))
    ((refine HK.out _ ?_; repeat' (first | with_reducible assumption | with_reducible exact HQR | with_reducible refine xr_al ?_ _ | with_reducible refine xr_dr ?_ | with_reducible refine xr_store ?_ _ _)))
    (first
      | (go_at_call 46; refine HN.out.mono ?_; rintro r w3 ⟨rfl, HF, fz, c0, c1, HB3⟩)
      | fail)
  go_wp2
  exact bodyPost_ret (v := .agg #[.pointer (some ⟨w2.heap.size, 0, none⟩), .int .i64 E]) (by simp [results, Tryz.results42, go_sem, c0, c1]) rfl ⟨w2.heap.size, T, m, by rw [hN.out, hE.out], by omega, HTM.out.1, HTM.out.2, HTL.out, HF.out.1.stored (by omega) HF.out.2 _ _, HBw2.out.trans ((xr_store HB3 _ _).out.1.below HBw2.out.size (by omega))⟩
theorem sgM_odd (v : Int) (m : Nat) (h : m % 2 = 1) : sgM v m % 2 = 1 := by unfold sgM; split <;> omega
theorem sgM_val (v : Int) (T m : Nat) (h : v.natAbs = 2 ^ T * m) : v = sgM v m * 2 ^ T := by
  have h2 : ((v.natAbs : Nat) : Int) = (m : Int) * 2 ^ T := by rw [h, Nat.mul_comm, Int.natCast_mul, Int.natCast_pow]; rfl
  unfold sgM
  split
  · rw [Int.neg_mul, ← h2]; omega
  · rw [← h2]; omega
/-- Odd, by values. -/
theorem xOdd_val (p bd : Nat) (e B z : Int) (w : World) (h : ExV w p e B z bd) (hbd : bd ≤ 400000) (he1 : -1000000 ≤ e) (he2 : e ≤ 1000000) (hT : Tab32 w) (hs : 1 < w.heap.size) :
    Calls Tryz.prog 42 #[.agg #[.pointer (some ⟨p, 0, none⟩), .int .i64 e]] w fun r w' => ∃ q e', r = .returned (.agg #[.pointer (some ⟨q, 0, none⟩), .int .i64 e']) ∧ OddV w' q e' B z (bd + 1) ∧ (e' = 0 ∨ e ≤ e' ∧ e' ≤ e + 32 * bd) ∧ Below w.heap.size w w' := by
  obtain ⟨v, k, f1, f2, f3⟩ := h
  by_cases hv : v = 0
  · subst hv
    refine (xOdd_zero p bd e w f1).mono ?_
    rintro r w' ⟨q, rfl, hq, hn, hb⟩
    exact ⟨q, 0, rfl, Or.inl ⟨by rw [f3, Int.zero_mul], hn.more (by omega), rfl⟩, Or.inl rfl, hb⟩
  · refine (xOdd_some p bd v e w f1 hv hbd he1 he2 hT hs).mono ?_
    rintro r w' ⟨q, T, m, rfl, hq, h1, h2, h3, hn, hb⟩
    refine ⟨q, e + T, rfl, Or.inr ⟨sgM v m, T + k, sgM_odd v m h2, hn, by omega, ?_⟩, Or.inr (by omega), hb⟩
    rw [f3, Int.pow_add, ← Int.mul_assoc, ← sgM_val v T m h1]
end Go.Proofs.YtphdinjmkhefmaaGreatDoor

namespace Go.Proofs.YtphdinjmkhefmaaGreatDoor
open Go.RowKit Go.IntWalk

theorem natL_low (L : List Nat) : natL L % 4294967296 = L.getD 0 0 % 4294967296 := by
  match L with
  | [] => rfl
  | d :: t => show (d + 4294967296 * natL t) % 4294967296 = d % 4294967296; omega
set_option maxHeartbeats 400000 in
theorem NUlow (x v bd : Nat) (w : World) (hx : NumAt w x (v : Int) bd) :
    Calls Tryz.prog 45 #[.pointer (some ⟨x, 0, none⟩)] w fun r w' => ∃ u : Nat, r = .returned (.int .u64 u) ∧ u < 18446744073709551616 ∧ u % 4294967296 = v % 4294967296 ∧ w' = w := by
  obtain ⟨L, rfl, hL, hB⟩ := num_pos hx
  by_cases h2 : L.length ≤ 2
  · refine (Uint64_any x false L w hB h2).mono ?_
    obtain ⟨a, cap, ho, hcap, hm, hd, hc, hn⟩ := id hB
    rintro r w' ⟨rfl, rfl⟩
    have h0 := hd.get 0
    have h1 := hd.get 1
    exact ⟨natL L, rfl, by rw [natL_two L h2]; omega, rfl, rfl⟩
  · obtain ⟨a, cap, ho, hcap, hm, hd, hc, hn⟩ := hB
    obtain ⟨c0, c1, hf, hlt⟩ := int_cells ho
    have h0 := hd.get 0
    have h1 := hd.get 1
    have hor := or_words _ _ h0 h1
    obtain ⟨b, off, rfl, hb, m0'⟩ := hm 0 (by omega)
    have m0 : w.cell? ⟨b, off, none⟩ = some (.int .u32 (L.getD 0 0)) := m0'
    clear m0'
    obtain ⟨b', off', e', hb', m1⟩ := hm 1 (by omega)
    cases e'
    have HLOW := hid (natL_low L)
    obtain ⟨n, hnl⟩ : ∃ n, Hid (L.length = n) := ⟨_, rfl⟩
    rw [hnl.out] at c1 h2 hL
    obtain ⟨d, hdd⟩ : ∃ d, Hid (L.getD 0 0 = d) := ⟨_, rfl⟩
    obtain ⟨e, hee⟩ : ∃ e, Hid (L.getD 1 0 = e) := ⟨_, rfl⟩
    rw [hdd.out] at m0 hor h0 HLOW
    rw [hee.out] at m1 hor h1
    have hw0 : IntKind.u64.wrap (d : Int) = (d : Int) := by rw [IntKind.wrap_u64]; omega
    have hw1 : IntKind.u64.wrap (e : Int) = (e : Int) := by rw [IntKind.wrap_u64]; omega
    have HB1 := hid (And.intro h0 h1)
    obtain ⟨z, hz⟩ : ∃ z, Hid (d + 4294967296 * e = z) := ⟨_, rfl⟩
    rw [hz.out] at hor
    have hn0 : (0 : Int) < (n : Int) := by omega
    have hn1 : (1 : Int) < (n : Int) := by omega
    have hnN0 : 0 < n := by omega
    have hnN1 : 1 < n := by omega
    clear hm hd hc hn ho hcap hf h0 h1 h2 hL
    go_enter Tryz.func45, Tryz.ntmps45
    go_wp2
    go_ret
    refine ⟨z, by first | rfl | exact ret_int hor, ?_, ?_, rfl⟩
    · have := HB1.out; have := hz.out; omega
    · rw [HLOW.out]; have := hz.out; omega
end Go.Proofs.YtphdinjmkhefmaaGreatDoor

namespace Go.Proofs.YtphdinjmkhefmaaGreatDoor
open Go.RowKit Go.IntWalk

/-- The words from a place on. -/
def seg (b : Nat) (o : Nat → Nat) : Nat → Nat := fun j => o (b + j)
def digN (V t : Nat) : Nat := V / 4294967296 ^ t % 4294967296
/-- What holds ahead of the t-th round of put. -/
def PutI (o0 o : Nat → Nat) (b q s V c U t : Nat) : Prop :=
  natF (seg b o) 134 + 4294967296 ^ (q + t) * (c + U) = natF (seg b o0) 134 + 4294967296 ^ q * (V % 4294967296 ^ t * 2 ^ s) ∧ c ≤ 1 ∧ U < 2 ^ s ∧ (∀ j, o j < 4294967296) ∧ ∀ j, (j < b ∨ b + 134 ≤ j) → o j = o0 j
theorem PutI.zero (o : Nat → Nat) (b q s V : Nat) (ho : ∀ j, o j < 4294967296) : PutI o o b q s V 0 0 0 := by
  refine ⟨?_, by decide, Nat.two_pow_pos s, ho, fun _ _ => rfl⟩
  rw [Nat.pow_zero, Nat.mod_one, Nat.zero_mul, Nat.mul_zero, Nat.mul_zero]
theorem seg_set (b : Nat) (o : Nat → Nat) (i v : Nat) : seg b (fun j => if j = b + i then v else o j) = fun j => if j = i then v else seg b o j := by
  funext j
  show (if b + j = b + i then v else o (b + j)) = if j = i then v else o (b + j)
  by_cases h : j = i
  · rw [if_pos (by omega), if_pos h]
  · rw [if_neg (by omega), if_neg h]
theorem PutI.step {o0 o : Nat → Nat} {b q s V c U t : Nat} (h : PutI o0 o b q s V c U t) (hs : s < 32) (ht : q + t < 134) :
    PutI o0 (fun j => if j = b + (q + t) then (c + (o (b + (q + t)) + (U + digN V t * 2 ^ s) % 4294967296)) % 4294967296 else o j) b q s V ((c + (o (b + (q + t)) + (U + digN V t * 2 ^ s) % 4294967296)) / 4294967296) ((U + digN V t * 2 ^ s) / 4294967296) (t + 1) ∧ U + digN V t * 2 ^ s < 18446744073709551616 := by
  obtain ⟨h1, h2, h3, h4, h5⟩ := h
  have hd : digN V t < 4294967296 := Nat.mod_lt _ (by decide)
  have hx := h4 (b + (q + t))
  have hp := Nat.two_pow_pos s
  have h32 : (2 : Nat) ^ s ≤ 2 ^ 32 := Nat.pow_le_pow_right (by decide) (by omega)
  have e32 : (2 : Nat) ^ 32 = 4294967296 := by decide
  have hT : U + digN V t * 2 ^ s < 4294967296 * 2 ^ s := by
    have : (digN V t + 1) * 2 ^ s ≤ 4294967296 * 2 ^ s := Nat.mul_le_mul_right _ hd
    rw [Nat.add_mul, Nat.one_mul] at this
    omega
  have hT2 : U + digN V t * 2 ^ s < 18446744073709551616 := by
    have : 4294967296 * 2 ^ s ≤ 4294967296 * 4294967296 := Nat.mul_le_mul_left _ (by omega)
    omega
  have hmod : V % 4294967296 ^ (t + 1) = V % 4294967296 ^ t + 4294967296 ^ t * digN V t := by
    unfold digN
    rw [Nat.pow_succ, Nat.mod_mul]
  obtain ⟨T, hTT⟩ : ∃ T, U + digN V t * 2 ^ s = T := ⟨_, rfl⟩
  obtain ⟨x, hxx⟩ : ∃ x, o (b + (q + t)) = x := ⟨_, rfl⟩
  rw [hTT] at hT hT2 ⊢
  rw [hxx] at hx ⊢
  refine ⟨⟨?_, by omega, ?_, fun j => ?_, fun j hj => ?_⟩, hT2⟩
  · rw [seg_set]
    have e1 := natF_set (seg b o) 134 (q + t) ((c + (x + T % 4294967296)) % 4294967296) ht
    have e2 : seg b o (q + t) = x := hxx
    rw [e2] at e1
    have e3 : 4294967296 ^ q * (4294967296 ^ t * digN V t * 2 ^ s) = 4294967296 ^ (q + t) * (digN V t * 2 ^ s) := by
      rw [Nat.mul_assoc, ← Nat.mul_assoc, ← Nat.pow_add]
    have hr : 4294967296 ^ q * (V % 4294967296 ^ (t + 1) * 2 ^ s) = 4294967296 ^ q * (V % 4294967296 ^ t * 2 ^ s) + 4294967296 ^ (q + t) * (digN V t * 2 ^ s) := by rw [hmod, Nat.add_mul, Nat.mul_add, e3]
    have e4 : q + (t + 1) = q + t + 1 := by omega
    rw [hr, e4, Nat.pow_succ]
    have d1 := Nat.div_add_mod (c + (x + T % 4294967296)) 4294967296
    have d2 := Nat.div_add_mod T 4294967296
    obtain ⟨P, hP⟩ : ∃ P, 4294967296 ^ (q + t) = P := ⟨_, rfl⟩
    obtain ⟨F, hF⟩ : ∃ F, natF (seg b o) 134 = F := ⟨_, rfl⟩
    obtain ⟨F', hF'⟩ : ∃ F', natF (fun j => if j = q + t then (c + (x + T % 4294967296)) % 4294967296 else seg b o j) 134 = F' := ⟨_, rfl⟩
    obtain ⟨Z, hZ⟩ : ∃ Z, 4294967296 ^ q * (V % 4294967296 ^ t * 2 ^ s) = Z := ⟨_, rfl⟩
    obtain ⟨D, hD⟩ : ∃ D, digN V t * 2 ^ s = D := ⟨_, rfl⟩
    rw [hP, hF, hF'] at e1
    rw [hP, hF, hZ] at h1
    rw [hF', hP, hZ, hD]
    rw [hD] at hTT
    obtain ⟨R, hR⟩ : ∃ R, (c + (x + T % 4294967296)) % 4294967296 = R := ⟨_, rfl⟩
    obtain ⟨Q, hQ⟩ : ∃ Q, (c + (x + T % 4294967296)) / 4294967296 = Q := ⟨_, rfl⟩
    obtain ⟨l, hl⟩ : ∃ l, T % 4294967296 = l := ⟨_, rfl⟩
    obtain ⟨k, hk⟩ : ∃ k, T / 4294967296 = k := ⟨_, rfl⟩
    rw [hR, hQ, hl] at d1
    rw [hR] at e1
    rw [hl, hk] at d2
    rw [hQ, hk]
    have m1 : P * (4294967296 * Q + R) = P * (c + (x + l)) := by rw [d1]
    have m2 : P * (4294967296 * k + l) = P * T := by rw [d2]
    have m3 : P * T = P * U + P * D := by rw [← hTT, Nat.mul_add]
    rw [Nat.mul_add, Nat.mul_add, Nat.mul_add, ← Nat.mul_assoc] at m1
    rw [Nat.mul_add, ← Nat.mul_assoc] at m2
    rw [Nat.mul_add] at h1 ⊢
    omega
  · rw [Nat.div_lt_iff_lt_mul (by decide), Nat.mul_comm (2 ^ s)]
    exact hT
  · show (if j = b + (q + t) then _ else o j) < _
    split
    · exact Nat.mod_lt _ (by decide)
    · exact h4 j
  · show (if j = b + (q + t) then _ else o j) = _
    rw [if_neg (by omega)]
    exact h5 j hj
/-- What put has done, when nothing is carried any more. -/
theorem PutI.done {o0 o : Nat → Nat} {b q s V t : Nat} (h : PutI o0 o b q s V 0 0 t) (hV : V < 340282366920938463463374607431768211456) (ht : 4 ≤ t) : natF (seg b o) 134 = natF (seg b o0) 134 + V * 2 ^ (32 * q + s) ∧ (∀ j, o j < 4294967296) ∧ ∀ j, (j < b ∨ b + 134 ≤ j) → o j = o0 j := by
  obtain ⟨h1, _, _, h4, h5⟩ := h
  have hp : (340282366920938463463374607431768211456 : Nat) ≤ 4294967296 ^ t := by
    have : (4294967296 : Nat) ^ 4 ≤ 4294967296 ^ t := Nat.pow_le_pow_right (by decide) ht
    have e : (4294967296 : Nat) ^ 4 = 340282366920938463463374607431768211456 := by decide
    omega
  rw [Nat.mod_eq_of_lt (Nat.lt_of_lt_of_le hV hp), Nat.add_zero, Nat.mul_zero, Nat.add_zero, pow32, Nat.mul_left_comm, ← Nat.pow_add] at h1
  exact ⟨h1, h4, h5⟩
theorem PutI.last {o0 o : Nat → Nat} {b q s V c U t : Nat} (h : PutI o0 o b q s V c U t) (ht : q + t = 134) (hlt : natF (seg b o0) 134 + V * 2 ^ (32 * q + s) < 4294967296 ^ 134) : natF (seg b o) 134 = natF (seg b o0) 134 + V * 2 ^ (32 * q + s) ∧ (∀ j, o j < 4294967296) ∧ ∀ j, (j < b ∨ b + 134 ≤ j) → o j = o0 j := by
  obtain ⟨h1, _, _, h4, h5⟩ := h
  have e0 : V * 2 ^ (32 * q + s) = 4294967296 ^ q * (V * 2 ^ s) := by rw [pow32, Nat.mul_left_comm, ← Nat.pow_add]
  have hVt : V < 4294967296 ^ t := by
    apply Classical.byContradiction
    intro hc
    have a1 : 4294967296 ^ t ≤ V := by omega
    have a2 : 4294967296 ^ q * 4294967296 ^ t ≤ 4294967296 ^ q * (V * 2 ^ s) := Nat.mul_le_mul_left _ (Nat.le_trans a1 (Nat.le_mul_of_pos_right _ (Nat.two_pow_pos s)))
    rw [← Nat.pow_add, ht] at a2
    omega
  rw [Nat.mod_eq_of_lt hVt, ht, ← e0] at h1
  have hcu : c + U = 0 := by
    apply Classical.byContradiction
    intro hc
    have : 4294967296 ^ 134 * 1 ≤ 4294967296 ^ 134 * (c + U) := Nat.mul_le_mul_left _ (by omega)
    omega
  rw [hcu, Nat.mul_zero, Nat.add_zero] at h1
  exact ⟨h1, h4, h5⟩
end Go.Proofs.YtphdinjmkhefmaaGreatDoor
